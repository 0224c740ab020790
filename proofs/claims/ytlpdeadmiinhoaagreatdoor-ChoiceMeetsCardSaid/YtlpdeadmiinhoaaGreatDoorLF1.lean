/- The law on two choices: what both have, where the first one lacks it. -/
import Derived.Test.YtlpdeadmiinhoaaGreatDoorLA
namespace Go.Proofs.YtlpdeadmiinhoaaGreatDoor
open Go.RowKit

set_option maxRecDepth 100000 in
set_option maxHeartbeats 6400000 in
theorem law_no1 (x y : Ch) (vx vy : Value) (n most : Int) (w : World) (hx : ChIn w x vx) (hy : ChIn w y vy) (hlx : x.list.length ≤ 60) (hly : y.list.length ≤ 60)
    (hAw : ∀ wr, Below w.heap.size w wr → Calls Tryz.prog 9 #[] wr fun e w' => e = .returned (.bool true) ∧ Below wr.heap.size wr w') (hE : meetE x y = 0) (hE2 : meetE y x = 0) (hm : (meetO x y).isSome = true) (hm2 : (meetO y x).isSome = true) (hvx : validC x = true) (hvy : validC y = true) (hvD : validC ((meetO x y).getD zCh) = true) (hvD2 : validC ((meetO y x).getD zCh) = true) (hkd : ((meetO x y).getD zCh).kind = 2) (hln : ((meetO x y).getD zCh).list.length ≠ 20) (hx1 : x.has n = false) (hD1 : ((meetO x y).getD zCh).has n = false) :
    Calls Tryz.prog 3 #[vx, vy, .int .i64 n, .int .i64 most] w fun e w' => e = .returned (.bool true) ∧ Below w.heap.size w w' := by
  have hx0 := hx
  have hy0 := hy
  obtain ⟨a, ca, rfl, _, _, _, _, _⟩ := hx
  obtain ⟨b, cb, rfl, _, _, _, _, _⟩ := hy
  obtain ⟨X, hX⟩ : ∃ X : Obj, X = .cells #[.int .i64 x.kind, .int .i64 x.dflt, .slice a x.list.length ca] 24 := ⟨_, rfl⟩
  obtain ⟨Y, hY⟩ : ∃ Y : Obj, Y = .cells #[.int .i64 y.kind, .int .i64 y.dflt, .slice b y.list.length cb] 24 := ⟨_, rfl⟩
  have HF : In2 w X Y ((w.alloc (.cells #[.int .i64 x.kind, .int .i64 x.dflt, .slice a x.list.length ca] 24)).alloc (.cells #[.int .i64 y.kind, .int .i64 y.dflt, .slice b y.list.length cb] 24)) := hX ▸ hY ▸ In2.first w X Y
  have HC := Lib.hid fun (wr : World) (h : In2 w X Y wr) => In2.cells (hX ▸ hY ▸ h)
  have H10 := Lib.hid fun (wr : World) (hi : In2 w X Y wr) => calls_in2 hi (hasV_eq x n ▸ has_any x _ n wr (hx0.mono hi.same))
  have H11 := Lib.hid fun (wr : World) (hi : In2 w X Y wr) => calls_in2 hi (hasV_eq x n ▸ refHas_any x _ n wr (hx0.mono hi.same))
  have H12 := Lib.hid fun (wr : World) (hi : In2 w X Y wr) => (numbers_any x _ most wr (hx0.mono hi.same)).mono fun e w' ⟨a', c', h1, h2, h3, h4⟩ => (⟨a', c', h1, h2, h3, hi.next h4⟩ : ∃ a' c', e = Ending.returned (.tuple #[.slice a' (numList x most).length c', .int .i64 (numErr x most)]) ∧ IntsIn w' a' (numList x most) ∧ (numList x most).length ≤ c' ∧ In2 w X Y w')
  have H13 := Lib.hid fun (wr : World) (hi : In2 w X Y wr) (a1 : Option Addr) (c1 : Nat) (g1 : IntsIn wr a1 (numList x most)) (g2 : (numList x most).length ≤ c1) => (refNumbers_any x _ most wr (hx0.mono hi.same)).mono fun e w' ⟨a', c', h1, h2, h3, h4⟩ => (⟨a', c', h1, hi.next h4, g1.mono (Same.of_below h4), h2, g2, h3⟩ : ∃ a' c', e = Ending.returned (.tuple #[.slice a' (numList x most).length c', .int .i64 (numErr x most)]) ∧ Rws w X Y (numList x most) a1 a' c1 c' w')
  have HLL : (numList x most).length ≤ 17592186044416 := numList_small hx0 most
  have H16 := Lib.hid fun (wr : World) (a1 a2 : Option Addr) (c1 c2 : Nat) (h : Rws w X Y (numList x most) a1 a2 c1 c2 wr) => (rows_any _ _ a1 a2 c1 c2 wr HLL HLL h.h1 h.h2 h.l1 h.l2).mono fun e w' ⟨h1, h2⟩ => (⟨by rw [h1, rows_self], h.next h2⟩ : e = Ending.returned (.bool true) ∧ Rws w X Y (numList x most) a1 a2 c1 c2 w')
  have H14 := Lib.hid fun (wr : World) (a1 a2 : Option Addr) (c1 c2 : Nat) (h : Rws w X Y (numList x most) a1 a2 c1 c2 wr) => (validChoice_any x _ wr (hx0.mono h.i2.same)).mono fun e w' ⟨h1, h2⟩ => (⟨h1, h.next h2⟩ : e = Ending.returned (.bool (validC x)) ∧ Rws w X Y (numList x most) a1 a2 c1 c2 w')
  have H15 := Lib.hid fun (wr : World) (a1 a2 : Option Addr) (c1 c2 : Nat) (h : Rws w X Y (numList x most) a1 a2 c1 c2 wr) => (refValid_any x _ wr (hx0.mono h.i2.same)).mono fun e w' ⟨h1, h2⟩ => (⟨h1, h.next h2⟩ : e = Ending.returned (.bool (validC x)) ∧ Rws w X Y (numList x most) a1 a2 c1 c2 w')
  have H17 := Lib.hid fun (wr : World) (hi : In2 w X Y wr) => mtR_of hi 17 _ (meet17_any x y _ _ wr (hx0.mono hi.same) (hy0.mono hi.same))
  have H18 := Lib.hid fun (wr : World) (hi : In2 w X Y wr) => mtR_of hi 18 _ (meet18_any x y _ _ wr (hx0.mono hi.same) (hy0.mono hi.same))
  have H71 := Lib.hid fun (wr : World) (hi : In2 w X Y wr) => mtR_of hi 17 _ (meet17_any y x _ _ wr (hy0.mono hi.same) (hx0.mono hi.same))
  have H9 := Lib.hid fun (wr : World) (hi : In2 w X Y wr) => calls_in2 hi (hAw wr hi.out)
  have g60x : ¬ 60 < (x.list.length : Int) := by omega
  have g60y : ¬ 60 < (y.list.length : Int) := by omega
  obtain ⟨L, hL⟩ : ∃ L, numList x most = L := ⟨_, rfl⟩
  obtain ⟨pb, hpb⟩ : ∃ p, hasB x n = p := ⟨_, rfl⟩
  obtain ⟨pe, hpe⟩ : ∃ p, hasE x = p := ⟨_, rfl⟩
  obtain ⟨ne, hne⟩ : ∃ p, numErr x most = p := ⟨_, rfl⟩
  obtain ⟨vv, hvv⟩ : ∃ p, validC x = p := ⟨_, rfl⟩
  rw [hL] at H12 H13 H16 H14 H15
  rw [hpb, hpe] at H10 H11
  rw [hne] at H12 H13
  rw [hvv] at H14 H15
  rw [hE, hm] at H17 H18
  rw [hE2, hm2] at H71
  have HX20 := fun (wr : World) (B2 B3 : Nat) (D D2 : Ch) (a7 a10 : Option Addr) (c7 c10 : Nat) (h : Kp w X Y B2 B3 D D2 a7 c7 a10 c10 wr) => calls_kp h (has1_any x _ n wr (hx0.mono h.i2.same) (hasOk_valid hvx))
  have HY20 := fun (wr : World) (B2 B3 : Nat) (D D2 : Ch) (a7 a10 : Option Addr) (c7 c10 : Nat) (h : Kp w X Y B2 B3 D D2 a7 c7 a10 c10 wr) => calls_kp h (has1_any y _ n wr (hy0.mono h.i2.same) (hasOk_valid hvy))
  have HA9 := Lib.hid fun (wr : World) (B2 B3 : Nat) (D D2 : Ch) (a7 a10 : Option Addr) (c7 c10 : Nat) (h : Kp w X Y B2 B3 D D2 a7 c7 a10 c10 wr) => calls_kp h (hAw wr h.i2.out)
  obtain ⟨D, hD⟩ : ∃ D, (meetO x y).getD zCh = D := ⟨_, rfl⟩
  rw [hD]  at H17 H18
  obtain ⟨D2, hD2⟩ : ∃ D, (meetO y x).getD zCh = D := ⟨_, rfl⟩
  rw [hD2] at H71
  rw [hD] at hvD hkd hln hD1
  rw [hD2] at hvD2
  have HD20 := fun (wr : World) (B2 B3 : Nat) (a7 a10 : Option Addr) (c7 c10 : Nat) (h : Kp w X Y B2 B3 D D2 a7 c7 a10 c10 wr) => calls_kp h (has1_any D _ n wr h.b2.pt.chin (hasOk_valid hvD))
  have HV15 := Lib.hid fun (wr : World) (B2 B3 : Nat) (a7 a10 : Option Addr) (c7 c10 : Nat) (h : Kp w X Y B2 B3 D D2 a7 c7 a10 c10 wr) => calls_kp h (refValid_any D2 _ wr h.b3.pt.chin)
  rw [hvD2] at HV15
  unfold chV at HD20 HV15
  have gk : (D.kind == 2) = true := by simpa using hkd
  have gl : ((D.list.length : Int) == 20) = false := by simp; omega
  rw [hx1] at HX20
  rw [hD1] at HD20
  clear hkd hln hx1 hD1 HY20
  replace HX20 := Lib.hid HX20
  replace HD20 := Lib.hid HD20
  clear hvx hvy hvD hvD2 hD hD2 hE hE2 hm hm2
  have HFF := Lib.hid HF
  obtain ⟨⟨p0, p1, p2⟩, q0, q1, q2⟩ := HC.out _ HF
  clear hL hpb hpe hne hvv HLL hX hY HF hAw hlx hly
  go_enter Tryz.func3, Tryz.ntmps3
  go_upto_region 7 with (first
    | (go_at_call 10; (with_reducible refine (H10.out _ HFF.out).mono ?_); rintro e w1 ⟨rfl, hi1⟩; obtain ⟨⟨p0, p1, p2⟩, q0, q1, q2⟩ := HC.out _ hi1)
    | (go_at_call 11; (with_reducible refine (H11.out _ hi1).mono ?_); rintro e w2 ⟨rfl, hi2⟩; obtain ⟨⟨p0, p1, p2⟩, q0, q1, q2⟩ := HC.out _ hi2)
    | (go_at_call 12; (with_reducible refine (H12.out _ hi2).mono ?_); rintro e w3 ⟨a1, c1, rfl, g1, g2, hi3⟩; obtain ⟨⟨p0, p1, p2⟩, q0, q1, q2⟩ := HC.out _ hi3; have G := Lib.hid (And.intro g1 g2); clear g1 g2)
    | (go_at_call 13; (with_reducible refine (H13.out _ hi3 a1 c1 G.out.1 G.out.2).mono ?_); rintro e w4 ⟨a2, c2, rfl, hr4⟩; obtain ⟨⟨p0, p1, p2⟩, q0, q1, q2⟩ := HC.out _ hr4.i2))
  have HS : Hid (∀ wx : World, Rws w X Y L a1 a2 c1 c2 wx → wx.cell? ⟨w.heap.size, 0, none⟩ = some (.int .i64 x.kind) ∧ wx.cell? ⟨w.heap.size, 1, none⟩ = some (.int .i64 x.dflt) ∧ wx.cell? ⟨w.heap.size, 2, none⟩ = some (.slice a x.list.length ca) ∧ Rws w X Y L a1 a2 c1 c2 wx) := Lib.hid fun wx h => by
    obtain ⟨⟨p0, p1, p2⟩, _⟩ := HC.out wx h.i2
    exact ⟨p0, p1, p2, h⟩
  go_region_held3 (fun wx => wx.cell? ⟨w.heap.size, 0, none⟩ = some (.int .i64 x.kind) ∧ wx.cell? ⟨w.heap.size, 1, none⟩ = some (.int .i64 x.dflt) ∧ wx.cell? ⟨w.heap.size, 2, none⟩ = some (.slice a x.list.length ca) ∧ Rws w X Y L a1 a2 c1 c2 wx)
    (first
      | with_reducible exact HS.out _ hr4.drew
      | (go_split_ands; with_reducible exact HS.out _ (by assumption))
      | with_reducible exact HS.out _ hk)
    (first
      | (go_at_call 14; (with_reducible refine (H14.out _ _ _ _ _ (by go_split_ands; assumption)).mono ?_); rintro e wk1 ⟨rfl, hk⟩)
      | (go_at_call 15; (with_reducible refine (H15.out _ _ _ _ _ (by go_split_ands; assumption)).mono ?_); rintro e wk2 ⟨rfl, hk⟩)
      | (go_at_call 16; (with_reducible refine (H16.out _ _ _ _ _ (by go_split_ands; assumption)).mono ?_); rintro e wk3 ⟨rfl, hk⟩))

  have hk2 := hk.i2
  go_split_ands
  clear HS
  obtain ⟨⟨p0, p1, p2⟩, q0, q1, q2⟩ := HC.out _ hk2
  go_upto_region 10 with (go_at_call 17; (with_reducible refine (H17.out _ hk2).mono ?_); rintro e w5 ⟨a5, c5, rfl, hp5, hi5, hb5⟩)
  obtain ⟨W1, B1, hW1, hB1, hi6, hx6, hb6⟩ := law_pack hi5 hp5
  rw [← hW1, ← hB1]
  obtain ⟨⟨p0, p1, p2⟩, q0, q1, q2⟩ := HC.out _ hi6
  clear hW1 hB1
  go_upto_region 11 with (go_at_call 18; (with_reducible refine (H18.out _ hi6).mono ?_); rintro e w7 ⟨a7, c7, rfl, hp7, hi7, hb7⟩)
  obtain ⟨W2, B2, hW2, hB2, hi8, hx8, hb8⟩ := law_pack hi7 hp7
  rw [← hW2, ← hB2]
  have hy8 := (hx6.below hb7).below hb8
  obtain ⟨⟨p0, p1, p2⟩, q0, q1, q2⟩ := HC.out _ hi8
  have u0 := hy8.c0
  have u1 := hy8.c1
  have u2 := hy8.c2
  have v0 := hx8.c0
  have v1 := hx8.c1
  have v2 := hx8.c2
  clear hW2 hB2
  go_upto_region 16 with (first
    | (go_at_call 19; (with_reducible refine (calls_same hi8 hy8.pt hx8.pt).mono ?_); rintro e w9 ⟨rfl, hi9, hb9⟩; obtain ⟨⟨p0, p1, p2⟩, q0, q1, q2⟩ := HC.out _ hi9; have hz9 := hx8.below hb9)
    | (go_at_call 17; (with_reducible refine (H71.out _ hi9).mono ?_); rintro e w10 ⟨a10, c10, rfl, hp10, hi10, hb10⟩))
  obtain ⟨W3, B3, hW3, hB3, hi11, hx11, hb11⟩ := law_pack hi10 hp10
  rw [← hW3, ← hB3]
  have hz11 := (hz9.below hb10).below hb11
  clear hW3 hB3
  obtain ⟨⟨p0, p1, p2⟩, q0, q1, q2⟩ := HC.out _ hi11
  have w0 := hz11.c0
  have w1' := hz11.c1
  have w2' := hz11.c2
  go_upto_region 19 with fail
  have HK0 : Hid (Kp w X Y B2 B3 D D2 a7 c7 a10 c10 W3) := Lib.hid ⟨hi11, hz11, hx11⟩
  have HS : Hid (∀ wx : World, Kp w X Y B2 B3 D D2 a7 c7 a10 c10 wx → wx.cell? ⟨w.heap.size, 0, none⟩ = some (.int .i64 x.kind) ∧ wx.cell? ⟨w.heap.size, 1, none⟩ = some (.int .i64 x.dflt) ∧ wx.cell? ⟨w.heap.size, 2, none⟩ = some (.slice a x.list.length ca) ∧ wx.cell? ⟨w.heap.size + 1, 0, none⟩ = some (.int .i64 y.kind) ∧ wx.cell? ⟨w.heap.size + 1, 1, none⟩ = some (.int .i64 y.dflt) ∧ wx.cell? ⟨w.heap.size + 1, 2, none⟩ = some (.slice b y.list.length cb) ∧
      wx.cell? ⟨B2, 0, none⟩ = some (.int .i64 D.kind) ∧ wx.cell? ⟨B2, 1, none⟩ = some (.int .i64 D.dflt) ∧ wx.cell? ⟨B2, 2, none⟩ = some (.slice a7 D.list.length c7) ∧ wx.cell? ⟨B3, 0, none⟩ = some (.int .i64 D2.kind) ∧ wx.cell? ⟨B3, 1, none⟩ = some (.int .i64 D2.dflt) ∧ wx.cell? ⟨B3, 2, none⟩ = some (.slice a10 D2.list.length c10) ∧ Kp w X Y B2 B3 D D2 a7 c7 a10 c10 wx) := Lib.hid fun wx h => by
    obtain ⟨⟨p0, p1, p2⟩, q0, q1, q2⟩ := HC.out wx h.i2
    exact ⟨p0, p1, p2, q0, q1, q2, h.b2.c0, h.b2.c1, h.b2.c2, h.b3.c0, h.b3.c1, h.b3.c2, h⟩
  clear hz11 hx11 hi11 hy8 hx8 hz9 hp5 hp7 hp10 hb5 hb6 hb7 hb8 hb9 hb10 hb11 hi5 hi6 hi7 hi8 hi9 hi10 hx6
  clear u0 u1 u2 v0 v1 v2 w0 w1' w2' p0 p1 p2 q0 q1 q2
  have hS0 := HS.out _ HK0.out.drew
  replace HK0 := Lib.hid HK0.out.drew
  refine region_T (S := (fun wx => wx.cell? ⟨w.heap.size, 0, none⟩ = some (.int .i64 x.kind) ∧ wx.cell? ⟨w.heap.size, 1, none⟩ = some (.int .i64 x.dflt) ∧ wx.cell? ⟨w.heap.size, 2, none⟩ = some (.slice a x.list.length ca) ∧ wx.cell? ⟨w.heap.size + 1, 0, none⟩ = some (.int .i64 y.kind) ∧ wx.cell? ⟨w.heap.size + 1, 1, none⟩ = some (.int .i64 y.dflt) ∧ wx.cell? ⟨w.heap.size + 1, 2, none⟩ = some (.slice b y.list.length cb) ∧
      wx.cell? ⟨B2, 0, none⟩ = some (.int .i64 D.kind) ∧ wx.cell? ⟨B2, 1, none⟩ = some (.int .i64 D.dflt) ∧ wx.cell? ⟨B2, 2, none⟩ = some (.slice a7 D.list.length c7) ∧ wx.cell? ⟨B3, 0, none⟩ = some (.int .i64 D2.kind) ∧ wx.cell? ⟨B3, 1, none⟩ = some (.int .i64 D2.dflt) ∧ wx.cell? ⟨B3, 2, none⟩ = some (.slice a10 D2.list.length c10) ∧ Kp w X Y B2 B3 D D2 a7 c7 a10 c10 wx)) [] (by kernel_rfl) hS0 fun hHeld => ?_
  clear hHeld
  refine anyT_take (i := 0) (v := ?_) rfl (by kernel_rfl) (by kernel_rfl) (by kernel_rfl) (by kernel_rfl) (fun _ _ _ h => h) (Or.inl ⟨by kernel_rfl, ?_⟩) hS0 ?_
  rotate_left
  focus ((intro wq hSw; (try dsimp only at hSw); go_simp); try with_reducible rfl)
  try simp only [Act.put, List.getElem_toArray, List.getElem_cons_succ, List.getElem_cons_zero, List.setIfInBounds_toArray, List.set_cons_zero, List.set_cons_succ]
  refine anyT_take (i := 1) (v := ?_) rfl (by kernel_rfl) (by kernel_rfl) (by kernel_rfl) (by kernel_rfl) (fun _ _ _ h => h) (Or.inl ⟨by kernel_rfl, ?_⟩) hS0 ?_
  rotate_left
  focus ((intro wq hSw; (try dsimp only at hSw); go_simp); try with_reducible rfl)
  try simp only [Act.put, List.getElem_toArray, List.getElem_cons_succ, List.getElem_cons_zero, List.setIfInBounds_toArray, List.set_cons_zero, List.set_cons_succ]
  refine anyT_take (i := 2) (v := ?_) rfl (by kernel_rfl) (by kernel_rfl) (by kernel_rfl) (by kernel_rfl) (fun _ _ _ h => h) (Or.inl ⟨by kernel_rfl, ?_⟩) hS0 ?_
  rotate_left
  focus ((intro wq hSw; (try dsimp only at hSw); go_simp); try with_reducible rfl)
  try simp only [Act.put, List.getElem_toArray, List.getElem_cons_succ, List.getElem_cons_zero, List.setIfInBounds_toArray, List.set_cons_zero, List.set_cons_succ]
  refine anyT_take (i := 3) (v := ?_) rfl (by kernel_rfl) (by kernel_rfl) (by kernel_rfl) (by kernel_rfl) (fun _ _ _ h => h) (Or.inl ⟨by kernel_rfl, ?_⟩) hS0 ?_
  rotate_left
  focus ((intro wq hSw; (try dsimp only at hSw); go_simp); try with_reducible rfl)
  try simp only [Act.put, List.getElem_toArray, List.getElem_cons_succ, List.getElem_cons_zero, List.setIfInBounds_toArray, List.set_cons_zero, List.set_cons_succ]
  refine anyT_take (i := 5) (v := ?_) rfl (by kernel_rfl) (by kernel_rfl) (by kernel_rfl) (by kernel_rfl) (fun _ _ _ h => h) (Or.inl ⟨by kernel_rfl, ?_⟩) hS0 ?_
  rotate_left
  focus ((intro wq hSw; (try dsimp only at hSw); go_simp); try with_reducible rfl)
  try simp only [Act.put, List.getElem_toArray, List.getElem_cons_succ, List.getElem_cons_zero, List.setIfInBounds_toArray, List.set_cons_zero, List.set_cons_succ]
  refine anyT_take (i := 6) (v := ?_) rfl (by kernel_rfl) (by kernel_rfl) (by kernel_rfl) (by kernel_rfl) (fun _ _ _ h => h) (Or.inl ⟨by kernel_rfl, ?_⟩) hS0 ?_
  rotate_left
  focus ((intro wq hSw; (try dsimp only at hSw); go_simp); try with_reducible rfl)
  try simp only [Act.put, List.getElem_toArray, List.getElem_cons_succ, List.getElem_cons_zero, List.setIfInBounds_toArray, List.set_cons_zero, List.set_cons_succ]
  refine anyT_one (i := 4) (by kernel_rfl) rfl (fun K hK => ?_)
  go_simp
  (go_at_call 20; (with_reducible refine (HD20.out _ _ _ _ _ _ _ HK0.out).mono ?_); rintro e wk4 ⟨rfl, hk⟩)
  refine hK.out _ _ (fun _ => HS.out _ hk) ?_
  clear hK K
  have hS1 := HS.out _ hk
  clear hS0
  have hS0 := hS1
  clear hS1 HK0
  have HK0 := Lib.hid hk
  clear hk
  try simp only [Act.put, List.getElem_toArray, List.getElem_cons_succ, List.getElem_cons_zero, List.setIfInBounds_toArray, List.set_cons_zero, List.set_cons_succ]
  refine anyT_one (i := 7) (by kernel_rfl) rfl (fun K hK => ?_)
  go_simp
  (go_at_call 20; (with_reducible refine (HX20.out _ _ _ _ _ _ _ _ _ HK0.out).mono ?_); rintro e wk5 ⟨rfl, hk⟩)
  refine hK.out _ _ (fun _ => HS.out _ hk) ?_
  clear hK K
  have hS1 := HS.out _ hk
  clear hS0
  have hS0 := hS1
  clear hS1 HK0
  have HK0 := Lib.hid hk
  clear hk
  try simp only [Act.put, List.getElem_toArray, List.getElem_cons_succ, List.getElem_cons_zero, List.setIfInBounds_toArray, List.set_cons_zero, List.set_cons_succ]
  refine anyT_take (i := 8) (v := ?_) rfl (by kernel_rfl) (by kernel_rfl) (by kernel_rfl) (by kernel_rfl) (fun _ _ _ h => h) (Or.inl ⟨by kernel_rfl, ?_⟩) hS0 ?_
  rotate_left
  focus ((intro wq hSw; (try dsimp only at hSw); go_simp); try with_reducible rfl)
  try simp only [Act.put, List.getElem_toArray, List.getElem_cons_succ, List.getElem_cons_zero, List.setIfInBounds_toArray, List.set_cons_zero, List.set_cons_succ]
  refine anyT_skip (i := 9) rfl (by kernel_rfl) (by kernel_rfl) (by kernel_rfl) (by kernel_rfl) (fun _ _ _ h => h) (by kernel_rfl) hS0 ?_
  try simp only [Act.put, List.getElem_toArray, List.getElem_cons_succ, List.getElem_cons_zero, List.setIfInBounds_toArray, List.set_cons_zero, List.set_cons_succ]
  refine anyT_skip (i := 10) rfl (by kernel_rfl) (by kernel_rfl) (by kernel_rfl) (by kernel_rfl) (fun _ _ _ h => h) (by kernel_rfl) hS0 ?_
  try simp only [Act.put, List.getElem_toArray, List.getElem_cons_succ, List.getElem_cons_zero, List.setIfInBounds_toArray, List.set_cons_zero, List.set_cons_succ]
  refine anyT_skip (i := 11) rfl (by kernel_rfl) (by kernel_rfl) (by kernel_rfl) (by kernel_rfl) (fun _ _ _ h => h) (by kernel_rfl) hS0 ?_
  try simp only [Act.put, List.getElem_toArray, List.getElem_cons_succ, List.getElem_cons_zero, List.setIfInBounds_toArray, List.set_cons_zero, List.set_cons_succ]
  refine anyT_take (i := 12) (v := ?_) rfl (by kernel_rfl) (by kernel_rfl) (by kernel_rfl) (by kernel_rfl) (fun _ _ _ h => h) (Or.inl ⟨by kernel_rfl, ?_⟩) hS0 ?_
  rotate_left
  focus ((intro wq hSw; (try dsimp only at hSw); go_simp); try with_reducible rfl)
  try simp only [Act.put, List.getElem_toArray, List.getElem_cons_succ, List.getElem_cons_zero, List.setIfInBounds_toArray, List.set_cons_zero, List.set_cons_succ]
  refine anyT_take (i := 13) (v := ?_) rfl (by kernel_rfl) (by kernel_rfl) (by kernel_rfl) (by kernel_rfl) (fun _ _ _ h => h) (Or.inl ⟨by kernel_rfl, ?_⟩) hS0 ?_
  rotate_left
  focus ((intro wq hSw; (try dsimp only at hSw); go_simp); try with_reducible rfl)
  try simp only [Act.put, List.getElem_toArray, List.getElem_cons_succ, List.getElem_cons_zero, List.setIfInBounds_toArray, List.set_cons_zero, List.set_cons_succ]
  refine anyT_take (i := 14) (v := ?_) rfl (by kernel_rfl) (by kernel_rfl) (by kernel_rfl) (by kernel_rfl) (fun _ _ _ h => h) (Or.inl ⟨by kernel_rfl, ?_⟩) hS0 ?_
  rotate_left
  focus ((intro wq hSw; (try dsimp only at hSw); go_simp); try with_reducible rfl)
  try simp only [Act.put, List.getElem_toArray, List.getElem_cons_succ, List.getElem_cons_zero, List.setIfInBounds_toArray, List.set_cons_zero, List.set_cons_succ]
  refine anyT_take (i := 15) (v := ?_) rfl (by kernel_rfl) (by kernel_rfl) (by kernel_rfl) (by kernel_rfl) (fun _ _ _ h => h) (Or.inl ⟨by kernel_rfl, ?_⟩) hS0 ?_
  rotate_left
  focus ((intro wq hSw; (try dsimp only at hSw); go_simp); try with_reducible rfl)
  try simp only [Act.put, List.getElem_toArray, List.getElem_cons_succ, List.getElem_cons_zero, List.setIfInBounds_toArray, List.set_cons_zero, List.set_cons_succ]
  refine anyT_take (i := 16) (v := ?_) rfl (by kernel_rfl) (by kernel_rfl) (by kernel_rfl) (by kernel_rfl) (fun _ _ _ h => h) (Or.inl ⟨by kernel_rfl, ?_⟩) hS0 ?_
  rotate_left
  focus ((intro wq hSw; (try dsimp only at hSw); go_simp); try with_reducible rfl)
  try simp only [Act.put, List.getElem_toArray, List.getElem_cons_succ, List.getElem_cons_zero, List.setIfInBounds_toArray, List.set_cons_zero, List.set_cons_succ]
  refine anyT_one (i := 17) (by kernel_rfl) rfl (fun K hK => ?_)
  go_simp
  (go_at_call 15; (with_reducible refine (HV15.out _ _ _ _ _ _ _ HK0.out).mono ?_); rintro e wk7 ⟨rfl, hk⟩)
  refine hK.out _ _ (fun _ => HS.out _ hk) ?_
  clear hK K
  have hS1 := HS.out _ hk
  clear hS0
  have hS0 := hS1
  clear hS1 HK0
  have HK0 := Lib.hid hk
  clear hk
  try simp only [Act.put, List.getElem_toArray, List.getElem_cons_succ, List.getElem_cons_zero, List.setIfInBounds_toArray, List.set_cons_zero, List.set_cons_succ]
  refine anyT_take (i := 18) (v := ?_) rfl (by kernel_rfl) (by kernel_rfl) (by kernel_rfl) (by kernel_rfl) (fun _ _ _ h => h) (Or.inl ⟨by kernel_rfl, ?_⟩) hS0 ?_
  rotate_left
  focus ((intro wq hSw; (try dsimp only at hSw); go_simp); try with_reducible rfl)
  try simp only [Act.put, List.getElem_toArray, List.getElem_cons_succ, List.getElem_cons_zero, List.setIfInBounds_toArray, List.set_cons_zero, List.set_cons_succ]
  refine anyT_take (i := 19) (v := ?_) rfl (by kernel_rfl) (by kernel_rfl) (by kernel_rfl) (by kernel_rfl) (fun _ _ _ h => h) (Or.inl ⟨by kernel_rfl, ?_⟩) hS0 ?_
  rotate_left
  focus ((intro wq hSw; (try dsimp only at hSw); go_simp); try with_reducible rfl)
  try simp only [Act.put, List.getElem_toArray, List.getElem_cons_succ, List.getElem_cons_zero, List.setIfInBounds_toArray, List.set_cons_zero, List.set_cons_succ]
  refine anyT_one (i := 20) (by kernel_rfl) rfl (fun K hK => ?_)
  go_simp
  (go_at_call 9; (with_reducible refine (HA9.out _ _ _ _ _ _ _ _ _ HK0.out).mono ?_); rintro e wk8 ⟨rfl, hk⟩)
  refine hK.out _ _ (fun _ => HS.out _ hk) ?_
  clear hK K
  have hS1 := HS.out _ hk
  clear hS0
  have hS0 := hS1
  clear hS1 HK0
  have HK0 := Lib.hid hk
  clear hk
  try simp only [Act.put, List.getElem_toArray, List.getElem_cons_succ, List.getElem_cons_zero, List.setIfInBounds_toArray, List.set_cons_zero, List.set_cons_succ]
  refine anyT_take (i := 21) (v := ?_) rfl (by kernel_rfl) (by kernel_rfl) (by kernel_rfl) (by kernel_rfl) (fun _ _ _ h => h) (Or.inl ⟨by kernel_rfl, ?_⟩) hS0 ?_
  rotate_left
  focus ((intro wq hSw; (try dsimp only at hSw); go_simp); try with_reducible rfl)
  try simp only [Act.put, List.getElem_toArray, List.getElem_cons_succ, List.getElem_cons_zero, List.setIfInBounds_toArray, List.set_cons_zero, List.set_cons_succ]
  refine anyT_take (i := 22) (v := ?_) rfl (by kernel_rfl) (by kernel_rfl) (by kernel_rfl) (by kernel_rfl) (fun _ _ _ h => h) (Or.inl ⟨by kernel_rfl, ?_⟩) hS0 ?_
  rotate_left
  focus ((intro wq hSw; (try dsimp only at hSw); go_simp); try with_reducible rfl)
  try simp only [Act.put, List.getElem_toArray, List.getElem_cons_succ, List.getElem_cons_zero, List.setIfInBounds_toArray, List.set_cons_zero, List.set_cons_succ]
  refine anyT_done (by kernel_rfl) ?_ _
  go_wp2_with fail
  go_ret
  exact ⟨rfl, HK0.out.i2.out⟩
end Go.Proofs.YtlpdeadmiinhoaaGreatDoor
