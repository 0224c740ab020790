/- New. -/
import Derived.Test.YtgcohmlapgnbdaaRL
namespace Go.Proofs.Ytgcohmlapgnbdaa
open Go.RowKit Go.Shelf Go.Deep

def chB (n : Int) : Bool := decide (1 ≤ n) && decide (n ≤ 8)
def newB (sz ch fi : Int) : Bool := sizB sz && chB ch && ctrB fi
def newG (sz ch : Nat) (fi : Int) : Rg := ⟨sz, ch, fi, fi, false, 0, fi, fi, false, 0, List.replicate sz (List.replicate ch 0)⟩
theorem newG_ok {sz ch : Nat} {fi : Int} (h : newB sz ch fi = true) : (newG sz ch fi).Ok := by
  simp only [newB, Bool.and_eq_true] at h
  obtain ⟨⟨h1, h2⟩, h3⟩ := h
  obtain ⟨a1, a2⟩ := sizB_t h1
  obtain ⟨b1, b2⟩ := ctrB_t h3
  simp [chB] at h2
  refine ⟨by show 1 ≤ sz; omega, by show sz ≤ 1024; omega, by show 1 ≤ ch; omega, by show ch ≤ 8; omega, ⟨b1, b2⟩, ⟨b1, b2⟩, fun p i => ?_⟩
  have : ((List.replicate sz (List.replicate ch (0 : Int))).getD p []).getD i 0 = 0 := by
    by_cases hp : p < sz
    · by_cases hi : i < ch
      · simp [List.getD, List.getElem?_replicate, hp, hi]
      · simp [List.getD, List.getElem?_replicate, hp, hi]
    · simp [List.getD, List.getElem?_replicate, hp]
  rw [show (newG sz ch fi).m = List.replicate sz (List.replicate ch 0) from rfl, this]
  unfold I64; omega
theorem new_smp {sz ch : Nat} {fi : Int} (i : Nat) : (newG sz ch fi).smp i = 0 := by
  show ((List.replicate sz (List.replicate ch (0 : Int))).getD (i / ch) []).getD (i % ch) 0 = 0
  by_cases hp : i / ch < sz
  · by_cases hi : i % ch < ch
    · simp [List.getD, List.getElem?_replicate, hp, hi]
    · simp [List.getD, List.getElem?_replicate, hp, hi]
  · simp [List.getD, List.getElem?_replicate, hp]
theorem new_ring {sz ch : Nat} {fi : Int} {w : World} : RingAt (w.heap.size + 1) w.heap.size (newG sz ch fi) ((w.alloc (.cells (madeCells #[.int .i64 0] (sz * ch)) 3)).alloc (.cells #[.int .i64 sz, .int .i64 ch, .slice (some ⟨w.heap.size, 0, none⟩) (sz * ch) (sz * ch), .int .u16 fi, .int .u16 fi, .bool false, .int .i64 0, .int .u16 fi, .int .u16 fi, .bool false, .int .i64 0] 77)) := by
  refine ⟨by omega, by simp [newG], fun p hp => by simp [newG, List.getD, List.getElem?_replicate] at hp ⊢; simp [hp], ⟨sz * ch, Nat.le_refl _, ?_⟩, sz * ch, _, (World.rowIs_made w (.int .i64 0) (sz * ch) 3).alloc _, Nat.le_refl _, fun i _ => by rw [new_smp]⟩
  have := World.rowIs_alloc (w.alloc (.cells (madeCells #[.int .i64 0] (sz * ch)) 3)) #[.int .i64 sz, .int .i64 ch, .slice (some ⟨w.heap.size, 0, none⟩) (sz * ch) (sz * ch), .int .u16 fi, .int .u16 fi, .bool false, .int .i64 0, .int .u16 fi, .int .u16 fi, .bool false, .int .i64 0] 77 ((newG sz ch fi).val w.heap.size (sz * ch)) (fun i hi => by
    simp at hi
    match i with
    | 0 => rfl | 1 => rfl | 2 => rfl | 3 => rfl | 4 => rfl | 5 => rfl | 6 => rfl | 7 => rfl | 8 => rfl | 9 => rfl | 10 => rfl
    | i + 11 => omega)
  simpa using this
/-- What New's closure gives: a ring in new memory. -/
def NewRing (g : Rg) (w : World) (e : Ending) (w' : World) : Prop := ∃ P R, e = .returned (.pointer (some ⟨P, 0, none⟩)) ∧ RingAt P R g w' ∧ (w.heap.size ≤ P ∧ w.heap.size ≤ R) ∧ Below w.heap.size w w'
set_option maxHeartbeats 2000000 in
set_option maxRecDepth 100000 in
theorem new36_yes (sz ch : Nat) (fi : Int) (Bs Bc Bf : Nat) (w : World) (hb : newB sz ch fi = true) (k0 : w.cell? ⟨Bs, 0, none⟩ = some (.int .i64 sz)) (k1 : w.cell? ⟨Bc, 0, none⟩ = some (.int .i64 ch)) (k2 : w.cell? ⟨Bf, 0, none⟩ = some (.int .i64 fi)) :
    Calls Try.prog 36 #[at0 Bs, at0 Bc, at0 Bf] w (NewRing (newG sz ch fi) w) := by
  have hok := newG_ok hb
  simp only [newB, Bool.and_eq_true] at hb
  obtain ⟨⟨h1, h2⟩, h3⟩ := hb
  have hs := mustSiz_yes h1 w
  have hc := mustCtr_yes h3 w
  have hm := must_yes 7 w
  have e3 := conv16 h3
  have E3 := Lib.hid e3
  simp [chB] at h2
  have d0 : (1 : Int) ≤ (ch : Int) := by omega
  have d1 : (ch : Int) ≤ 8 := by omega
  have d2 : decide ((1 : Int) ≤ (ch : Int)) = true := decide_eq_true d0
  have d3 : decide ((ch : Int) ≤ 8) = true := decide_eq_true d1
  have d4 : decide (ch ≤ 8) = true := decide_eq_true (by omega)
  have d5 : decide (1 ≤ ch) = true := decide_eq_true (by omega)
  have hsz : sz ≤ 1024 := hok.s2
  have hle : sz * ch ≤ 8192 := Nat.le_trans (Nat.mul_le_mul hsz hok.c2) (by decide)
  have hnr := (fun (x : World) => new_ring (sz := sz) (ch := ch) (fi := fi) (w := x))
  obtain ⟨L, hL⟩ : ∃ L, sz * ch = L := ⟨_, rfl⟩
  have hmul : IntKind.i64.wrap ((sz : Int) * (ch : Int)) = ((sz * ch : Nat) : Int) := by
    rw [← Int.natCast_mul]; exact IntWalk.i64_in _ (by omega)
  rw [hL] at hmul hle
  simp only [hL] at hnr
  have HMUL := Lib.hid hmul
  have HLE := Lib.hid hle
  have HX : Hid (∀ x, Below w.heap.size w x → (x.cell? ⟨Bs, 0, none⟩ = some (.int .i64 sz) ∧ x.cell? ⟨Bc, 0, none⟩ = some (.int .i64 ch))) := Lib.hid fun x hx => ⟨(Same.of_below hx).cell k0, (Same.of_below hx).cell k1⟩
  have HNR := Lib.hid hnr
  clear hok h1 h3 e3 hmul hle h2 hnr hL
  go_enter Try.func36, Try.ntmps36
  go_upto_region 5 with (first | (go_at_call 37; (with_reducible refine hs.mono ?_); rintro e w1 ⟨rfl, rfl⟩) | (go_at_call 39; (with_reducible refine hc.mono ?_); rintro e w1 ⟨rfl, rfl⟩) | (go_at_call 38; (with_reducible refine hm.mono ?_); rintro e w1 ⟨rfl, rfl⟩))
  rw [E3.out]
  obtain ⟨Z, hZ⟩ : ∃ Z, w.alloc (.cells #[.int .u16 fi, .int .u16 fi, .bool false, .int .i64 0] 72) = Z := ⟨_, rfl⟩
  obtain ⟨T, hT⟩ : ∃ T, w.heap.size = T := ⟨_, rfl⟩
  have hbZ : Below T w Z := by rw [← hZ, ← hT]; exact (Below.refl _ w).alloc (Nat.le_refl _) _
  have hST : Hid (∀ x, Below Z.heap.size Z x → (x.cell? ⟨Bs, 0, none⟩ = some (.int .i64 sz) ∧ x.cell? ⟨Bc, 0, none⟩ = some (.int .i64 ch)) ∧ (x.cell? ⟨T, 0, none⟩ = some (.int .u16 fi) ∧ x.cell? ⟨T, 1, none⟩ = some (.int .u16 fi) ∧ x.cell? ⟨T, 2, none⟩ = some (.bool false) ∧ x.cell? ⟨T, 3, none⟩ = some (.int .i64 0))) := Lib.hid fun x hx => by
    refine ⟨HX.out x (by rw [hT]; exact Below.then hbZ (by rw [← hT]; exact Nat.le_refl _) hx), ?_⟩
    have f : ∀ k v, Z.cell? ⟨T, k, none⟩ = some v → x.cell? ⟨T, k, none⟩ = some v := fun k v h => (Same.of_below hx).cell h
    refine ⟨f _ _ ?_, f _ _ ?_, f _ _ ?_, f _ _ ?_⟩ <;> (rw [← hZ, ← hT]; simp [go_sem])
  rw [hZ]
  rw [hT]
  have HBZ : Hid (Below w.heap.size w Z) := Lib.hid (by rw [hT]; exact hbZ)
  clear hZ hT hbZ k0 k1 k2 hs hc hm
  refine region_T (S := fun wx => (wx.cell? ⟨Bs, 0, none⟩ = some (.int .i64 sz) ∧ wx.cell? ⟨Bc, 0, none⟩ = some (.int .i64 ch)) ∧ (wx.cell? ⟨T, 0, none⟩ = some (.int .u16 fi) ∧ wx.cell? ⟨T, 1, none⟩ = some (.int .u16 fi) ∧ wx.cell? ⟨T, 2, none⟩ = some (.bool false) ∧ wx.cell? ⟨T, 3, none⟩ = some (.int .i64 0))) [11, 12] (by kernel_rfl) (hST.out _ (below_drew (Below.refl _ Z))) (fun _ => ?_)
  have hS0 := hST.out _ (below_drew (Below.refl _ Z))
  obtain ⟨W, hW⟩ : ∃ W, Z.drew = W := ⟨_, rfl⟩
  have hB : Below Z.heap.size Z W := by rw [← hW]; exact below_drew (Below.refl _ Z)
  rw [hW] at hS0 ⊢
  clear hW
  refine anyT_take (i := 0) (v := ?_) rfl (by kernel_rfl) (by kernel_rfl) (by kernel_rfl) (by kernel_rfl) (fun _ _ _ h => h) (Or.inl ⟨by rfl, ?_⟩) (by assumption) ?_
  rotate_left
  focus ((intro wq hSw; (try dsimp only at hSw); go_simp); try with_reducible rfl)
  try simp only [Act.put, List.getElem_toArray, List.getElem_cons_succ, List.getElem_cons_zero, List.setIfInBounds_toArray, List.set_cons_zero, List.set_cons_succ]
  refine anyT_take (i := 1) (v := ?_) rfl (by kernel_rfl) (by kernel_rfl) (by kernel_rfl) (by kernel_rfl) (fun _ _ _ h => h) (Or.inl ⟨by rfl, ?_⟩) (by assumption) ?_
  rotate_left
  focus ((intro wq hSw; (try dsimp only at hSw); go_simp); try with_reducible rfl)
  try simp only [Act.put, List.getElem_toArray, List.getElem_cons_succ, List.getElem_cons_zero, List.setIfInBounds_toArray, List.set_cons_zero, List.set_cons_succ]
  refine anyT_take (i := 2) (v := ?_) rfl (by kernel_rfl) (by kernel_rfl) (by kernel_rfl) (by kernel_rfl) (fun _ _ _ h => h) (Or.inl ⟨by rfl, ?_⟩) (by assumption) ?_
  rotate_left
  focus ((intro wq hSw; (try dsimp only at hSw); go_simp); try with_reducible rfl)
  try simp only [Act.put, List.getElem_toArray, List.getElem_cons_succ, List.getElem_cons_zero, List.setIfInBounds_toArray, List.set_cons_zero, List.set_cons_succ]
  refine anyT_take (i := 3) (v := ?_) rfl (by kernel_rfl) (by kernel_rfl) (by kernel_rfl) (by kernel_rfl) (fun _ _ _ h => h) (Or.inl ⟨by rfl, ?_⟩) (by assumption) ?_
  rotate_left
  focus ((intro wq hSw; (try dsimp only at hSw); go_simp); try with_reducible rfl)
  try simp only [Act.put, List.getElem_toArray, List.getElem_cons_succ, List.getElem_cons_zero, List.setIfInBounds_toArray, List.set_cons_zero, List.set_cons_succ]
  refine anyT_take (i := 4) (v := ?_) rfl (by kernel_rfl) (by kernel_rfl) (by kernel_rfl) (by kernel_rfl) (fun _ _ _ h => h) (Or.inl ⟨by rfl, ?_⟩) (by assumption) ?_
  rotate_left
  focus ((intro wq hSw; (try dsimp only at hSw); go_simp); try with_reducible rfl)
  try simp only [Act.put, List.getElem_toArray, List.getElem_cons_succ, List.getElem_cons_zero, List.setIfInBounds_toArray, List.set_cons_zero, List.set_cons_succ]
  rw [HMUL.out]
  refine anyT_take (i := 6) (v := ?_) rfl (by kernel_rfl) (by kernel_rfl) (by kernel_rfl) (by kernel_rfl) (fun _ _ _ h => h) (Or.inl ⟨by rfl, ?_⟩) (by assumption) ?_
  rotate_left
  focus ((intro wq hSw; (try dsimp only at hSw); go_simp); try with_reducible rfl)
  try simp only [Act.put, List.getElem_toArray, List.getElem_cons_succ, List.getElem_cons_zero, List.setIfInBounds_toArray, List.set_cons_zero, List.set_cons_succ]
  refine anyT_take (i := 7) (v := ?_) rfl (by kernel_rfl) (by kernel_rfl) (by kernel_rfl) (by kernel_rfl) (fun _ _ _ h => h) (Or.inl ⟨by rfl, ?_⟩) (by assumption) ?_
  rotate_left
  focus ((intro wq hSw; (try dsimp only at hSw); go_simp); try with_reducible rfl)
  try simp only [Act.put, List.getElem_toArray, List.getElem_cons_succ, List.getElem_cons_zero, List.setIfInBounds_toArray, List.set_cons_zero, List.set_cons_succ]
  refine anyT_take (i := 8) (v := ?_) rfl (by kernel_rfl) (by kernel_rfl) (by kernel_rfl) (by kernel_rfl) (fun _ _ _ h => h) (Or.inl ⟨by rfl, ?_⟩) (by assumption) ?_
  rotate_left
  focus ((intro wq hSw; (try dsimp only at hSw); go_simp); try with_reducible rfl)
  try simp only [Act.put, List.getElem_toArray, List.getElem_cons_succ, List.getElem_cons_zero, List.setIfInBounds_toArray, List.set_cons_zero, List.set_cons_succ]
  refine anyT_take (i := 9) (v := ?_) rfl (by kernel_rfl) (by kernel_rfl) (by kernel_rfl) (by kernel_rfl) (fun _ _ _ h => h) (Or.inl ⟨by rfl, ?_⟩) (by assumption) ?_
  rotate_left
  focus ((intro wq hSw; (try dsimp only at hSw); go_simp); try with_reducible rfl)
  try simp only [Act.put, List.getElem_toArray, List.getElem_cons_succ, List.getElem_cons_zero, List.setIfInBounds_toArray, List.set_cons_zero, List.set_cons_succ]
  have hmk := run_make_row' (P := Try.prog) 39 3 (.int .i64 0) 8 Try.underlying39 Try.info3 rfl .i64 .i64 L (by have := HLE.out; omega) (by have := HLE.out; omega)
  refine anyT_one (i := 5) (by kernel_rfl) rfl (fun K hK => ?_)
  go_simp
  refine hK.out _ _ (fun _ => hST.out _ (hB.alloc hB.size _)) ?_
  clear hK K hmk
  try simp only [Act.put, List.getElem_toArray, List.getElem_cons_succ, List.getElem_cons_zero, List.setIfInBounds_toArray, List.set_cons_zero, List.set_cons_succ]
  refine anyT_one (i := 10) (by kernel_rfl) rfl (fun K hK => ?_)
  go_simp
  refine hK.out _ _ (fun _ => hST.out _ (hB.alloc hB.size _)) ?_
  clear hK K
  try simp only [Act.put, List.getElem_toArray, List.getElem_cons_succ, List.getElem_cons_zero, List.setIfInBounds_toArray, List.set_cons_zero, List.set_cons_succ]
  refine anyT_one (i := 11) (by kernel_rfl) rfl (fun K hK => ?_)
  go_simp
  refine hK.out _ _ (fun h => by cases h) ?_
  clear hK K
  try simp only [Act.put, List.getElem_toArray, List.getElem_cons_succ, List.getElem_cons_zero, List.setIfInBounds_toArray, List.set_cons_zero, List.set_cons_succ]
  refine anyT_one (i := 12) (by kernel_rfl) rfl (fun K hK => ?_)
  go_simp
  refine hK.out _ _ (fun h => by cases h) ?_
  clear hK K
  refine anyT_done (by kernel_rfl) ?_ _
  have HF := Lib.hid (HNR.out W)
  have HBW := Lib.hid (show Below w.heap.size w W from Below.then HBZ.out (Nat.le_refl _) hB)
  go_wp2_with fail
  go_ret
  exact ⟨_, _, rfl, HF.out, ⟨by have := HBW.out.size; simp; omega, HBW.out.size⟩, (HBW.out.alloc HBW.out.size _).alloc (by have := HBW.out.size; simp; omega) _⟩

set_option maxRecDepth 100000 in
theorem new36_no (sz ch fi : Int) (Bs Bc Bf : Nat) (w : World) (hb : newB sz ch fi = false) (k0 : w.cell? ⟨Bs, 0, none⟩ = some (.int .i64 sz)) (k1 : w.cell? ⟨Bc, 0, none⟩ = some (.int .i64 ch)) (k2 : w.cell? ⟨Bf, 0, none⟩ = some (.int .i64 fi)) :
    Calls Try.prog 36 #[at0 Bs, at0 Bc, at0 Bf] w (LeavesX 7 w) := by
  have hm := must_yes 7 w
  have hn := must_no 7 w
  cases h1 : sizB sz with
  | false =>
    have hs := mustSiz_no h1 w
    clear hb h1
    go_enter Try.func36, Try.ntmps36
    go_wp2_with (go_at_call 37; (with_reducible refine hs.mono ?_); rintro e w1 ⟨rfl, rfl⟩)
    exact ⟨rfl, rfl, Below.refl _ _⟩
  | true =>
    have hs := mustSiz_yes h1 w
    by_cases a1 : 1 ≤ ch
    · by_cases a2 : ch ≤ 8
      · have h3 : ctrB fi = false := by
          cases hf : ctrB fi with
          | false => rfl
          | true => simp [newB, h1, chB, a1, a2, hf] at hb
        have hc := mustCtr_no h3 w
        clear hb h1 h3
        go_enter Try.func36, Try.ntmps36
        go_wp2_with (first | (go_at_call 37; (with_reducible refine hs.mono ?_); rintro e w1 ⟨rfl, rfl⟩) | (go_at_call 39; (with_reducible refine hc.mono ?_); rintro e w1 ⟨rfl, rfl⟩) | (go_at_call 38; (with_reducible refine hm.mono ?_); rintro e w1 ⟨rfl, rfl⟩))
        exact ⟨rfl, rfl, Below.refl _ _⟩
      · have a3 : decide (ch ≤ 8) = false := decide_eq_false a2
        clear hb h1
        go_enter Try.func36, Try.ntmps36
        go_wp2_with (first | (go_at_call 37; (with_reducible refine hs.mono ?_); rintro e w1 ⟨rfl, rfl⟩) | (go_at_call 38; (with_reducible refine hn.mono ?_); rintro e w1 ⟨rfl, rfl⟩))
        exact ⟨rfl, rfl, Below.refl _ _⟩
    · clear hb h1
      go_enter Try.func36, Try.ntmps36
      go_wp2_with (first | (go_at_call 37; (with_reducible refine hs.mono ?_); rintro e w1 ⟨rfl, rfl⟩) | (go_at_call 38; (with_reducible refine hn.mono ?_); rintro e w1 ⟨rfl, rfl⟩))
      exact ⟨rfl, rfl, Below.refl _ _⟩
/-- New, whole. -/
def NewAns (sz ch fi : Int) (w : World) (e : Ending) (w' : World) : Prop :=
  (newB sz ch fi = true ∧ ∃ P R, e = .returned (.tuple #[.pointer (some ⟨P, 0, none⟩), .int .i64 0]) ∧ RingAt P R (newG sz.toNat ch.toNat fi) w' ∧ (w.heap.size ≤ P ∧ w.heap.size ≤ R) ∧ Below w.heap.size w w') ∨
  (newB sz ch fi = false ∧ e = .returned (.tuple #[.pointer none, .int .i64 7]) ∧ Below w.heap.size w w')
theorem newG_cast {sz ch fi : Int} (h : newB sz ch fi = true) : ((sz.toNat : Nat) : Int) = sz ∧ ((ch.toNat : Nat) : Int) = ch := by
  simp only [newB, Bool.and_eq_true] at h
  obtain ⟨⟨h1, h2⟩, h3⟩ := h
  obtain ⟨a1, a2⟩ := sizB_t h1
  simp [chB] at h2
  omega
set_option maxHeartbeats 1000000 in
set_option maxRecDepth 100000 in
theorem new_any (sz ch fi : Int) (w : World) : Calls Try.prog 10 #[.int .i64 sz, .int .i64 ch, .int .i64 fi] w (NewAns sz ch fi w) := by
  have hmf := makes
  obtain ⟨X, hX⟩ : ∃ X, Obj.cells #[.int .i64 sz] 3 = X := ⟨_, rfl⟩
  obtain ⟨Y, hY⟩ : ∃ Y, Obj.cells #[.int .i64 ch] 3 = Y := ⟨_, rfl⟩
  obtain ⟨U, hU⟩ : ∃ U, Obj.cells #[.int .i64 fi] 3 = U := ⟨_, rfl⟩
  have hbel : Below w.heap.size w (((w.alloc X).alloc Y).alloc U) := ((((Below.refl _ w).alloc (Nat.le_refl _) _).alloc (by simp) _).alloc (by simp <;> omega) _)
  have c0 : (((w.alloc X).alloc Y).alloc U).cell? ⟨w.heap.size, 0, none⟩ = some (.int .i64 sz) := by
    refine ((Same.alloc _ U).cell ((Same.alloc _ Y).cell ?_)); rw [← hX]; simp [go_sem]
  have c1 : (((w.alloc X).alloc Y).alloc U).cell? ⟨w.heap.size + 1, 0, none⟩ = some (.int .i64 ch) := by
    refine ((Same.alloc _ U).cell ?_); rw [← hY]; simp [go_sem]
  have c2 : (((w.alloc X).alloc Y).alloc U).cell? ⟨w.heap.size + 1 + 1, 0, none⟩ = some (.int .i64 fi) := by rw [← hU]; simp [go_sem]
  obtain ⟨Z, hZ⟩ : ∃ Z, ((w.alloc X).alloc Y).alloc U = Z := ⟨_, rfl⟩
  rw [hZ] at hbel c0 c1 c2
  have hb0 : Below Z.heap.size Z (Z.alloc (.cells #[.int .i64 0] 26)) := (Below.refl _ Z).alloc (Nat.le_refl _) _
  have d0 := (Same.of_below hb0).cell c0
  have d1 := (Same.of_below hb0).cell c1
  have d2 := (Same.of_below hb0).cell c2
  have hf : Calls Try.prog 35 #[.func (.func 36) #[] #[at0 w.heap.size, at0 (w.heap.size + 1), at0 (w.heap.size + 1 + 1)]] Z (NewAns sz ch fi Z) := by
    have he := enters_of Try.func36 (by kernel_rfl) rfl
    cases hb : newB sz ch fi with
    | true =>
      obtain ⟨e1, e2⟩ := newG_cast hb
      have h36 := new36_yes sz.toNat ch.toNat fi w.heap.size (w.heap.size + 1) (w.heap.size + 1 + 1) _ (by rw [e1, e2]; exact hb) (by rw [e1]; exact d0) (by rw [e2]; exact d1) d2
      refine (fitted35_any 36 _ Z (fun u k x => k = 0 ∧ ∃ P R, u = .pointer (some ⟨P, 0, none⟩) ∧ RingAt P R (newG sz.toNat ch.toNat fi) x ∧ (Z.heap.size + 1 ≤ P ∧ Z.heap.size + 1 ≤ R) ∧ Below (Z.alloc (.cells #[.int .i64 0] 26)).heap.size (Z.alloc (.cells #[.int .i64 0] 26)) x) (he _) (h36.mono ?_)).mono ?_
      · rintro e w1 ⟨P, R, rfl, hr, hl, hbl⟩
        exact ⟨keeps_below hbl, .inl ⟨_, rfl, rfl, P, R, rfl, hr, by simpa using hl, hbl⟩⟩
      · rintro e w' ⟨u, k, w1, rfl, ⟨rfl, P, R, rfl, hr, hl, hbl⟩, _, hn⟩
        exact .inl ⟨hb, P, R, rfl, ring_near hr (by omega) (by omega) hn, ⟨by omega, by omega⟩, below_near hbl hn⟩
    | false =>
      have h36 := new36_no sz ch fi w.heap.size (w.heap.size + 1) (w.heap.size + 1 + 1) _ hb d0 d1 d2
      refine (fitted35_any 36 _ Z (fun u k x => (u = .pointer none ∧ k = 7) ∧ Below (Z.alloc (.cells #[.int .i64 0] 26)).heap.size (Z.alloc (.cells #[.int .i64 0] 26)) x) (he _) (h36.mono ?_)).mono ?_
      · rintro e w1 ⟨rfl, hbl⟩
        exact ⟨keeps_below hbl, .inr ⟨7, rfl, ⟨rfl, rfl⟩, hbl⟩⟩
      · rintro e w' ⟨u, k, w1, rfl, ⟨⟨rfl, rfl⟩, hbl⟩, _, hn⟩
        exact .inr ⟨hb, rfl, below_near hbl hn⟩
  have HB := Lib.hid hbel
  clear hbel c0 c1 c2 hb0 d0 d1 d2
  subst hZ
  subst hX
  subst hY
  subst hU
  go_enter Try.func10, Try.ntmps10
  go_wp2_with (go_at_call 35; (with_reducible refine hf.mono ?_); rintro e w1 (⟨hb, P, R, rfl, hr, hl, hbl⟩ | ⟨hb, rfl, hbl⟩))
  · go_ret2
    exact .inl ⟨hb, P, R, rfl, hr, ⟨Nat.le_trans HB.out.size hl.1, Nat.le_trans HB.out.size hl.2⟩, Below.then HB.out (Nat.le_refl _) hbl⟩
  · go_ret2
    exact .inr ⟨hb, rfl, Below.then HB.out (Nat.le_refl _) hbl⟩
end Go.Proofs.Ytgcohmlapgnbdaa
