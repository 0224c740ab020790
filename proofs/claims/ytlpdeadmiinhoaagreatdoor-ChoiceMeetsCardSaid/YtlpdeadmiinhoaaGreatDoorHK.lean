/- How two choices meet, walked: where they do. -/
import Derived.Test.YtlpdeadmiinhoaaGreatDoorHI
namespace Go.Proofs.YtlpdeadmiinhoaaGreatDoor
open Go.RowKit

set_option maxRecDepth 100000 in
set_option maxHeartbeats 3200000 in
theorem meet_yes123 (x y : Ch) (vx vy : Value)  (w : World) (hx : ChIn w x vx) (hy : ChIn w y vy) (hk1 : 1 ≤ x.kind ∧ x.kind ≤ 4) (hk2 : 1 ≤ y.kind ∧ y.kind ≤ 4) (hF : wayF x.kind y.kind = 123) (C : Ch)
    (hway : ∀ wr vx vy, ChIn wr x vx → ChIn wr y vy → Calls Tryz.prog 123 #[vx, vy] wr (ChOut wr C)) (hC0 : 1 ≤ C.list.length) (hCb : boundB C.list = true) (hCk : I64 C.kind ∧ C.dflt = 0 ∧ C.list.length ≤ 100) (hCv : validC (C.wished x.dflt y.dflt) = true) :
    Calls Tryz.prog 55 #[vx, vy] w (MeetYes w (C.wished x.dflt y.dflt)) := by
  have hx0 := hx
  have hy0 := hy
  obtain ⟨a, ca, rfl, _, hdx, _, _, _⟩ := hx
  obtain ⟨b, cb, rfl, _, hdy, _, _, _⟩ := hy
  obtain ⟨X, hX⟩ : ∃ X : Obj, X = .cells #[.int .i64 x.kind, .int .i64 x.dflt, .slice a x.list.length ca] 24 := ⟨_, rfl⟩
  obtain ⟨Y, hY⟩ : ∃ Y : Obj, Y = .cells #[.int .i64 y.kind, .int .i64 y.dflt, .slice b y.list.length cb] 24 := ⟨_, rfl⟩
  obtain ⟨Z, hZ⟩ : ∃ Z : Obj, Z = .cells #[.int .i64 0, .int .i64 0, .slice none 0 0] 24 := ⟨_, rfl⟩
  have HF : In3 w X Y Z (((w.alloc (.cells #[.int .i64 x.kind, .int .i64 x.dflt, .slice a x.list.length ca] 24)).alloc (.cells #[.int .i64 y.kind, .int .i64 y.dflt, .slice b y.list.length cb] 24)).alloc (.cells #[.int .i64 0, .int .i64 0, .slice none 0 0] 24)) := hX ▸ hY ▸ hZ ▸ In3.first w X Y Z
  have HC := Lib.hid fun (wr : World) (h : In3 w X Y Z wr) => In3.cells (hX ▸ hY ▸ hZ ▸ h)
  have HFr := Lib.hid fun (wr : World) (o : Nat) (h : In3 w X Y Z wr) => In3.free hZ h o
  have HWay := Lib.hid fun (wr : World) (hi : In3 w X Y Z wr) => (wayOf_any x.kind y.kind wr hk1.1 hk1.2 hk2.1 hk2.2).mono fun e w' ⟨a1, a2⟩ => (⟨a1, hi.next a2, a2⟩ : e = Ending.returned (.func (.func (wayF x.kind y.kind)) #[] #[]) ∧ In3 w X Y Z w' ∧ Below wr.heap.size wr w')
  rw [hF] at HWay
  have HMk := Lib.hid fun (wr : World) (hi : In3 w X Y Z wr) => (hway wr _ _ (hx0.mono hi.same) (hy0.mono hi.same)).mono fun e w' ⟨a2, c2, h1, h2, h3⟩ => (⟨a2, c2, h1, h2, hi.next h3, h3⟩ : ∃ a2 c2, e = Ending.returned (.agg #[.int .i64 C.kind, .int .i64 C.dflt, .slice a2 C.list.length c2]) ∧ Row wr.heap.size w' (.slice a2 C.list.length c2) C.list ∧ In3 w X Y Z w' ∧ Below wr.heap.size wr w')
  have HNum := Lib.hid fun (wr : World) (a2 : Option Addr) (c2 : Nat) (hin : IntsIn wr a2 C.list) (hcap : C.list.length ≤ c2) => numbersOf_any C (.agg #[.int .i64 C.kind, .int .i64 C.dflt, .slice a2 C.list.length c2]) wr ⟨a2, c2, rfl, hCk.1, by rw [hCk.2.1]; unfold I64; omega, by omega, hin, hcap⟩ hCb
  have HWish := Lib.hid fun (wr : World) (v : Value) (h : NumsIn wr (numsOf C) v) => (wish_eq hCv).1 ▸ wish_any (numsOf C) v x.dflt y.dflt wr h (wish_eq hCv).2
  have HDw := Lib.hid (fun (wr : World) (a2 : Option Addr) (c2 : Nat) (hin : NewIn w.heap.size wr a2 C.list) (hcap : C.list.length ≤ c2) => (⟨a2, c2, rfl, hCk.1, wish_num hdx hdy hCb, by show C.list.length ≤ _; omega, hin, hcap⟩ : ChNew w.heap.size wr (C.wished x.dflt y.dflt) (.agg #[.int .i64 C.kind, .int .i64 (wishC C x.dflt y.dflt), .slice a2 C.list.length c2])))
  have HOffS := Lib.hid fun (wr : World) (R B c : Nat) (x1 y1 z1 : Value) (a2 : Option Addr) (i0 : Unit) (h : Zch wr B x1 y1 z1) (hi : In3 w X Y Z wr) (hr : Row R wr (.slice a2 C.list.length c) C.list) (hB : w.heap.size + 3 ≤ B) (hBR : B < R) (x y z : Value) => chs_off_set h hi hr (ints_of_bound hCb) hB hBR x y z
  have HOffN := Lib.hid fun (wr : World) (R c : Nat) (a2 : Option Addr) (hi : In3 w X Y Z wr) (hr : Row R wr (.slice a2 C.list.length c) C.list) (hR : w.heap.size + 3 ≤ R) (x y z : Value) => chs_off_new hi hr (ints_of_bound hCb) hR x y z
  have HFF := Lib.hid HF
  have hq100 : C.list.length ≤ 100 := hCk.2.2
  clear hX hY hZ HF hF hk1 hk2 hway hx0 hy0 hCb hCk hCv hdx hdy
  obtain ⟨W0, hW0⟩ : ∃ W0 : Int, wishC C x.dflt y.dflt = W0 := ⟨_, rfl⟩
  obtain ⟨D, hD⟩ : ∃ D : Ch, C.wished x.dflt y.dflt = D := ⟨_, rfl⟩
  rw [hW0] at HWish HDw
  rw [hD] at HDw ⊢
  obtain ⟨nu, hnu⟩ : ∃ nu, numsOf C = nu := ⟨_, rfl⟩
  rw [hnu] at HNum HWish
  obtain ⟨L, hL⟩ : ∃ L, C.list = L := ⟨_, rfl⟩
  rw [hL] at HMk HNum HDw HOffS HOffN hC0 hq100
  obtain ⟨ck, hck⟩ : ∃ ck, C.kind = ck := ⟨_, rfl⟩
  obtain ⟨cd, hcd⟩ : ∃ cd, C.dflt = cd := ⟨_, rfl⟩
  rw [hck] at HMk HNum HDw
  rw [hcd] at HMk HNum
  obtain ⟨q, hq⟩ : ∃ q, L.length = q := ⟨_, rfl⟩
  rw [hq] at HMk HNum HDw HOffS HOffN hC0 hq100
  clear hq hW0 hD hnu hL hck hcd
  obtain ⟨n, hn⟩ : ∃ n, x.list.length = n := ⟨_, rfl⟩
  obtain ⟨m, hm⟩ : ∃ m, y.list.length = m := ⟨_, rfl⟩
  obtain ⟨xk, hxk⟩ : ∃ n, x.kind = n := ⟨_, rfl⟩
  obtain ⟨yk, hyk⟩ : ∃ n, y.kind = n := ⟨_, rfl⟩
  obtain ⟨xd, hxd⟩ : ∃ n, x.dflt = n := ⟨_, rfl⟩
  obtain ⟨yd, hyd⟩ : ∃ n, y.dflt = n := ⟨_, rfl⟩
  rw [hn, hxk, hxd] at HFF ⊢
  rw [hm, hyk, hyd] at HFF ⊢
  rw [hn, hxk, hxd, hm, hyk, hyd] at HC HMk
  rw [hxk, hyk] at HWay
  rw [hxd, hyd] at HWish
  clear hn hm hxk hyk hxd hyd
  have hq0 : decide ((q : Int) = 0) = false := by simp; omega
  have hq1 : ((q : Int) == 0) = false := by simp; omega
  clear hC0
  have Hq0 := Lib.hid hq0
  have Hq1 := Lib.hid hq1
  clear hq0 hq1
  go_enter Tryz.func55, Tryz.ntmps55
  go_upto_region 1 with fail
  have HS : Hid (∀ wx : World, In3 w X Y Z wx → wx.cell? ⟨w.heap.size, 0, none⟩ = some (.int .i64 xk) ∧ wx.cell? ⟨w.heap.size, 1, none⟩ = some (.int .i64 xd) ∧ wx.cell? ⟨w.heap.size, 2, none⟩ = some (.slice a n ca) ∧ wx.cell? ⟨w.heap.size + 1, 0, none⟩ = some (.int .i64 yk) ∧ wx.cell? ⟨w.heap.size + 1, 1, none⟩ = some (.int .i64 yd) ∧ wx.cell? ⟨w.heap.size + 1, 2, none⟩ = some (.slice b m cb) ∧ In3 w X Y Z wx) := Lib.hid fun wx h => by
    obtain ⟨⟨p0, p1, p2⟩, ⟨q0, q1, q2⟩, _⟩ := HC.out wx h
    exact ⟨p0, p1, p2, q0, q1, q2, h⟩
  go_region_held3 (fun wx => wx.cell? ⟨w.heap.size, 0, none⟩ = some (.int .i64 xk) ∧ wx.cell? ⟨w.heap.size, 1, none⟩ = some (.int .i64 xd) ∧ wx.cell? ⟨w.heap.size, 2, none⟩ = some (.slice a n ca) ∧ wx.cell? ⟨w.heap.size + 1, 0, none⟩ = some (.int .i64 yk) ∧ wx.cell? ⟨w.heap.size + 1, 1, none⟩ = some (.int .i64 yd) ∧ wx.cell? ⟨w.heap.size + 1, 2, none⟩ = some (.slice b m cb) ∧ In3 w X Y Z wx)
    (first
      | with_reducible exact HS.out _ HFF.out.drew
      | (go_split_ands; with_reducible exact HS.out _ (by assumption))
      | with_reducible exact HS.out _ hk
      | with_reducible exact HS.out _ (In3.alloc hk _)
      | with_reducible exact HS.out _ (In3.set3 hk (by omega))
      | (go_split_ands; with_reducible exact HS.out _ (In3.alloc (by assumption) _)))
    (first
      | (go_at_call 93; (with_reducible refine (HWay.out _ (by go_split_ands; assumption)).mono ?_); rintro e wk1 ⟨rfl, hk, hb1⟩; have z1 := hk.size; try (have y1 := (Zch.newd _ _ _ _).below hb1; (try simp only [World.size_alloc, World.size_drew] at y1)))
      | (go_at_call 123; (with_reducible refine (HMk.out _ (by go_split_ands; assumption)).mono ?_); rintro e wk2 ⟨a2, c2, rfl, hr2, hk, hb2⟩; have z2 := hk.size; have z3 := hb2.size; first | (have y2 := (Zch.new _ _ _ _).below hb2; (try simp only [World.size_alloc, World.size_drew] at y2); obtain ⟨u0, u1, u2, u3, u4, u5, u6⟩ := y2; have y4 := (Zch.mk u0 u1 u2 u3 u4 u5 u6)) | (have y2 := y1.below hb2; obtain ⟨u0, u1, u2, u3, u4, u5, u6⟩ := y2; have y4 := (Zch.mk u0 u1 u2 u3 u4 u5 u6)) | skip))
  all_goals
    go_split_ands
    try have y1l := y1.lt
    first
      | (have hbb := HOffS.out _ _ _ _ _ _ _ _ () y4 hk hr2 (by omega) (by first | omega | (simp only [World.size_alloc, World.size_drew]; omega)) (.int .i64 ck) (.int .i64 cd) (.slice a2 q c2))
      | (have hbb := HOffN.out _ _ _ _ hk hr2 (by first | omega | (simp only [World.size_alloc, World.size_drew]; omega)) (.int .i64 ck) (.int .i64 cd) (.slice a2 q c2))
    obtain ⟨Wd, Bd, hWd, hBd, hzd, hid, hod, hcd2, hB3⟩ := hbb
    rw [← hWd]
    try rw [← hBd]
    clear hWd hBd
    have hcd2' : q ≤ c2 := hcd2
    clear hcd2
    clear HMk HWay HOffS HOffN HFF hr2
    clear u0 u1 u2 u3 u4 u5 u6 y4
    try clear y1
    have HT := Lib.hid (Tri.mk hid hzd hod)
    obtain ⟨k0, k1, k2, k3, k4, k5, k6⟩ := hzd
    have hqa := Hq0.out
    have hqb := Hq1.out
    go_upto_region 4 with fail
    clear hqa hqb k0 k1 k2 k3 k4 k5 k6
    have HS4 : Hid (∀ wx : World, Tri w X Y Z Bd (.int .i64 ck) (.int .i64 cd) (.slice a2 q c2) a2 L wx → wx.cell? ⟨w.heap.size, 1, none⟩ = some (.int .i64 xd) ∧ wx.cell? ⟨w.heap.size + 1, 1, none⟩ = some (.int .i64 yd) ∧ wx.cell? ⟨Bd, 0, none⟩ = some (.int .i64 ck) ∧ wx.cell? ⟨Bd, 1, none⟩ = some (.int .i64 cd) ∧ wx.cell? ⟨Bd, 2, none⟩ = some (.slice a2 q c2) ∧ Tri w X Y Z Bd (.int .i64 ck) (.int .i64 cd) (.slice a2 q c2) a2 L wx) := Lib.hid fun wx h => by
      obtain ⟨⟨_, p1, _⟩, ⟨_, q1, _⟩, _⟩ := HC.out wx h.i3
      exact ⟨p1, q1, h.zc.c0, h.zc.c1, h.zc.c2, h⟩
    have hS0 := HS4.out _ HT.out.drew
    refine region_T (S := fun wx => wx.cell? ⟨w.heap.size, 1, none⟩ = some (.int .i64 xd) ∧ wx.cell? ⟨w.heap.size + 1, 1, none⟩ = some (.int .i64 yd) ∧ wx.cell? ⟨Bd, 0, none⟩ = some (.int .i64 ck) ∧ wx.cell? ⟨Bd, 1, none⟩ = some (.int .i64 cd) ∧ wx.cell? ⟨Bd, 2, none⟩ = some (.slice a2 q c2) ∧ Tri w X Y Z Bd (.int .i64 ck) (.int .i64 cd) (.slice a2 q c2) a2 L wx) [8] (by kernel_rfl) hS0 fun hHeld => ?_
    clear hS0
    refine anyT_take (i := 0) (v := ?_) rfl (by kernel_rfl) (by kernel_rfl) (by kernel_rfl) (by kernel_rfl) (fun _ _ _ h => h) (Or.inl ⟨by rfl, ?_⟩) (by assumption) ?_
    rotate_left
    focus ((intro wq hSw; (try dsimp only at hSw); go_simp); try with_reducible rfl)
    try simp only [Act.put, List.setIfInBounds_toArray, List.set_cons_zero, List.set_cons_succ]
    refine anyT_take (i := 2) (v := ?_) rfl (by kernel_rfl) (by kernel_rfl) (by kernel_rfl) (by kernel_rfl) (fun _ _ _ h => h) (Or.inl ⟨by rfl, ?_⟩) (by assumption) ?_
    rotate_left
    focus ((intro wq hSw; (try dsimp only at hSw); go_simp); try with_reducible rfl)
    try simp only [Act.put, List.setIfInBounds_toArray, List.set_cons_zero, List.set_cons_succ]
    refine anyT_take (i := 3) (v := ?_) rfl (by kernel_rfl) (by kernel_rfl) (by kernel_rfl) (by kernel_rfl) (fun _ _ _ h => h) (Or.inl ⟨by rfl, ?_⟩) (by assumption) ?_
    rotate_left
    focus ((intro wq hSw; (try dsimp only at hSw); go_simp); try with_reducible rfl)
    try simp only [Act.put, List.setIfInBounds_toArray, List.set_cons_zero, List.set_cons_succ]
    refine anyT_take (i := 4) (v := ?_) rfl (by kernel_rfl) (by kernel_rfl) (by kernel_rfl) (by kernel_rfl) (fun _ _ _ h => h) (Or.inl ⟨by rfl, ?_⟩) (by assumption) ?_
    rotate_left
    focus ((intro wq hSw; (try dsimp only at hSw); go_simp); try with_reducible rfl)
    try simp only [Act.put, List.setIfInBounds_toArray, List.set_cons_zero, List.set_cons_succ]
    refine anyT_take (i := 5) (v := ?_) rfl (by kernel_rfl) (by kernel_rfl) (by kernel_rfl) (by kernel_rfl) (fun _ _ _ h => h) (Or.inl ⟨by rfl, ?_⟩) (by assumption) ?_
    rotate_left
    focus ((intro wq hSw; (try dsimp only at hSw); go_simp); try with_reducible rfl)
    try simp only [Act.put, List.setIfInBounds_toArray, List.set_cons_zero, List.set_cons_succ]
    clear hHeld
    refine anyT_one (i := 1) (by kernel_rfl) rfl (fun K hK => ?_)
    go_simp
    refine (HNum.out _ a2 c2 HT.out.drew.ints hcd2').mono ?_
    rintro e wq ⟨nv, rfl, hnv, hbq⟩
    have HT1 := Lib.hid (HT.out.drew.below hbq)
    have Hnv := Lib.hid hnv
    clear hnv hbq
    refine hK.out _ _ (fun _ => HS4.out _ HT1.out) ?_
    clear hK K
    try simp only [Act.put, List.setIfInBounds_toArray, List.set_cons_zero, List.set_cons_succ]
    refine anyT_one (i := 6) (by kernel_rfl) rfl (fun K hK => ?_)
    go_simp
    refine (HWish.out _ _ Hnv.out).mono ?_
    rintro e ws ⟨rfl, hbs⟩
    have HT2 := Lib.hid (HT1.out.below hbs)
    clear hbs
    refine hK.out _ _ (fun _ => HS4.out _ HT2.out) ?_
    clear hK K
    try simp only [Act.put, List.setIfInBounds_toArray, List.set_cons_zero, List.set_cons_succ]
    refine anyT_one (i := 7) (by kernel_rfl) rfl (fun K hK => ?_)
    go_simp
    refine hK.out _ _ (fun _ => HS4.out _ HT2.out) ?_
    clear hK K
    try simp only [Act.put, List.setIfInBounds_toArray, List.set_cons_zero, List.set_cons_succ]
    refine anyT_one (i := 8) (by kernel_rfl) rfl (fun K hK => ?_)
    have f1 := HT2.out.zc.f1
    have g1 := HT2.out.zc.c1
    go_simp
    refine hK.out _ _ (fun h => by cases h) ?_
    clear hK K f1 g1
    refine anyT_done (by kernel_rfl) ?_ _
    obtain ⟨W2, hW2, hT3⟩ := HT2.out.set1 hB3 (.int .i64 W0)
    rw [← hW2]
    clear hW2
    have HT3 := Lib.hid hT3
    have hi3 := hT3.i3
    obtain ⟨k0, k1, k2, k3, k4, k5, k6⟩ := hT3.zc
    clear hT3
    obtain ⟨_, _, r0, r1, r2⟩ := HC.out _ hi3
    have f0 := HFr.out _ 0 hi3
    have f1 := HFr.out _ 1 hi3
    have f2 := HFr.out _ 2 hi3
    go_wp2_with fail
    refine bodyPost_ret (v := .tuple #[.agg #[.int .i64 ck, .int .i64 W0, .slice a2 q c2], .bool true]) (by simp [results, Tryz.results55, go_sem, r0, r1, r2]) rfl ⟨_, rfl, HDw.out _ a2 c2 ?_ hcd2', ?_⟩
    · exact (((HT3.out.off.set (Or.inr (by simp)) _).set (Or.inr (by simp)) _).set (Or.inr (by simp)) _).new (by omega)
    · exact ((hi3.out.setCell (by simp; omega) _).setCell (by simp; omega) _).setCell (by simp; omega) _


set_option maxRecDepth 100000 in
set_option maxHeartbeats 3200000 in
theorem meet_yes124 (x y : Ch) (vx vy : Value)  (w : World) (hx : ChIn w x vx) (hy : ChIn w y vy) (hk1 : 1 ≤ x.kind ∧ x.kind ≤ 4) (hk2 : 1 ≤ y.kind ∧ y.kind ≤ 4) (hF : wayF x.kind y.kind = 124) (C : Ch)
    (hway : ∀ wr vx vy, ChIn wr x vx → ChIn wr y vy → Calls Tryz.prog 124 #[vx, vy] wr (ChOut wr C)) (hC0 : 1 ≤ C.list.length) (hCb : boundB C.list = true) (hCk : I64 C.kind ∧ C.dflt = 0 ∧ C.list.length ≤ 100) (hCv : validC (C.wished x.dflt y.dflt) = true) :
    Calls Tryz.prog 55 #[vx, vy] w (MeetYes w (C.wished x.dflt y.dflt)) := by
  have hx0 := hx
  have hy0 := hy
  obtain ⟨a, ca, rfl, _, hdx, _, _, _⟩ := hx
  obtain ⟨b, cb, rfl, _, hdy, _, _, _⟩ := hy
  obtain ⟨X, hX⟩ : ∃ X : Obj, X = .cells #[.int .i64 x.kind, .int .i64 x.dflt, .slice a x.list.length ca] 24 := ⟨_, rfl⟩
  obtain ⟨Y, hY⟩ : ∃ Y : Obj, Y = .cells #[.int .i64 y.kind, .int .i64 y.dflt, .slice b y.list.length cb] 24 := ⟨_, rfl⟩
  obtain ⟨Z, hZ⟩ : ∃ Z : Obj, Z = .cells #[.int .i64 0, .int .i64 0, .slice none 0 0] 24 := ⟨_, rfl⟩
  have HF : In3 w X Y Z (((w.alloc (.cells #[.int .i64 x.kind, .int .i64 x.dflt, .slice a x.list.length ca] 24)).alloc (.cells #[.int .i64 y.kind, .int .i64 y.dflt, .slice b y.list.length cb] 24)).alloc (.cells #[.int .i64 0, .int .i64 0, .slice none 0 0] 24)) := hX ▸ hY ▸ hZ ▸ In3.first w X Y Z
  have HC := Lib.hid fun (wr : World) (h : In3 w X Y Z wr) => In3.cells (hX ▸ hY ▸ hZ ▸ h)
  have HFr := Lib.hid fun (wr : World) (o : Nat) (h : In3 w X Y Z wr) => In3.free hZ h o
  have HWay := Lib.hid fun (wr : World) (hi : In3 w X Y Z wr) => (wayOf_any x.kind y.kind wr hk1.1 hk1.2 hk2.1 hk2.2).mono fun e w' ⟨a1, a2⟩ => (⟨a1, hi.next a2, a2⟩ : e = Ending.returned (.func (.func (wayF x.kind y.kind)) #[] #[]) ∧ In3 w X Y Z w' ∧ Below wr.heap.size wr w')
  rw [hF] at HWay
  have HMk := Lib.hid fun (wr : World) (hi : In3 w X Y Z wr) => (hway wr _ _ (hx0.mono hi.same) (hy0.mono hi.same)).mono fun e w' ⟨a2, c2, h1, h2, h3⟩ => (⟨a2, c2, h1, h2, hi.next h3, h3⟩ : ∃ a2 c2, e = Ending.returned (.agg #[.int .i64 C.kind, .int .i64 C.dflt, .slice a2 C.list.length c2]) ∧ Row wr.heap.size w' (.slice a2 C.list.length c2) C.list ∧ In3 w X Y Z w' ∧ Below wr.heap.size wr w')
  have HNum := Lib.hid fun (wr : World) (a2 : Option Addr) (c2 : Nat) (hin : IntsIn wr a2 C.list) (hcap : C.list.length ≤ c2) => numbersOf_any C (.agg #[.int .i64 C.kind, .int .i64 C.dflt, .slice a2 C.list.length c2]) wr ⟨a2, c2, rfl, hCk.1, by rw [hCk.2.1]; unfold I64; omega, by omega, hin, hcap⟩ hCb
  have HWish := Lib.hid fun (wr : World) (v : Value) (h : NumsIn wr (numsOf C) v) => (wish_eq hCv).1 ▸ wish_any (numsOf C) v x.dflt y.dflt wr h (wish_eq hCv).2
  have HDw := Lib.hid (fun (wr : World) (a2 : Option Addr) (c2 : Nat) (hin : NewIn w.heap.size wr a2 C.list) (hcap : C.list.length ≤ c2) => (⟨a2, c2, rfl, hCk.1, wish_num hdx hdy hCb, by show C.list.length ≤ _; omega, hin, hcap⟩ : ChNew w.heap.size wr (C.wished x.dflt y.dflt) (.agg #[.int .i64 C.kind, .int .i64 (wishC C x.dflt y.dflt), .slice a2 C.list.length c2])))
  have HOffS := Lib.hid fun (wr : World) (R B c : Nat) (x1 y1 z1 : Value) (a2 : Option Addr) (i0 : Unit) (h : Zch wr B x1 y1 z1) (hi : In3 w X Y Z wr) (hr : Row R wr (.slice a2 C.list.length c) C.list) (hB : w.heap.size + 3 ≤ B) (hBR : B < R) (x y z : Value) => chs_off_set h hi hr (ints_of_bound hCb) hB hBR x y z
  have HOffN := Lib.hid fun (wr : World) (R c : Nat) (a2 : Option Addr) (hi : In3 w X Y Z wr) (hr : Row R wr (.slice a2 C.list.length c) C.list) (hR : w.heap.size + 3 ≤ R) (x y z : Value) => chs_off_new hi hr (ints_of_bound hCb) hR x y z
  have HFF := Lib.hid HF
  have hq100 : C.list.length ≤ 100 := hCk.2.2
  clear hX hY hZ HF hF hk1 hk2 hway hx0 hy0 hCb hCk hCv hdx hdy
  obtain ⟨W0, hW0⟩ : ∃ W0 : Int, wishC C x.dflt y.dflt = W0 := ⟨_, rfl⟩
  obtain ⟨D, hD⟩ : ∃ D : Ch, C.wished x.dflt y.dflt = D := ⟨_, rfl⟩
  rw [hW0] at HWish HDw
  rw [hD] at HDw ⊢
  obtain ⟨nu, hnu⟩ : ∃ nu, numsOf C = nu := ⟨_, rfl⟩
  rw [hnu] at HNum HWish
  obtain ⟨L, hL⟩ : ∃ L, C.list = L := ⟨_, rfl⟩
  rw [hL] at HMk HNum HDw HOffS HOffN hC0 hq100
  obtain ⟨ck, hck⟩ : ∃ ck, C.kind = ck := ⟨_, rfl⟩
  obtain ⟨cd, hcd⟩ : ∃ cd, C.dflt = cd := ⟨_, rfl⟩
  rw [hck] at HMk HNum HDw
  rw [hcd] at HMk HNum
  obtain ⟨q, hq⟩ : ∃ q, L.length = q := ⟨_, rfl⟩
  rw [hq] at HMk HNum HDw HOffS HOffN hC0 hq100
  clear hq hW0 hD hnu hL hck hcd
  obtain ⟨n, hn⟩ : ∃ n, x.list.length = n := ⟨_, rfl⟩
  obtain ⟨m, hm⟩ : ∃ m, y.list.length = m := ⟨_, rfl⟩
  obtain ⟨xk, hxk⟩ : ∃ n, x.kind = n := ⟨_, rfl⟩
  obtain ⟨yk, hyk⟩ : ∃ n, y.kind = n := ⟨_, rfl⟩
  obtain ⟨xd, hxd⟩ : ∃ n, x.dflt = n := ⟨_, rfl⟩
  obtain ⟨yd, hyd⟩ : ∃ n, y.dflt = n := ⟨_, rfl⟩
  rw [hn, hxk, hxd] at HFF ⊢
  rw [hm, hyk, hyd] at HFF ⊢
  rw [hn, hxk, hxd, hm, hyk, hyd] at HC HMk
  rw [hxk, hyk] at HWay
  rw [hxd, hyd] at HWish
  clear hn hm hxk hyk hxd hyd
  have hq0 : decide ((q : Int) = 0) = false := by simp; omega
  have hq1 : ((q : Int) == 0) = false := by simp; omega
  clear hC0
  have Hq0 := Lib.hid hq0
  have Hq1 := Lib.hid hq1
  clear hq0 hq1
  go_enter Tryz.func55, Tryz.ntmps55
  go_upto_region 1 with fail
  have HS : Hid (∀ wx : World, In3 w X Y Z wx → wx.cell? ⟨w.heap.size, 0, none⟩ = some (.int .i64 xk) ∧ wx.cell? ⟨w.heap.size, 1, none⟩ = some (.int .i64 xd) ∧ wx.cell? ⟨w.heap.size, 2, none⟩ = some (.slice a n ca) ∧ wx.cell? ⟨w.heap.size + 1, 0, none⟩ = some (.int .i64 yk) ∧ wx.cell? ⟨w.heap.size + 1, 1, none⟩ = some (.int .i64 yd) ∧ wx.cell? ⟨w.heap.size + 1, 2, none⟩ = some (.slice b m cb) ∧ In3 w X Y Z wx) := Lib.hid fun wx h => by
    obtain ⟨⟨p0, p1, p2⟩, ⟨q0, q1, q2⟩, _⟩ := HC.out wx h
    exact ⟨p0, p1, p2, q0, q1, q2, h⟩
  go_region_held3 (fun wx => wx.cell? ⟨w.heap.size, 0, none⟩ = some (.int .i64 xk) ∧ wx.cell? ⟨w.heap.size, 1, none⟩ = some (.int .i64 xd) ∧ wx.cell? ⟨w.heap.size, 2, none⟩ = some (.slice a n ca) ∧ wx.cell? ⟨w.heap.size + 1, 0, none⟩ = some (.int .i64 yk) ∧ wx.cell? ⟨w.heap.size + 1, 1, none⟩ = some (.int .i64 yd) ∧ wx.cell? ⟨w.heap.size + 1, 2, none⟩ = some (.slice b m cb) ∧ In3 w X Y Z wx)
    (first
      | with_reducible exact HS.out _ HFF.out.drew
      | (go_split_ands; with_reducible exact HS.out _ (by assumption))
      | with_reducible exact HS.out _ hk
      | with_reducible exact HS.out _ (In3.alloc hk _)
      | with_reducible exact HS.out _ (In3.set3 hk (by omega))
      | (go_split_ands; with_reducible exact HS.out _ (In3.alloc (by assumption) _)))
    (first
      | (go_at_call 93; (with_reducible refine (HWay.out _ (by go_split_ands; assumption)).mono ?_); rintro e wk1 ⟨rfl, hk, hb1⟩; have z1 := hk.size; try (have y1 := (Zch.newd _ _ _ _).below hb1; (try simp only [World.size_alloc, World.size_drew] at y1)))
      | (go_at_call 124; (with_reducible refine (HMk.out _ (by go_split_ands; assumption)).mono ?_); rintro e wk2 ⟨a2, c2, rfl, hr2, hk, hb2⟩; have z2 := hk.size; have z3 := hb2.size; first | (have y2 := (Zch.new _ _ _ _).below hb2; (try simp only [World.size_alloc, World.size_drew] at y2); obtain ⟨u0, u1, u2, u3, u4, u5, u6⟩ := y2; have y4 := (Zch.mk u0 u1 u2 u3 u4 u5 u6)) | (have y2 := y1.below hb2; obtain ⟨u0, u1, u2, u3, u4, u5, u6⟩ := y2; have y4 := (Zch.mk u0 u1 u2 u3 u4 u5 u6)) | skip))
  all_goals
    go_split_ands
    try have y1l := y1.lt
    first
      | (have hbb := HOffS.out _ _ _ _ _ _ _ _ () y4 hk hr2 (by omega) (by first | omega | (simp only [World.size_alloc, World.size_drew]; omega)) (.int .i64 ck) (.int .i64 cd) (.slice a2 q c2))
      | (have hbb := HOffN.out _ _ _ _ hk hr2 (by first | omega | (simp only [World.size_alloc, World.size_drew]; omega)) (.int .i64 ck) (.int .i64 cd) (.slice a2 q c2))
    obtain ⟨Wd, Bd, hWd, hBd, hzd, hid, hod, hcd2, hB3⟩ := hbb
    rw [← hWd]
    try rw [← hBd]
    clear hWd hBd
    have hcd2' : q ≤ c2 := hcd2
    clear hcd2
    clear HMk HWay HOffS HOffN HFF hr2
    clear u0 u1 u2 u3 u4 u5 u6 y4
    try clear y1
    have HT := Lib.hid (Tri.mk hid hzd hod)
    obtain ⟨k0, k1, k2, k3, k4, k5, k6⟩ := hzd
    have hqa := Hq0.out
    have hqb := Hq1.out
    go_upto_region 4 with fail
    clear hqa hqb k0 k1 k2 k3 k4 k5 k6
    have HS4 : Hid (∀ wx : World, Tri w X Y Z Bd (.int .i64 ck) (.int .i64 cd) (.slice a2 q c2) a2 L wx → wx.cell? ⟨w.heap.size, 1, none⟩ = some (.int .i64 xd) ∧ wx.cell? ⟨w.heap.size + 1, 1, none⟩ = some (.int .i64 yd) ∧ wx.cell? ⟨Bd, 0, none⟩ = some (.int .i64 ck) ∧ wx.cell? ⟨Bd, 1, none⟩ = some (.int .i64 cd) ∧ wx.cell? ⟨Bd, 2, none⟩ = some (.slice a2 q c2) ∧ Tri w X Y Z Bd (.int .i64 ck) (.int .i64 cd) (.slice a2 q c2) a2 L wx) := Lib.hid fun wx h => by
      obtain ⟨⟨_, p1, _⟩, ⟨_, q1, _⟩, _⟩ := HC.out wx h.i3
      exact ⟨p1, q1, h.zc.c0, h.zc.c1, h.zc.c2, h⟩
    have hS0 := HS4.out _ HT.out.drew
    refine region_T (S := fun wx => wx.cell? ⟨w.heap.size, 1, none⟩ = some (.int .i64 xd) ∧ wx.cell? ⟨w.heap.size + 1, 1, none⟩ = some (.int .i64 yd) ∧ wx.cell? ⟨Bd, 0, none⟩ = some (.int .i64 ck) ∧ wx.cell? ⟨Bd, 1, none⟩ = some (.int .i64 cd) ∧ wx.cell? ⟨Bd, 2, none⟩ = some (.slice a2 q c2) ∧ Tri w X Y Z Bd (.int .i64 ck) (.int .i64 cd) (.slice a2 q c2) a2 L wx) [8] (by kernel_rfl) hS0 fun hHeld => ?_
    clear hS0
    refine anyT_take (i := 0) (v := ?_) rfl (by kernel_rfl) (by kernel_rfl) (by kernel_rfl) (by kernel_rfl) (fun _ _ _ h => h) (Or.inl ⟨by rfl, ?_⟩) (by assumption) ?_
    rotate_left
    focus ((intro wq hSw; (try dsimp only at hSw); go_simp); try with_reducible rfl)
    try simp only [Act.put, List.setIfInBounds_toArray, List.set_cons_zero, List.set_cons_succ]
    refine anyT_take (i := 2) (v := ?_) rfl (by kernel_rfl) (by kernel_rfl) (by kernel_rfl) (by kernel_rfl) (fun _ _ _ h => h) (Or.inl ⟨by rfl, ?_⟩) (by assumption) ?_
    rotate_left
    focus ((intro wq hSw; (try dsimp only at hSw); go_simp); try with_reducible rfl)
    try simp only [Act.put, List.setIfInBounds_toArray, List.set_cons_zero, List.set_cons_succ]
    refine anyT_take (i := 3) (v := ?_) rfl (by kernel_rfl) (by kernel_rfl) (by kernel_rfl) (by kernel_rfl) (fun _ _ _ h => h) (Or.inl ⟨by rfl, ?_⟩) (by assumption) ?_
    rotate_left
    focus ((intro wq hSw; (try dsimp only at hSw); go_simp); try with_reducible rfl)
    try simp only [Act.put, List.setIfInBounds_toArray, List.set_cons_zero, List.set_cons_succ]
    refine anyT_take (i := 4) (v := ?_) rfl (by kernel_rfl) (by kernel_rfl) (by kernel_rfl) (by kernel_rfl) (fun _ _ _ h => h) (Or.inl ⟨by rfl, ?_⟩) (by assumption) ?_
    rotate_left
    focus ((intro wq hSw; (try dsimp only at hSw); go_simp); try with_reducible rfl)
    try simp only [Act.put, List.setIfInBounds_toArray, List.set_cons_zero, List.set_cons_succ]
    refine anyT_take (i := 5) (v := ?_) rfl (by kernel_rfl) (by kernel_rfl) (by kernel_rfl) (by kernel_rfl) (fun _ _ _ h => h) (Or.inl ⟨by rfl, ?_⟩) (by assumption) ?_
    rotate_left
    focus ((intro wq hSw; (try dsimp only at hSw); go_simp); try with_reducible rfl)
    try simp only [Act.put, List.setIfInBounds_toArray, List.set_cons_zero, List.set_cons_succ]
    clear hHeld
    refine anyT_one (i := 1) (by kernel_rfl) rfl (fun K hK => ?_)
    go_simp
    refine (HNum.out _ a2 c2 HT.out.drew.ints hcd2').mono ?_
    rintro e wq ⟨nv, rfl, hnv, hbq⟩
    have HT1 := Lib.hid (HT.out.drew.below hbq)
    have Hnv := Lib.hid hnv
    clear hnv hbq
    refine hK.out _ _ (fun _ => HS4.out _ HT1.out) ?_
    clear hK K
    try simp only [Act.put, List.setIfInBounds_toArray, List.set_cons_zero, List.set_cons_succ]
    refine anyT_one (i := 6) (by kernel_rfl) rfl (fun K hK => ?_)
    go_simp
    refine (HWish.out _ _ Hnv.out).mono ?_
    rintro e ws ⟨rfl, hbs⟩
    have HT2 := Lib.hid (HT1.out.below hbs)
    clear hbs
    refine hK.out _ _ (fun _ => HS4.out _ HT2.out) ?_
    clear hK K
    try simp only [Act.put, List.setIfInBounds_toArray, List.set_cons_zero, List.set_cons_succ]
    refine anyT_one (i := 7) (by kernel_rfl) rfl (fun K hK => ?_)
    go_simp
    refine hK.out _ _ (fun _ => HS4.out _ HT2.out) ?_
    clear hK K
    try simp only [Act.put, List.setIfInBounds_toArray, List.set_cons_zero, List.set_cons_succ]
    refine anyT_one (i := 8) (by kernel_rfl) rfl (fun K hK => ?_)
    have f1 := HT2.out.zc.f1
    have g1 := HT2.out.zc.c1
    go_simp
    refine hK.out _ _ (fun h => by cases h) ?_
    clear hK K f1 g1
    refine anyT_done (by kernel_rfl) ?_ _
    obtain ⟨W2, hW2, hT3⟩ := HT2.out.set1 hB3 (.int .i64 W0)
    rw [← hW2]
    clear hW2
    have HT3 := Lib.hid hT3
    have hi3 := hT3.i3
    obtain ⟨k0, k1, k2, k3, k4, k5, k6⟩ := hT3.zc
    clear hT3
    obtain ⟨_, _, r0, r1, r2⟩ := HC.out _ hi3
    have f0 := HFr.out _ 0 hi3
    have f1 := HFr.out _ 1 hi3
    have f2 := HFr.out _ 2 hi3
    go_wp2_with fail
    refine bodyPost_ret (v := .tuple #[.agg #[.int .i64 ck, .int .i64 W0, .slice a2 q c2], .bool true]) (by simp [results, Tryz.results55, go_sem, r0, r1, r2]) rfl ⟨_, rfl, HDw.out _ a2 c2 ?_ hcd2', ?_⟩
    · exact (((HT3.out.off.set (Or.inr (by simp)) _).set (Or.inr (by simp)) _).set (Or.inr (by simp)) _).new (by omega)
    · exact ((hi3.out.setCell (by simp; omega) _).setCell (by simp; omega) _).setCell (by simp; omega) _


end Go.Proofs.YtlpdeadmiinhoaaGreatDoor
