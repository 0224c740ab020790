/- What a deal is settled to: count (the closure), size, alignment. -/
import Derived.Test.YtinlcgcnjlifkaaSQ
namespace Go.Proofs.Ytinlcgcnjlifkaa
open Go.RowKit Go.Shelf Go.Deep

theorem SetA.after {Bd : Nat} {ok : Bool} {x : Dl} {w Z : World} {e : Ending} {w' : World} (h : Near Bd w Z) (g : SetA Bd ok x Z e w') : SetA Bd ok x w e w' := ⟨g.1, h.trans g.2.1, g.2.2⟩
set_option maxRecDepth 100000 in
theorem settle41_any (Bd P : Nat) (x : Dl) (a b : Wish) (p : Int) (ha : 1 ≤ a.least ∧ a.least ≤ a.most ∧ a.most ≤ 64) (hb : 1 ≤ b.least ∧ b.least ≤ b.most ∧ b.most ≤ 64) (w : World) (h : w.heap[Bd]? = some x.o) (hp : w.heap[P]? = some (.cells #[.int .i64 p] 3)) : Calls Try.prog 41 #[at0 Bd, a.v, b.v, at0 P] w (SetA Bd (cntOk a b p) { x with c := cntV a b p } w) := by
  have q0 := S3.start a b h
  have HS := Lib.hid (fun w hw => settle42_any Bd x a b p ha hb w hw)
  clear h ha hb
  obtain ⟨a1, a2, a3, a4, a5, a6, a7⟩ := a
  obtain ⟨b1, b2, b3, b4, b5, b6, b7⟩ := b
  show Calls Try.prog 41 #[at0 Bd, .agg #[.int .i64 a1, .int .i64 a2, .int .i64 a3, .int .i64 a4, .int .i64 a5, .int .i64 a6, .int .i64 a7], .agg #[.int .i64 b1, .int .i64 b2, .int .i64 b3, .int .i64 b4, .int .i64 b5, .int .i64 b6, .int .i64 b7], at0 P] w _
  replace HS : Hid (∀ w, w.heap[Bd]? = some x.o → Calls Try.prog 42 #[at0 Bd, .agg #[.int .i64 a1, .int .i64 a2, .int .i64 a3, .int .i64 a4, .int .i64 a5, .int .i64 a6, .int .i64 a7], .agg #[.int .i64 b1, .int .i64 b2, .int .i64 b3, .int .i64 b4, .int .i64 b5, .int .i64 b6, .int .i64 b7], .int .i64 p] w (SetA Bd (cntOk ⟨a1, a2, a3, a4, a5, a6, a7⟩ ⟨b1, b2, b3, b4, b5, b6, b7⟩ p) { x with c := cntV ⟨a1, a2, a3, a4, a5, a6, a7⟩ ⟨b1, b2, b3, b4, b5, b6, b7⟩ p } w)) := HS
  have hpz : ((w.alloc (.cells #[.int .i64 a1, .int .i64 a2, .int .i64 a3, .int .i64 a4, .int .i64 a5, .int .i64 a6, .int .i64 a7] 23)).alloc (.cells #[.int .i64 b1, .int .i64 b2, .int .i64 b3, .int .i64 b4, .int .i64 b5, .int .i64 b6, .int .i64 b7] 23)).heap[P]? = some (.cells #[.int .i64 p] 3) := keep_blk (((Below.refl _ w).alloc (Nat.le_refl _) _).alloc (by simp) _) hp
  obtain ⟨Z, hZ⟩ : ∃ Z, (w.alloc (.cells #[.int .i64 a1, .int .i64 a2, .int .i64 a3, .int .i64 a4, .int .i64 a5, .int .i64 a6, .int .i64 a7] 23)).alloc (.cells #[.int .i64 b1, .int .i64 b2, .int .i64 b3, .int .i64 b4, .int .i64 b5, .int .i64 b6, .int .i64 b7] 23) = Z := ⟨_, rfl⟩
  rw [hZ] at q0 hpz
  have pc : Z.cell? ⟨P, 0, none⟩ = some (.int .i64 p) := by unfold World.cell?; rw [hpz]; rfl
  obtain ⟨d0, d1, d2, d3, d4, d5, d6⟩ := cells7 q0.ha
  obtain ⟨f0, f1, f2, f3, f4, f5, f6⟩ := cells7 q0.hb
  have HQ := Lib.hid q0
  clear q0 hp hpz
  go_enter Try.func41, Try.ntmps41
  go_wp2_with (go_at_call 42; (with_reducible refine (HS.out _ HQ.out.hd).mono ?_); rintro e w1 ⟨rfl, hn, hb⟩; have HN := Lib.hid hn; have HB := Lib.hid hb; clear hn hb)
  go_ret
  exact ⟨rfl, HQ.out.nr.trans HN.out, HB.out⟩
set_option maxHeartbeats 4000000 in
set_option maxRecDepth 100000 in
theorem settle43_any (Bd : Nat) (x : Dl) (a b : Wish) (hz : 0 ≤ max a.size b.size ∧ max a.size b.size ≤ 2000000000) (hs : 1 ≤ x.s ∧ x.s ≤ 65536) (w : World) (h : w.heap[Bd]? = some x.o) : Calls Try.prog 43 #[at0 Bd, a.v, b.v] w (SetA Bd (decide (up (max a.size b.size) x.s ≤ 65536)) { x with z := up (max a.size b.size) x.s } w) := by
  have q0 := S3.start a b h
  have HM := Lib.hid (multiple_any (max a.size b.size) x.s hz.1 hz.2 hs.1 hs.2)
  clear h hz hs
  obtain ⟨a1, a2, a3, a4, a5, a6, a7⟩ := a
  obtain ⟨b1, b2, b3, b4, b5, b6, b7⟩ := b
  show Calls Try.prog 43 #[at0 Bd, .agg #[.int .i64 a1, .int .i64 a2, .int .i64 a3, .int .i64 a4, .int .i64 a5, .int .i64 a6, .int .i64 a7], .agg #[.int .i64 b1, .int .i64 b2, .int .i64 b3, .int .i64 b4, .int .i64 b5, .int .i64 b6, .int .i64 b7]] w _
  dsimp only at HM ⊢
  obtain ⟨u, hu⟩ : ∃ u, up (max a4 b4) x.s = u := ⟨_, rfl⟩
  rw [hu] at HM ⊢
  clear hu
  obtain ⟨Z, hZ⟩ : ∃ Z, (w.alloc (.cells #[.int .i64 a1, .int .i64 a2, .int .i64 a3, .int .i64 a4, .int .i64 a5, .int .i64 a6, .int .i64 a7] 23)).alloc (.cells #[.int .i64 b1, .int .i64 b2, .int .i64 b3, .int .i64 b4, .int .i64 b5, .int .i64 b6, .int .i64 b7] 23) = Z := ⟨_, rfl⟩
  rw [hZ] at q0
  have HQ := Lib.hid q0
  clear q0
  go_enter Try.func43, Try.ntmps43
  go_upto_region 1 with fail
  refine region_T (S := S3 w Bd ⟨a1, a2, a3, a4, a5, a6, a7⟩ ⟨b1, b2, b3, b4, b5, b6, b7⟩ x) [13] (by kernel_rfl) (by first | exact HQ.out.drew | (rw [hZ]; exact HQ.out.drew)) (fun _ => ?_)
  try rw [hZ]
  have hS0 := HQ.out.drew
  obtain ⟨X, hX⟩ : ∃ X, Z.drew = X := ⟨_, rfl⟩
  rw [hX] at hS0 ⊢
  clear hX hZ
  refine anyT_take (i := 0) (v := ?_) rfl (by kernel_rfl) (by kernel_rfl) (by kernel_rfl) (by kernel_rfl) (fun _ _ _ h => h) (Or.inl ⟨by rfl, ?_⟩) hS0 ?_
  rotate_left
  focus ((intro wq hSw; have m1 := cells6 hSw.hd; have m5 := cells7 hSw.ha; have m7 := cells7 hSw.hb; obtain ⟨e0, e1, e2, e3, e4, e5⟩ := m1; obtain ⟨d0, d1, d2, d3, d4, d5, d6⟩ := m5; obtain ⟨f0, f1, f2, f3, f4, f5, f6⟩ := m7; go_simp); try with_reducible rfl)
  try simp only [Act.put, List.getElem_toArray, List.getElem_cons_succ, List.getElem_cons_zero, List.setIfInBounds_toArray, List.set_cons_zero, List.set_cons_succ]
  refine anyT_take (i := 1) (v := ?_) rfl (by kernel_rfl) (by kernel_rfl) (by kernel_rfl) (by kernel_rfl) (fun _ _ _ h => h) (Or.inl ⟨by rfl, ?_⟩) hS0 ?_
  rotate_left
  focus ((intro wq hSw; have m1 := cells6 hSw.hd; have m5 := cells7 hSw.ha; have m7 := cells7 hSw.hb; obtain ⟨e0, e1, e2, e3, e4, e5⟩ := m1; obtain ⟨d0, d1, d2, d3, d4, d5, d6⟩ := m5; obtain ⟨f0, f1, f2, f3, f4, f5, f6⟩ := m7; go_simp); try with_reducible rfl)
  try simp only [Act.put, List.getElem_toArray, List.getElem_cons_succ, List.getElem_cons_zero, List.setIfInBounds_toArray, List.set_cons_zero, List.set_cons_succ]
  refine anyT_take (i := 2) (v := ?_) rfl (by kernel_rfl) (by kernel_rfl) (by kernel_rfl) (by kernel_rfl) (fun _ _ _ h => h) (Or.inl ⟨by rfl, ?_⟩) hS0 ?_
  rotate_left
  focus ((intro wq hSw; have m1 := cells6 hSw.hd; have m5 := cells7 hSw.ha; have m7 := cells7 hSw.hb; obtain ⟨e0, e1, e2, e3, e4, e5⟩ := m1; obtain ⟨d0, d1, d2, d3, d4, d5, d6⟩ := m5; obtain ⟨f0, f1, f2, f3, f4, f5, f6⟩ := m7; go_simp); try with_reducible rfl)
  try simp only [Act.put, List.getElem_toArray, List.getElem_cons_succ, List.getElem_cons_zero, List.setIfInBounds_toArray, List.set_cons_zero, List.set_cons_succ]
  refine anyT_take (i := 3) (v := ?_) rfl (by kernel_rfl) (by kernel_rfl) (by kernel_rfl) (by kernel_rfl) (fun _ _ _ h => h) (Or.inl ⟨by rfl, ?_⟩) hS0 ?_
  rotate_left
  focus ((intro wq hSw; have m1 := cells6 hSw.hd; have m5 := cells7 hSw.ha; have m7 := cells7 hSw.hb; obtain ⟨e0, e1, e2, e3, e4, e5⟩ := m1; obtain ⟨d0, d1, d2, d3, d4, d5, d6⟩ := m5; obtain ⟨f0, f1, f2, f3, f4, f5, f6⟩ := m7; go_simp); try with_reducible rfl)
  try simp only [Act.put, List.getElem_toArray, List.getElem_cons_succ, List.getElem_cons_zero, List.setIfInBounds_toArray, List.set_cons_zero, List.set_cons_succ]
  refine anyT_take (i := 4) (v := ?_) rfl (by kernel_rfl) (by kernel_rfl) (by kernel_rfl) (by kernel_rfl) (fun _ _ _ h => h) (Or.inl ⟨by rfl, ?_⟩) hS0 ?_
  rotate_left
  focus ((intro wq hSw; have m1 := cells6 hSw.hd; have m5 := cells7 hSw.ha; have m7 := cells7 hSw.hb; obtain ⟨e0, e1, e2, e3, e4, e5⟩ := m1; obtain ⟨d0, d1, d2, d3, d4, d5, d6⟩ := m5; obtain ⟨f0, f1, f2, f3, f4, f5, f6⟩ := m7; go_simp); try with_reducible rfl)
  try simp only [Act.put, List.getElem_toArray, List.getElem_cons_succ, List.getElem_cons_zero, List.setIfInBounds_toArray, List.set_cons_zero, List.set_cons_succ]
  refine anyT_take (i := 5) (v := ?_) rfl (by kernel_rfl) (by kernel_rfl) (by kernel_rfl) (by kernel_rfl) (fun _ _ _ h => h) (Or.inl ⟨by rfl, ?_⟩) hS0 ?_
  rotate_left
  focus ((intro wq hSw; have m1 := cells6 hSw.hd; have m5 := cells7 hSw.ha; have m7 := cells7 hSw.hb; obtain ⟨e0, e1, e2, e3, e4, e5⟩ := m1; obtain ⟨d0, d1, d2, d3, d4, d5, d6⟩ := m5; obtain ⟨f0, f1, f2, f3, f4, f5, f6⟩ := m7; go_simp); try with_reducible rfl)
  try simp only [Act.put, List.getElem_toArray, List.getElem_cons_succ, List.getElem_cons_zero, List.setIfInBounds_toArray, List.set_cons_zero, List.set_cons_succ]
  refine anyT_take (i := 6) (v := ?_) rfl (by kernel_rfl) (by kernel_rfl) (by kernel_rfl) (by kernel_rfl) (fun _ _ _ h => h) (Or.inl ⟨by rfl, ?_⟩) hS0 ?_
  rotate_left
  focus ((intro wq hSw; have m1 := cells6 hSw.hd; have m5 := cells7 hSw.ha; have m7 := cells7 hSw.hb; obtain ⟨e0, e1, e2, e3, e4, e5⟩ := m1; obtain ⟨d0, d1, d2, d3, d4, d5, d6⟩ := m5; obtain ⟨f0, f1, f2, f3, f4, f5, f6⟩ := m7; go_simp); try with_reducible rfl)
  try simp only [Act.put, List.getElem_toArray, List.getElem_cons_succ, List.getElem_cons_zero, List.setIfInBounds_toArray, List.set_cons_zero, List.set_cons_succ]
  refine anyT_take (i := 7) (v := ?_) rfl (by kernel_rfl) (by kernel_rfl) (by kernel_rfl) (by kernel_rfl) (fun _ _ _ h => h) (Or.inl ⟨by rfl, ?_⟩) hS0 ?_
  rotate_left
  focus ((intro wq hSw; have m1 := cells6 hSw.hd; have m5 := cells7 hSw.ha; have m7 := cells7 hSw.hb; obtain ⟨e0, e1, e2, e3, e4, e5⟩ := m1; obtain ⟨d0, d1, d2, d3, d4, d5, d6⟩ := m5; obtain ⟨f0, f1, f2, f3, f4, f5, f6⟩ := m7; go_simp); try with_reducible rfl)
  try simp only [Act.put, List.getElem_toArray, List.getElem_cons_succ, List.getElem_cons_zero, List.setIfInBounds_toArray, List.set_cons_zero, List.set_cons_succ]
  refine anyT_take (i := 8) (v := ?_) rfl (by kernel_rfl) (by kernel_rfl) (by kernel_rfl) (by kernel_rfl) (fun _ _ _ h => h) (Or.inl ⟨by rfl, ?_⟩) hS0 ?_
  rotate_left
  focus ((intro wq hSw; have m1 := cells6 hSw.hd; have m5 := cells7 hSw.ha; have m7 := cells7 hSw.hb; obtain ⟨e0, e1, e2, e3, e4, e5⟩ := m1; obtain ⟨d0, d1, d2, d3, d4, d5, d6⟩ := m5; obtain ⟨f0, f1, f2, f3, f4, f5, f6⟩ := m7; go_simp); try with_reducible rfl)
  try simp only [Act.put, List.getElem_toArray, List.getElem_cons_succ, List.getElem_cons_zero, List.setIfInBounds_toArray, List.set_cons_zero, List.set_cons_succ]
  refine anyT_take (i := 9) (v := ?_) rfl (by kernel_rfl) (by kernel_rfl) (by kernel_rfl) (by kernel_rfl) (fun _ _ _ h => h) (Or.inl ⟨by rfl, ?_⟩) hS0 ?_
  rotate_left
  focus ((intro wq hSw; have m1 := cells6 hSw.hd; have m5 := cells7 hSw.ha; have m7 := cells7 hSw.hb; obtain ⟨e0, e1, e2, e3, e4, e5⟩ := m1; obtain ⟨d0, d1, d2, d3, d4, d5, d6⟩ := m5; obtain ⟨f0, f1, f2, f3, f4, f5, f6⟩ := m7; go_simp); try with_reducible rfl)
  try simp only [Act.put, List.getElem_toArray, List.getElem_cons_succ, List.getElem_cons_zero, List.setIfInBounds_toArray, List.set_cons_zero, List.set_cons_succ]
  refine anyT_one (i := 10) (by kernel_rfl) rfl (fun K hK => ?_)
  go_simp
  refine (HM.out _).mono ?_
  rintro e w1 ⟨rfl, rfl⟩
  go_simp
  refine hK.out _ _ (fun h => hS0) ?_
  clear hK K
  try simp only [Act.put, List.getElem_toArray, List.getElem_cons_succ, List.getElem_cons_zero, List.setIfInBounds_toArray, List.set_cons_zero, List.set_cons_succ]
  refine anyT_take (i := 11) (v := ?_) rfl (by kernel_rfl) (by kernel_rfl) (by kernel_rfl) (by kernel_rfl) (fun _ _ _ h => h) (Or.inl ⟨by rfl, ?_⟩) hS0 ?_
  rotate_left
  focus ((intro wq hSw; have m1 := cells6 hSw.hd; have m5 := cells7 hSw.ha; have m7 := cells7 hSw.hb; obtain ⟨e0, e1, e2, e3, e4, e5⟩ := m1; obtain ⟨d0, d1, d2, d3, d4, d5, d6⟩ := m5; obtain ⟨f0, f1, f2, f3, f4, f5, f6⟩ := m7; go_simp); try with_reducible rfl)
  try simp only [Act.put, List.getElem_toArray, List.getElem_cons_succ, List.getElem_cons_zero, List.setIfInBounds_toArray, List.set_cons_zero, List.set_cons_succ]
  refine anyT_take (i := 12) (v := ?_) rfl (by kernel_rfl) (by kernel_rfl) (by kernel_rfl) (by kernel_rfl) (fun _ _ _ h => h) (Or.inl ⟨by rfl, ?_⟩) hS0 ?_
  rotate_left
  focus ((intro wq hSw; have m1 := cells6 hSw.hd; have m5 := cells7 hSw.ha; have m7 := cells7 hSw.hb; obtain ⟨e0, e1, e2, e3, e4, e5⟩ := m1; obtain ⟨d0, d1, d2, d3, d4, d5, d6⟩ := m5; obtain ⟨f0, f1, f2, f3, f4, f5, f6⟩ := m7; go_simp); try with_reducible rfl)
  try simp only [Act.put, List.getElem_toArray, List.getElem_cons_succ, List.getElem_cons_zero, List.setIfInBounds_toArray, List.set_cons_zero, List.set_cons_succ]
  have q1 := hS0.set { x with z := u } 2 (.int .i64 u) rfl
  have fz := frozen_blk (off := 2) hS0.hd
  obtain ⟨e0, e1, e2, e3, e4, e5⟩ := cells6 hS0.hd
  have HQ1 := Lib.hid q1
  clear q1
  refine anyT_one (i := 13) (by kernel_rfl) rfl (fun K hK => ?_)
  go_simp
  go_simp
  refine hK.out _ _ (fun h => absurd h (by decide)) ?_
  clear hK K
  try simp only [Act.put, List.getElem_toArray, List.getElem_cons_succ, List.getElem_cons_zero, List.setIfInBounds_toArray, List.set_cons_zero, List.set_cons_succ]
  refine anyT_done (by kernel_rfl) ?_ _
  clear fz e0 e1 e2 e3 e4 e5 hS0
  obtain ⟨Y, hY⟩ : ∃ Y, X.setCell ⟨Bd, 2, none⟩ (.int .i64 u) = Y := ⟨_, rfl⟩
  rw [hY] at HQ1 ⊢
  clear hY
  obtain ⟨e0, e1, e2, e3, e4, e5⟩ := cells6 HQ1.out.hd
  go_wp2_with fail
  go_ret
  exact ⟨rfl, HQ1.out.nr, HQ1.out.hd⟩
set_option maxHeartbeats 4000000 in
set_option maxRecDepth 100000 in
theorem settle44_any (Bd : Nat) (x : Dl) (a b : Wish) (hc : 1 ≤ x.c ∧ x.c ≤ 64) (hb : 1 ≤ x.b ∧ x.b ≤ 8) (hz : 1 ≤ x.z ∧ x.z ≤ 65536) (ha : 1 ≤ max a.align b.align ∧ max a.align b.align ≤ 256) (w : World) (h : w.heap[Bd]? = some x.o) : Calls Try.prog 44 #[at0 Bd, a.v, b.v] w (SetA Bd (decide (endK 0 x.z (max a.align b.align) (x.c.toNat * x.b.toNat) ≤ 1000000)) { x with a := max a.align b.align } w) := by
  have q0 := S3.start a b h
  have HEND : Hid (∀ y, Calls Try.prog 32 #[.agg #[.int .i64 x.c, .int .i64 x.b, .int .i64 x.z, .int .i64 x.s, .int .i64 (max a.align b.align), .int .i64 x.k], .int .i64 0] y fun e w' => e = .returned (.int .i64 (endK 0 x.z (max a.align b.align) (x.c.toNat * x.b.toNat))) ∧ Below y.heap.size y w') := Lib.hid fun y => by
    have h9 := end_any ⟨x.c.toNat, x.b.toNat, x.z, x.s, max a.align b.align, x.k⟩ ⟨by dsimp only; omega, by dsimp only; omega, hz, ha⟩ 0 ⟨by decide, by decide⟩ y
    simp only [DealP.v, Int.toNat_of_nonneg (show 0 ≤ x.c by omega), Int.toNat_of_nonneg (show 0 ≤ x.b by omega)] at h9
    exact h9
  clear h hc hb hz ha
  obtain ⟨a1, a2, a3, a4, a5, a6, a7⟩ := a
  obtain ⟨b1, b2, b3, b4, b5, b6, b7⟩ := b
  show Calls Try.prog 44 #[at0 Bd, .agg #[.int .i64 a1, .int .i64 a2, .int .i64 a3, .int .i64 a4, .int .i64 a5, .int .i64 a6, .int .i64 a7], .agg #[.int .i64 b1, .int .i64 b2, .int .i64 b3, .int .i64 b4, .int .i64 b5, .int .i64 b6, .int .i64 b7]] w _
  dsimp only at HEND ⊢
  obtain ⟨u, hu⟩ : ∃ u, endK 0 x.z (max a6 b6) (x.c.toNat * x.b.toNat) = u := ⟨_, rfl⟩
  rw [hu] at HEND ⊢
  clear hu
  obtain ⟨Z, hZ⟩ : ∃ Z, (w.alloc (.cells #[.int .i64 a1, .int .i64 a2, .int .i64 a3, .int .i64 a4, .int .i64 a5, .int .i64 a6, .int .i64 a7] 23)).alloc (.cells #[.int .i64 b1, .int .i64 b2, .int .i64 b3, .int .i64 b4, .int .i64 b5, .int .i64 b6, .int .i64 b7] 23) = Z := ⟨_, rfl⟩
  rw [hZ] at q0
  have q1 := q0.set { x with a := max a6 b6 } 4 (.int .i64 (max a6 b6)) rfl
  have fz : Z.frozen? ⟨Bd, 4, none⟩ = false := frozen_blk q0.hd
  obtain ⟨d0, d1, d2, d3, d4, d5, d6⟩ := cells7 q0.ha
  obtain ⟨k0, k1, k2, k3, k4, k5, k6⟩ := cells7 q0.hb
  obtain ⟨x0, x1, x2, x3, x4, x5⟩ := cells6 q0.hd
  obtain ⟨e0, e1, e2, e3, e4, e5⟩ := cells6 q1.hd
  have HQ := Lib.hid q1
  clear q0 q1
  go_enter Try.func44, Try.ntmps44
  go_wp2_with (go_at_call 32; (with_reducible refine (HEND.out _).mono ?_); rintro e w1 ⟨rfl, hb⟩; have HB := Lib.hid hb; clear hb)
  go_ret
  exact ⟨rfl, HQ.out.nr.trans (Near.of HB.out), keep_blk HB.out HQ.out.hd⟩
end Go.Proofs.Ytinlcgcnjlifkaa
