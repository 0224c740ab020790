/- What a deal is settled to: its kind. -/
import Derived.Test.YtinlcgcnjlifkaaSO
namespace Go.Proofs.Ytinlcgcnjlifkaa
open Go.RowKit Go.Shelf Go.Deep

def kindT (a b : Wish) : Option Int := lcT 0 (kindsTo a.kinds 8) (kindsTo b.kinds 8)
theorem S3.drew {w : World} {Bd : Nat} {a b : Wish} {x : Dl} {W : World} (h : S3 w Bd a b x W) : S3 w Bd a b x W.drew := h.below ⟨rfl, rfl, rfl, Nat.le_refl _, fun _ _ => rfl⟩

set_option maxHeartbeats 4000000 in
set_option maxRecDepth 100000 in
theorem settle40_any (Bd : Nat) (x : Dl) (a b : Wish) (ha : 0 ≤ a.kinds ∧ a.kinds ≤ 65536) (hb : 0 ≤ b.kinds ∧ b.kinds ≤ 65536) (w : World) (h : w.heap[Bd]? = some x.o) : Calls Try.prog 40 #[at0 Bd, a.v, b.v] w (SetA Bd (kindT a b).isSome { x with k := (kindT a b).getD 0 } w) := by
  have q0 := S3.start a b h
  have HKA := Lib.hid (kinds_any a ha.1 ha.2)
  have HKB := Lib.hid (kinds_any b hb.1 hb.2)
  have HL := Lib.hid least_any
  clear h ha hb
  unfold kindT
  obtain ⟨a1, a2, a3, a4, a5, a6, a7⟩ := a
  obtain ⟨b1, b2, b3, b4, b5, b6, b7⟩ := b
  show Calls Try.prog 40 #[at0 Bd, .agg #[.int .i64 a1, .int .i64 a2, .int .i64 a3, .int .i64 a4, .int .i64 a5, .int .i64 a6, .int .i64 a7], .agg #[.int .i64 b1, .int .i64 b2, .int .i64 b3, .int .i64 b4, .int .i64 b5, .int .i64 b6, .int .i64 b7]] w _
  replace HKA : Hid (∀ w, Calls Try.prog 28 #[.agg #[.int .i64 a1, .int .i64 a2, .int .i64 a3, .int .i64 a4, .int .i64 a5, .int .i64 a6, .int .i64 a7]] w (RowA (kindsTo a7 8) w)) := HKA
  replace HKB : Hid (∀ w, Calls Try.prog 28 #[.agg #[.int .i64 b1, .int .i64 b2, .int .i64 b3, .int .i64 b4, .int .i64 b5, .int .i64 b6, .int .i64 b7]] w (RowA (kindsTo b7 8) w)) := HKB
  obtain ⟨Z, hZ⟩ : ∃ Z, (w.alloc (.cells #[.int .i64 a1, .int .i64 a2, .int .i64 a3, .int .i64 a4, .int .i64 a5, .int .i64 a6, .int .i64 a7] 23)).alloc (.cells #[.int .i64 b1, .int .i64 b2, .int .i64 b3, .int .i64 b4, .int .i64 b5, .int .i64 b6, .int .i64 b7] 23) = Z := ⟨_, rfl⟩
  rw [hZ] at q0
  dsimp only
  obtain ⟨m, hm⟩ : ∃ m, lcT 0 (kindsTo a7 8) (kindsTo b7 8) = m := ⟨_, rfl⟩
  have HM := Lib.hid hm
  rw [hm]
  clear hm
  have HQ := Lib.hid q0
  clear q0
  go_enter Try.func40, Try.ntmps40
  go_upto_region 1 with fail
  refine region_T (S := fun wx => ∃ x9, S3 w Bd ⟨a1, a2, a3, a4, a5, a6, a7⟩ ⟨b1, b2, b3, b4, b5, b6, b7⟩ x9 wx) [] (by kernel_rfl) (by first | exact ⟨x, HQ.out.drew⟩ | (rw [hZ]; exact ⟨x, HQ.out.drew⟩)) (fun _ => ?_)
  try rw [hZ]
  have hS0 := HQ.out.drew
  obtain ⟨X, hX⟩ : ∃ X, Z.drew = X := ⟨_, rfl⟩
  rw [hX] at hS0 ⊢
  clear hX hZ
  refine anyT_take (i := 0) (v := ?_) rfl (by kernel_rfl) (by kernel_rfl) (by kernel_rfl) (by kernel_rfl) (fun _ _ _ h => h) (Or.inl ⟨by rfl, ?_⟩) ⟨x, hS0⟩ ?_
  rotate_left
  focus ((intro wq hSw; obtain ⟨x9, hSw⟩ := hSw; have m1 := cells6 hSw.hd; have m5 := cells7 hSw.ha; have m7 := cells7 hSw.hb; obtain ⟨e0, e1, e2, e3, e4, e5⟩ := m1; obtain ⟨d0, d1, d2, d3, d4, d5, d6⟩ := m5; obtain ⟨f0, f1, f2, f3, f4, f5, f6⟩ := m7; go_simp); try with_reducible rfl)
  try simp only [Act.put, List.getElem_toArray, List.getElem_cons_succ, List.getElem_cons_zero, List.setIfInBounds_toArray, List.set_cons_zero, List.set_cons_succ]
  refine anyT_take (i := 1) (v := ?_) rfl (by kernel_rfl) (by kernel_rfl) (by kernel_rfl) (by kernel_rfl) (fun _ _ _ h => h) (Or.inl ⟨by rfl, ?_⟩) ⟨x, hS0⟩ ?_
  rotate_left
  focus ((intro wq hSw; obtain ⟨x9, hSw⟩ := hSw; have m1 := cells6 hSw.hd; have m5 := cells7 hSw.ha; have m7 := cells7 hSw.hb; obtain ⟨e0, e1, e2, e3, e4, e5⟩ := m1; obtain ⟨d0, d1, d2, d3, d4, d5, d6⟩ := m5; obtain ⟨f0, f1, f2, f3, f4, f5, f6⟩ := m7; go_simp); try with_reducible rfl)
  try simp only [Act.put, List.getElem_toArray, List.getElem_cons_succ, List.getElem_cons_zero, List.setIfInBounds_toArray, List.set_cons_zero, List.set_cons_succ]
  refine anyT_take (i := 3) (v := ?_) rfl (by kernel_rfl) (by kernel_rfl) (by kernel_rfl) (by kernel_rfl) (fun _ _ _ h => h) (Or.inl ⟨by rfl, ?_⟩) ⟨x, hS0⟩ ?_
  rotate_left
  focus ((intro wq hSw; obtain ⟨x9, hSw⟩ := hSw; have m1 := cells6 hSw.hd; have m5 := cells7 hSw.ha; have m7 := cells7 hSw.hb; obtain ⟨e0, e1, e2, e3, e4, e5⟩ := m1; obtain ⟨d0, d1, d2, d3, d4, d5, d6⟩ := m5; obtain ⟨f0, f1, f2, f3, f4, f5, f6⟩ := m7; go_simp); try with_reducible rfl)
  try simp only [Act.put, List.getElem_toArray, List.getElem_cons_succ, List.getElem_cons_zero, List.setIfInBounds_toArray, List.set_cons_zero, List.set_cons_succ]
  refine anyT_one (i := 2) (by kernel_rfl) rfl (fun K hK => ?_)
  go_simp
  refine (HKA.out _).mono ?_
  rintro e w1 ⟨u1, rfl, hr1, hb1⟩
  have hS1 := hS0.below hb1
  have HR1 := Lib.hid hr1
  clear hb1 hr1 hS0
  go_simp
  refine hK.out _ _ (fun h => ⟨_, hS1⟩) ?_
  clear hK K
  try simp only [Act.put, List.getElem_toArray, List.getElem_cons_succ, List.getElem_cons_zero, List.setIfInBounds_toArray, List.set_cons_zero, List.set_cons_succ]
  refine anyT_one (i := 4) (by kernel_rfl) rfl (fun K hK => ?_)
  go_simp
  refine (HKB.out _).mono ?_
  rintro e w2 ⟨u2, rfl, hr2, hb2⟩
  have hS2 := hS1.below hb2
  have HR2 := Lib.hid hr2
  have HR1b := Lib.hid (RowIn.mono (Same.of_below hb2) HR1.out)
  clear hb2 hr2 hS1 HR1
  go_simp
  refine hK.out _ _ (fun h => ⟨_, hS2⟩) ?_
  clear hK K
  try simp only [Act.put, List.getElem_toArray, List.getElem_cons_succ, List.getElem_cons_zero, List.setIfInBounds_toArray, List.set_cons_zero, List.set_cons_succ]
  refine anyT_one (i := 5) (by kernel_rfl) rfl (fun K hK => ?_)
  go_simp
  refine (HL.out _ _ _ _ _ _ HR1b.out HR2.out).mono ?_
  rintro e w3 ⟨rfl, rfl⟩
  unfold lcV
  rw [HM.out]
  go_simp
  refine hK.out _ _ (fun h => ⟨_, hS2⟩) ?_
  clear hK K
  try simp only [Act.put, List.getElem_toArray, List.getElem_cons_succ, List.getElem_cons_zero, List.setIfInBounds_toArray, List.set_cons_zero, List.set_cons_succ]
  refine anyT_take (i := 6) (v := ?_) rfl (by kernel_rfl) (by kernel_rfl) (by kernel_rfl) (by kernel_rfl) (fun _ _ _ h => h) (Or.inl ⟨by rfl, ?_⟩) ⟨x, hS2⟩ ?_
  rotate_left
  focus ((intro wq hSw; obtain ⟨x9, hSw⟩ := hSw; have m1 := cells6 hSw.hd; have m5 := cells7 hSw.ha; have m7 := cells7 hSw.hb; obtain ⟨e0, e1, e2, e3, e4, e5⟩ := m1; obtain ⟨d0, d1, d2, d3, d4, d5, d6⟩ := m5; obtain ⟨f0, f1, f2, f3, f4, f5, f6⟩ := m7; go_simp); try with_reducible rfl)
  try simp only [Act.put, List.getElem_toArray, List.getElem_cons_succ, List.getElem_cons_zero, List.setIfInBounds_toArray, List.set_cons_zero, List.set_cons_succ]
  refine anyT_take (i := 7) (v := ?_) rfl (by kernel_rfl) (by kernel_rfl) (by kernel_rfl) (by kernel_rfl) (fun _ _ _ h => h) (Or.inl ⟨by rfl, ?_⟩) ⟨x, hS2⟩ ?_
  rotate_left
  focus ((intro wq hSw; obtain ⟨x9, hSw⟩ := hSw; have m1 := cells6 hSw.hd; have m5 := cells7 hSw.ha; have m7 := cells7 hSw.hb; obtain ⟨e0, e1, e2, e3, e4, e5⟩ := m1; obtain ⟨d0, d1, d2, d3, d4, d5, d6⟩ := m5; obtain ⟨f0, f1, f2, f3, f4, f5, f6⟩ := m7; go_simp); try with_reducible rfl)
  try simp only [Act.put, List.getElem_toArray, List.getElem_cons_succ, List.getElem_cons_zero, List.setIfInBounds_toArray, List.set_cons_zero, List.set_cons_succ]
  refine anyT_take (i := 8) (v := ?_) rfl (by kernel_rfl) (by kernel_rfl) (by kernel_rfl) (by kernel_rfl) (fun _ _ _ h => h) (Or.inl ⟨by rfl, ?_⟩) ⟨x, hS2⟩ ?_
  rotate_left
  focus ((intro wq hSw; obtain ⟨x9, hSw⟩ := hSw; have m1 := cells6 hSw.hd; have m5 := cells7 hSw.ha; have m7 := cells7 hSw.hb; obtain ⟨e0, e1, e2, e3, e4, e5⟩ := m1; obtain ⟨d0, d1, d2, d3, d4, d5, d6⟩ := m5; obtain ⟨f0, f1, f2, f3, f4, f5, f6⟩ := m7; go_simp); try with_reducible rfl)
  try simp only [Act.put, List.getElem_toArray, List.getElem_cons_succ, List.getElem_cons_zero, List.setIfInBounds_toArray, List.set_cons_zero, List.set_cons_succ]
  refine anyT_take (i := 9) (v := ?_) rfl (by kernel_rfl) (by kernel_rfl) (by kernel_rfl) (by kernel_rfl) (fun _ _ _ h => h) (Or.inl ⟨by rfl, ?_⟩) ⟨x, hS2⟩ ?_
  rotate_left
  focus ((intro wq hSw; obtain ⟨x9, hSw⟩ := hSw; have m1 := cells6 hSw.hd; have m5 := cells7 hSw.ha; have m7 := cells7 hSw.hb; obtain ⟨e0, e1, e2, e3, e4, e5⟩ := m1; obtain ⟨d0, d1, d2, d3, d4, d5, d6⟩ := m5; obtain ⟨f0, f1, f2, f3, f4, f5, f6⟩ := m7; go_simp); try with_reducible rfl)
  try simp only [Act.put, List.getElem_toArray, List.getElem_cons_succ, List.getElem_cons_zero, List.setIfInBounds_toArray, List.set_cons_zero, List.set_cons_succ]
  refine anyT_take (i := 10) (v := ?_) rfl (by kernel_rfl) (by kernel_rfl) (by kernel_rfl) (by kernel_rfl) (fun _ _ _ h => h) (Or.inl ⟨by rfl, ?_⟩) ⟨x, hS2⟩ ?_
  rotate_left
  focus ((intro wq hSw; obtain ⟨x9, hSw⟩ := hSw; have m1 := cells6 hSw.hd; have m5 := cells7 hSw.ha; have m7 := cells7 hSw.hb; obtain ⟨e0, e1, e2, e3, e4, e5⟩ := m1; obtain ⟨d0, d1, d2, d3, d4, d5, d6⟩ := m5; obtain ⟨f0, f1, f2, f3, f4, f5, f6⟩ := m7; go_simp); try with_reducible rfl)
  try simp only [Act.put, List.getElem_toArray, List.getElem_cons_succ, List.getElem_cons_zero, List.setIfInBounds_toArray, List.set_cons_zero, List.set_cons_succ]
  have q1 := hS2.set { x with k := m.getD 0 } 5 (.int .i64 (m.getD 0)) rfl
  have fz := frozen_blk (off := 5) hS2.hd
  obtain ⟨e0, e1, e2, e3, e4, e5⟩ := cells6 hS2.hd
  have HQ1 := Lib.hid q1
  clear q1
  refine anyT_one (i := 11) (by kernel_rfl) rfl (fun K hK => ?_)
  go_simp
  go_simp
  refine hK.out _ _ (fun h => ⟨_, HQ1.out⟩) ?_
  clear hK K
  try simp only [Act.put, List.getElem_toArray, List.getElem_cons_succ, List.getElem_cons_zero, List.setIfInBounds_toArray, List.set_cons_zero, List.set_cons_succ]
  refine anyT_one (i := 12) (by kernel_rfl) rfl (fun K hK => ?_)
  go_simp
  go_simp
  refine hK.out _ _ (fun h => ⟨_, HQ1.out⟩) ?_
  clear hK K
  try simp only [Act.put, List.getElem_toArray, List.getElem_cons_succ, List.getElem_cons_zero, List.setIfInBounds_toArray, List.set_cons_zero, List.set_cons_succ]
  refine anyT_done (by kernel_rfl) ?_ _
  go_wp2_with fail
  go_ret
  exact ⟨rfl, HQ1.out.nr, HQ1.out.hd⟩
end Go.Proofs.Ytinlcgcnjlifkaa
