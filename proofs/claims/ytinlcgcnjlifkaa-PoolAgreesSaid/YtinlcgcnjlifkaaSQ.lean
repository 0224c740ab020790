/- What a deal is settled to: its count. -/
import Derived.Test.YtinlcgcnjlifkaaSP
namespace Go.Proofs.Ytinlcgcnjlifkaa
open Go.RowKit Go.Shelf Go.Deep

def cntB (a b : Wish) (p : Int) : Option Int := lcT p (cntTo a.least (a.most - a.least + 1).toNat) (cntTo b.least (b.most - b.least + 1).toNat)
def cntV (a b : Wish) (p : Int) : Int := match cntB a b p with | some y => y | none => min a.most b.most
def cntOk (a b : Wish) (p : Int) : Bool := match cntB a b p with | some _ => true | none => decide (max a.least b.least ≤ min a.most b.most)
set_option maxHeartbeats 4000000 in
set_option maxRecDepth 100000 in
theorem settle42_any (Bd : Nat) (x : Dl) (a b : Wish) (p : Int) (ha : 1 ≤ a.least ∧ a.least ≤ a.most ∧ a.most ≤ 64) (hb : 1 ≤ b.least ∧ b.least ≤ b.most ∧ b.most ≤ 64) (w : World) (h : w.heap[Bd]? = some x.o) : Calls Try.prog 42 #[at0 Bd, a.v, b.v, .int .i64 p] w (SetA Bd (cntOk a b p) { x with c := cntV a b p } w) := by
  have q0 := S3.start a b h
  have HKA := Lib.hid (counts_any a ha.1 ha.2.1 ha.2.2)
  have HKB := Lib.hid (counts_any b hb.1 hb.2.1 hb.2.2)
  have HL := Lib.hid least_any
  clear h ha hb
  unfold cntV cntOk cntB
  obtain ⟨a1, a2, a3, a4, a5, a6, a7⟩ := a
  obtain ⟨b1, b2, b3, b4, b5, b6, b7⟩ := b
  show Calls Try.prog 42 #[at0 Bd, .agg #[.int .i64 a1, .int .i64 a2, .int .i64 a3, .int .i64 a4, .int .i64 a5, .int .i64 a6, .int .i64 a7], .agg #[.int .i64 b1, .int .i64 b2, .int .i64 b3, .int .i64 b4, .int .i64 b5, .int .i64 b6, .int .i64 b7], .int .i64 p] w _
  obtain ⟨la, hla⟩ : ∃ la, cntTo a1 (a2 - a1 + 1).toNat = la := ⟨_, rfl⟩
  obtain ⟨lb, hlb⟩ : ∃ lb, cntTo b1 (b2 - b1 + 1).toNat = lb := ⟨_, rfl⟩
  replace HKA : Hid (∀ w, Calls Try.prog 53 #[.agg #[.int .i64 a1, .int .i64 a2, .int .i64 a3, .int .i64 a4, .int .i64 a5, .int .i64 a6, .int .i64 a7]] w (RowA la w)) := by rw [← hla]; exact HKA
  replace HKB : Hid (∀ w, Calls Try.prog 53 #[.agg #[.int .i64 b1, .int .i64 b2, .int .i64 b3, .int .i64 b4, .int .i64 b5, .int .i64 b6, .int .i64 b7]] w (RowA lb w)) := by rw [← hlb]; exact HKB
  dsimp only
  rw [hla, hlb]
  clear hla hlb
  obtain ⟨Z, hZ⟩ : ∃ Z, (w.alloc (.cells #[.int .i64 a1, .int .i64 a2, .int .i64 a3, .int .i64 a4, .int .i64 a5, .int .i64 a6, .int .i64 a7] 23)).alloc (.cells #[.int .i64 b1, .int .i64 b2, .int .i64 b3, .int .i64 b4, .int .i64 b5, .int .i64 b6, .int .i64 b7] 23) = Z := ⟨_, rfl⟩
  rw [hZ] at q0
  obtain ⟨m, hm⟩ : ∃ m, lcT p la lb = m := ⟨_, rfl⟩
  have HM := Lib.hid hm
  rw [hm]
  clear hm
  have HQ := Lib.hid q0
  clear q0
  go_enter Try.func42, Try.ntmps42
  go_upto_region 1 with fail
  refine region_T (S := fun wx => ∃ x9, S3 w Bd ⟨a1, a2, a3, a4, a5, a6, a7⟩ ⟨b1, b2, b3, b4, b5, b6, b7⟩ x9 wx) [] (by kernel_rfl) (by first | exact ⟨x, HQ.out.drew⟩ | (rw [hZ]; exact ⟨x, HQ.out.drew⟩)) (fun _ => ?_)
  try rw [hZ]
  have hS0 := HQ.out.drew
  obtain ⟨X, hX⟩ : ∃ X, Z.drew = X := ⟨_, rfl⟩
  rw [hX] at hS0 ⊢
  clear hX hZ
  refine anyT_take (i := 0) (v := ?_) rfl (by kernel_rfl) (by kernel_rfl) (by kernel_rfl) (by kernel_rfl) (fun _ _ _ h => h) (Or.inl ⟨by rfl, ?_⟩) ⟨x, hS0⟩ ?_
  rotate_left
  focus ((intro wq hSw; obtain ⟨x9, hSw⟩ := hSw; have m1 := cells6 hSw.hd; have m5 := cells7 hSw.ha; have m7 := cells7 hSw.hb; obtain ⟨e0, e1, e2, e3, e4, e5⟩ := m1; obtain ⟨d0, d1, d2, d3, d4, d5, d6⟩ := m5; obtain ⟨f0, f1, f2, f3, f4, f5, f6⟩ := m7; go_simp); try with_reducible rfl)
  try simp only [Act.put, List.getElem_toArray, List.getElem_cons_succ, List.getElem_cons_zero, List.setIfInBounds_toArray, List.set_cons_zero, List.set_cons_succ]
  refine anyT_take (i := 1) (v := ?_) rfl (by kernel_rfl) (by kernel_rfl) (by kernel_rfl) (by kernel_rfl) (fun _ _ _ h => h) (Or.inl ⟨by rfl, ?_⟩) ⟨x, hS0⟩ ?_
  rotate_left
  focus ((intro wq hSw; obtain ⟨x9, hSw⟩ := hSw; have m1 := cells6 hSw.hd; have m5 := cells7 hSw.ha; have m7 := cells7 hSw.hb; obtain ⟨e0, e1, e2, e3, e4, e5⟩ := m1; obtain ⟨d0, d1, d2, d3, d4, d5, d6⟩ := m5; obtain ⟨f0, f1, f2, f3, f4, f5, f6⟩ := m7; go_simp); try with_reducible rfl)
  try simp only [Act.put, List.getElem_toArray, List.getElem_cons_succ, List.getElem_cons_zero, List.setIfInBounds_toArray, List.set_cons_zero, List.set_cons_succ]
  refine anyT_take (i := 2) (v := ?_) rfl (by kernel_rfl) (by kernel_rfl) (by kernel_rfl) (by kernel_rfl) (fun _ _ _ h => h) (Or.inl ⟨by rfl, ?_⟩) ⟨x, hS0⟩ ?_
  rotate_left
  focus ((intro wq hSw; obtain ⟨x9, hSw⟩ := hSw; have m1 := cells6 hSw.hd; have m5 := cells7 hSw.ha; have m7 := cells7 hSw.hb; obtain ⟨e0, e1, e2, e3, e4, e5⟩ := m1; obtain ⟨d0, d1, d2, d3, d4, d5, d6⟩ := m5; obtain ⟨f0, f1, f2, f3, f4, f5, f6⟩ := m7; go_simp); try with_reducible rfl)
  try simp only [Act.put, List.getElem_toArray, List.getElem_cons_succ, List.getElem_cons_zero, List.setIfInBounds_toArray, List.set_cons_zero, List.set_cons_succ]
  refine anyT_take (i := 4) (v := ?_) rfl (by kernel_rfl) (by kernel_rfl) (by kernel_rfl) (by kernel_rfl) (fun _ _ _ h => h) (Or.inl ⟨by rfl, ?_⟩) ⟨x, hS0⟩ ?_
  rotate_left
  focus ((intro wq hSw; obtain ⟨x9, hSw⟩ := hSw; have m1 := cells6 hSw.hd; have m5 := cells7 hSw.ha; have m7 := cells7 hSw.hb; obtain ⟨e0, e1, e2, e3, e4, e5⟩ := m1; obtain ⟨d0, d1, d2, d3, d4, d5, d6⟩ := m5; obtain ⟨f0, f1, f2, f3, f4, f5, f6⟩ := m7; go_simp); try with_reducible rfl)
  try simp only [Act.put, List.getElem_toArray, List.getElem_cons_succ, List.getElem_cons_zero, List.setIfInBounds_toArray, List.set_cons_zero, List.set_cons_succ]
  refine anyT_one (i := 3) (by kernel_rfl) rfl (fun K hK => ?_)
  go_simp
  refine (HKA.out _).mono ?_
  rintro e w1 ⟨u1, rfl, hr1, hb1⟩
  have hS1 := hS0.below hb1
  have HR1 := Lib.hid hr1
  clear hb1 hr1 hS0
  go_simp
  refine hK.out _ _ (fun h => ⟨_, hS1⟩) ?_
  clear hK K
  try simp only [Act.put, List.getElem_toArray, List.getElem_cons_succ, List.getElem_cons_zero, List.setIfInBounds_toArray, List.set_cons_zero, List.set_cons_succ]
  refine anyT_one (i := 5) (by kernel_rfl) rfl (fun K hK => ?_)
  go_simp
  refine (HKB.out _).mono ?_
  rintro e w2 ⟨u2, rfl, hr2, hb2⟩
  have hS2 := hS1.below hb2
  have HR2 := Lib.hid hr2
  have HR1b := Lib.hid (RowIn.mono (Same.of_below hb2) HR1.out)
  clear hb2 hr2 hS1 HR1
  go_simp
  refine hK.out _ _ (fun h => ⟨_, hS2⟩) ?_
  clear hK K
  try simp only [Act.put, List.getElem_toArray, List.getElem_cons_succ, List.getElem_cons_zero, List.setIfInBounds_toArray, List.set_cons_zero, List.set_cons_succ]
  refine anyT_one (i := 6) (by kernel_rfl) rfl (fun K hK => ?_)
  go_simp
  refine (HL.out _ _ _ _ _ _ HR1b.out HR2.out).mono ?_
  rintro e w3 ⟨rfl, rfl⟩
  unfold lcV
  rw [HM.out]
  go_simp
  refine hK.out _ _ (fun h => ⟨_, hS2⟩) ?_
  clear hK K
  try simp only [Act.put, List.getElem_toArray, List.getElem_cons_succ, List.getElem_cons_zero, List.setIfInBounds_toArray, List.set_cons_zero, List.set_cons_succ]
  refine anyT_take (i := 7) (v := ?_) rfl (by kernel_rfl) (by kernel_rfl) (by kernel_rfl) (by kernel_rfl) (fun _ _ _ h => h) (Or.inl ⟨by rfl, ?_⟩) ⟨x, hS2⟩ ?_
  rotate_left
  focus ((intro wq hSw; obtain ⟨x9, hSw⟩ := hSw; have m1 := cells6 hSw.hd; have m5 := cells7 hSw.ha; have m7 := cells7 hSw.hb; obtain ⟨e0, e1, e2, e3, e4, e5⟩ := m1; obtain ⟨d0, d1, d2, d3, d4, d5, d6⟩ := m5; obtain ⟨f0, f1, f2, f3, f4, f5, f6⟩ := m7; go_simp); try with_reducible rfl)
  try simp only [Act.put, List.getElem_toArray, List.getElem_cons_succ, List.getElem_cons_zero, List.setIfInBounds_toArray, List.set_cons_zero, List.set_cons_succ]
  refine anyT_take (i := 8) (v := ?_) rfl (by kernel_rfl) (by kernel_rfl) (by kernel_rfl) (by kernel_rfl) (fun _ _ _ h => h) (Or.inl ⟨by rfl, ?_⟩) ⟨x, hS2⟩ ?_
  rotate_left
  focus ((intro wq hSw; obtain ⟨x9, hSw⟩ := hSw; have m1 := cells6 hSw.hd; have m5 := cells7 hSw.ha; have m7 := cells7 hSw.hb; obtain ⟨e0, e1, e2, e3, e4, e5⟩ := m1; obtain ⟨d0, d1, d2, d3, d4, d5, d6⟩ := m5; obtain ⟨f0, f1, f2, f3, f4, f5, f6⟩ := m7; go_simp); try with_reducible rfl)
  try simp only [Act.put, List.getElem_toArray, List.getElem_cons_succ, List.getElem_cons_zero, List.setIfInBounds_toArray, List.set_cons_zero, List.set_cons_succ]
  refine anyT_take (i := 9) (v := ?_) rfl (by kernel_rfl) (by kernel_rfl) (by kernel_rfl) (by kernel_rfl) (fun _ _ _ h => h) (Or.inl ⟨by rfl, ?_⟩) ⟨x, hS2⟩ ?_
  rotate_left
  focus ((intro wq hSw; obtain ⟨x9, hSw⟩ := hSw; have m1 := cells6 hSw.hd; have m5 := cells7 hSw.ha; have m7 := cells7 hSw.hb; obtain ⟨e0, e1, e2, e3, e4, e5⟩ := m1; obtain ⟨d0, d1, d2, d3, d4, d5, d6⟩ := m5; obtain ⟨f0, f1, f2, f3, f4, f5, f6⟩ := m7; go_simp); try with_reducible rfl)
  try simp only [Act.put, List.getElem_toArray, List.getElem_cons_succ, List.getElem_cons_zero, List.setIfInBounds_toArray, List.set_cons_zero, List.set_cons_succ]
  refine anyT_take (i := 10) (v := ?_) rfl (by kernel_rfl) (by kernel_rfl) (by kernel_rfl) (by kernel_rfl) (fun _ _ _ h => h) (Or.inl ⟨by rfl, ?_⟩) ⟨x, hS2⟩ ?_
  rotate_left
  focus ((intro wq hSw; obtain ⟨x9, hSw⟩ := hSw; have m1 := cells6 hSw.hd; have m5 := cells7 hSw.ha; have m7 := cells7 hSw.hb; obtain ⟨e0, e1, e2, e3, e4, e5⟩ := m1; obtain ⟨d0, d1, d2, d3, d4, d5, d6⟩ := m5; obtain ⟨f0, f1, f2, f3, f4, f5, f6⟩ := m7; go_simp); try with_reducible rfl)
  try simp only [Act.put, List.getElem_toArray, List.getElem_cons_succ, List.getElem_cons_zero, List.setIfInBounds_toArray, List.set_cons_zero, List.set_cons_succ]
  refine anyT_take (i := 11) (v := ?_) rfl (by kernel_rfl) (by kernel_rfl) (by kernel_rfl) (by kernel_rfl) (fun _ _ _ h => h) (Or.inl ⟨by rfl, ?_⟩) ⟨x, hS2⟩ ?_
  rotate_left
  focus ((intro wq hSw; obtain ⟨x9, hSw⟩ := hSw; have m1 := cells6 hSw.hd; have m5 := cells7 hSw.ha; have m7 := cells7 hSw.hb; obtain ⟨e0, e1, e2, e3, e4, e5⟩ := m1; obtain ⟨d0, d1, d2, d3, d4, d5, d6⟩ := m5; obtain ⟨f0, f1, f2, f3, f4, f5, f6⟩ := m7; go_simp); try with_reducible rfl)
  try simp only [Act.put, List.getElem_toArray, List.getElem_cons_succ, List.getElem_cons_zero, List.setIfInBounds_toArray, List.set_cons_zero, List.set_cons_succ]
  have q1 := hS2.set { x with c := m.getD 0 } 0 (.int .i64 (m.getD 0)) rfl
  have fz := frozen_blk (off := 0) hS2.hd
  obtain ⟨e0, e1, e2, e3, e4, e5⟩ := cells6 hS2.hd
  have HQ1 := Lib.hid q1
  clear q1
  refine anyT_one (i := 12) (by kernel_rfl) rfl (fun K hK => ?_)
  go_simp
  go_simp
  refine hK.out _ _ (fun h => ⟨_, HQ1.out⟩) ?_
  clear hK K
  try simp only [Act.put, List.getElem_toArray, List.getElem_cons_succ, List.getElem_cons_zero, List.setIfInBounds_toArray, List.set_cons_zero, List.set_cons_succ]
  refine anyT_one (i := 13) (by kernel_rfl) rfl (fun K hK => ?_)
  go_simp
  go_simp
  refine hK.out _ _ (fun h => ⟨_, HQ1.out⟩) ?_
  clear hK K
  try simp only [Act.put, List.getElem_toArray, List.getElem_cons_succ, List.getElem_cons_zero, List.setIfInBounds_toArray, List.set_cons_zero, List.set_cons_succ]
  refine anyT_done (by kernel_rfl) ?_ _
  clear fz e0 e1 e2 e3 e4 e5 hS2
  cases m with
  | some y =>
    go_wp2_with fail
    go_ret
    exact ⟨rfl, HQ1.out.nr, HQ1.out.hd⟩
  | none =>
    obtain ⟨Y, hY⟩ : ∃ Y, w2.setCell ⟨Bd, 0, none⟩ (.int .i64 (Option.getD none 0)) = Y := ⟨_, rfl⟩
    rw [hY] at HQ1 ⊢
    clear hY
    have q1 := HQ1.out
    have fz := frozen_blk (off := 0) q1.hd
    obtain ⟨e0, e1, e2, e3, e4, e5⟩ := cells6 q1.hd
    obtain ⟨d0, d1, d2, d3, d4, d5, d6⟩ := cells7 q1.ha
    obtain ⟨f0, f1, f2, f3, f4, f5, f6⟩ := cells7 q1.hb
    have q2 := q1.set { x with c := min a2 b2 } 0 (.int .i64 (min a2 b2)) rfl
    have HQ2 := Lib.hid q2
    clear q1 q2
    go_upto_region 5 with fail
    obtain ⟨Y2, hY2⟩ : ∃ Y2, Y.setCell ⟨Bd, 0, none⟩ (.int .i64 (min a2 b2)) = Y2 := ⟨_, rfl⟩
    rw [hY2] at HQ2 ⊢
    clear hY2 fz e0 e1 e2 e3 e4 e5 d0 d1 d2 d3 d4 d5 d6 f0 f1 f2 f3 f4 f5 f6
    have hq2 := HQ2.out.drew
    refine region_T (S := fun wx => S3 w Bd ⟨a1, a2, a3, a4, a5, a6, a7⟩ ⟨b1, b2, b3, b4, b5, b6, b7⟩ { x with c := min a2 b2 } wx) [] (by kernel_rfl) hq2 (fun _ => ?_)
    refine anyT_take (i := 0) (v := ?_) rfl (by kernel_rfl) (by kernel_rfl) (by kernel_rfl) (by kernel_rfl) (fun _ _ _ h => h) (Or.inl ⟨by rfl, ?_⟩) hq2 ?_
    rotate_left
    focus ((intro wq hSw; have m1 := cells6 hSw.hd; have m5 := cells7 hSw.ha; have m7 := cells7 hSw.hb; obtain ⟨e0, e1, e2, e3, e4, e5⟩ := m1; obtain ⟨d0, d1, d2, d3, d4, d5, d6⟩ := m5; obtain ⟨f0, f1, f2, f3, f4, f5, f6⟩ := m7; go_simp); try with_reducible rfl)
    try simp only [Act.put, List.getElem_toArray, List.getElem_cons_succ, List.getElem_cons_zero, List.setIfInBounds_toArray, List.set_cons_zero, List.set_cons_succ]
    refine anyT_take (i := 1) (v := ?_) rfl (by kernel_rfl) (by kernel_rfl) (by kernel_rfl) (by kernel_rfl) (fun _ _ _ h => h) (Or.inl ⟨by rfl, ?_⟩) hq2 ?_
    rotate_left
    focus ((intro wq hSw; have m1 := cells6 hSw.hd; have m5 := cells7 hSw.ha; have m7 := cells7 hSw.hb; obtain ⟨e0, e1, e2, e3, e4, e5⟩ := m1; obtain ⟨d0, d1, d2, d3, d4, d5, d6⟩ := m5; obtain ⟨f0, f1, f2, f3, f4, f5, f6⟩ := m7; go_simp); try with_reducible rfl)
    try simp only [Act.put, List.getElem_toArray, List.getElem_cons_succ, List.getElem_cons_zero, List.setIfInBounds_toArray, List.set_cons_zero, List.set_cons_succ]
    refine anyT_take (i := 2) (v := ?_) rfl (by kernel_rfl) (by kernel_rfl) (by kernel_rfl) (by kernel_rfl) (fun _ _ _ h => h) (Or.inl ⟨by rfl, ?_⟩) hq2 ?_
    rotate_left
    focus ((intro wq hSw; have m1 := cells6 hSw.hd; have m5 := cells7 hSw.ha; have m7 := cells7 hSw.hb; obtain ⟨e0, e1, e2, e3, e4, e5⟩ := m1; obtain ⟨d0, d1, d2, d3, d4, d5, d6⟩ := m5; obtain ⟨f0, f1, f2, f3, f4, f5, f6⟩ := m7; go_simp); try with_reducible rfl)
    try simp only [Act.put, List.getElem_toArray, List.getElem_cons_succ, List.getElem_cons_zero, List.setIfInBounds_toArray, List.set_cons_zero, List.set_cons_succ]
    refine anyT_take (i := 3) (v := ?_) rfl (by kernel_rfl) (by kernel_rfl) (by kernel_rfl) (by kernel_rfl) (fun _ _ _ h => h) (Or.inl ⟨by rfl, ?_⟩) hq2 ?_
    rotate_left
    focus ((intro wq hSw; have m1 := cells6 hSw.hd; have m5 := cells7 hSw.ha; have m7 := cells7 hSw.hb; obtain ⟨e0, e1, e2, e3, e4, e5⟩ := m1; obtain ⟨d0, d1, d2, d3, d4, d5, d6⟩ := m5; obtain ⟨f0, f1, f2, f3, f4, f5, f6⟩ := m7; go_simp); try with_reducible rfl)
    try simp only [Act.put, List.getElem_toArray, List.getElem_cons_succ, List.getElem_cons_zero, List.setIfInBounds_toArray, List.set_cons_zero, List.set_cons_succ]
    refine anyT_take (i := 4) (v := ?_) rfl (by kernel_rfl) (by kernel_rfl) (by kernel_rfl) (by kernel_rfl) (fun _ _ _ h => h) (Or.inl ⟨by rfl, ?_⟩) hq2 ?_
    rotate_left
    focus ((intro wq hSw; have m1 := cells6 hSw.hd; have m5 := cells7 hSw.ha; have m7 := cells7 hSw.hb; obtain ⟨e0, e1, e2, e3, e4, e5⟩ := m1; obtain ⟨d0, d1, d2, d3, d4, d5, d6⟩ := m5; obtain ⟨f0, f1, f2, f3, f4, f5, f6⟩ := m7; go_simp); try with_reducible rfl)
    try simp only [Act.put, List.getElem_toArray, List.getElem_cons_succ, List.getElem_cons_zero, List.setIfInBounds_toArray, List.set_cons_zero, List.set_cons_succ]
    refine anyT_take (i := 5) (v := ?_) rfl (by kernel_rfl) (by kernel_rfl) (by kernel_rfl) (by kernel_rfl) (fun _ _ _ h => h) (Or.inl ⟨by rfl, ?_⟩) hq2 ?_
    rotate_left
    focus ((intro wq hSw; have m1 := cells6 hSw.hd; have m5 := cells7 hSw.ha; have m7 := cells7 hSw.hb; obtain ⟨e0, e1, e2, e3, e4, e5⟩ := m1; obtain ⟨d0, d1, d2, d3, d4, d5, d6⟩ := m5; obtain ⟨f0, f1, f2, f3, f4, f5, f6⟩ := m7; go_simp); try with_reducible rfl)
    try simp only [Act.put, List.getElem_toArray, List.getElem_cons_succ, List.getElem_cons_zero, List.setIfInBounds_toArray, List.set_cons_zero, List.set_cons_succ]
    refine anyT_take (i := 6) (v := ?_) rfl (by kernel_rfl) (by kernel_rfl) (by kernel_rfl) (by kernel_rfl) (fun _ _ _ h => h) (Or.inl ⟨by rfl, ?_⟩) hq2 ?_
    rotate_left
    focus ((intro wq hSw; have m1 := cells6 hSw.hd; have m5 := cells7 hSw.ha; have m7 := cells7 hSw.hb; obtain ⟨e0, e1, e2, e3, e4, e5⟩ := m1; obtain ⟨d0, d1, d2, d3, d4, d5, d6⟩ := m5; obtain ⟨f0, f1, f2, f3, f4, f5, f6⟩ := m7; go_simp); try with_reducible rfl)
    try simp only [Act.put, List.getElem_toArray, List.getElem_cons_succ, List.getElem_cons_zero, List.setIfInBounds_toArray, List.set_cons_zero, List.set_cons_succ]
    refine anyT_take (i := 7) (v := ?_) rfl (by kernel_rfl) (by kernel_rfl) (by kernel_rfl) (by kernel_rfl) (fun _ _ _ h => h) (Or.inl ⟨by rfl, ?_⟩) hq2 ?_
    rotate_left
    focus ((intro wq hSw; have m1 := cells6 hSw.hd; have m5 := cells7 hSw.ha; have m7 := cells7 hSw.hb; obtain ⟨e0, e1, e2, e3, e4, e5⟩ := m1; obtain ⟨d0, d1, d2, d3, d4, d5, d6⟩ := m5; obtain ⟨f0, f1, f2, f3, f4, f5, f6⟩ := m7; go_simp); try with_reducible rfl)
    try simp only [Act.put, List.getElem_toArray, List.getElem_cons_succ, List.getElem_cons_zero, List.setIfInBounds_toArray, List.set_cons_zero, List.set_cons_succ]
    refine anyT_take (i := 8) (v := ?_) rfl (by kernel_rfl) (by kernel_rfl) (by kernel_rfl) (by kernel_rfl) (fun _ _ _ h => h) (Or.inl ⟨by rfl, ?_⟩) hq2 ?_
    rotate_left
    focus ((intro wq hSw; have m1 := cells6 hSw.hd; have m5 := cells7 hSw.ha; have m7 := cells7 hSw.hb; obtain ⟨e0, e1, e2, e3, e4, e5⟩ := m1; obtain ⟨d0, d1, d2, d3, d4, d5, d6⟩ := m5; obtain ⟨f0, f1, f2, f3, f4, f5, f6⟩ := m7; go_simp); try with_reducible rfl)
    try simp only [Act.put, List.getElem_toArray, List.getElem_cons_succ, List.getElem_cons_zero, List.setIfInBounds_toArray, List.set_cons_zero, List.set_cons_succ]
    refine anyT_take (i := 9) (v := ?_) rfl (by kernel_rfl) (by kernel_rfl) (by kernel_rfl) (by kernel_rfl) (fun _ _ _ h => h) (Or.inl ⟨by rfl, ?_⟩) hq2 ?_
    rotate_left
    focus ((intro wq hSw; have m1 := cells6 hSw.hd; have m5 := cells7 hSw.ha; have m7 := cells7 hSw.hb; obtain ⟨e0, e1, e2, e3, e4, e5⟩ := m1; obtain ⟨d0, d1, d2, d3, d4, d5, d6⟩ := m5; obtain ⟨f0, f1, f2, f3, f4, f5, f6⟩ := m7; go_simp); try with_reducible rfl)
    try simp only [Act.put, List.getElem_toArray, List.getElem_cons_succ, List.getElem_cons_zero, List.setIfInBounds_toArray, List.set_cons_zero, List.set_cons_succ]
    refine anyT_take (i := 10) (v := ?_) rfl (by kernel_rfl) (by kernel_rfl) (by kernel_rfl) (by kernel_rfl) (fun _ _ _ h => h) (Or.inl ⟨by rfl, ?_⟩) hq2 ?_
    rotate_left
    focus ((intro wq hSw; have m1 := cells6 hSw.hd; have m5 := cells7 hSw.ha; have m7 := cells7 hSw.hb; obtain ⟨e0, e1, e2, e3, e4, e5⟩ := m1; obtain ⟨d0, d1, d2, d3, d4, d5, d6⟩ := m5; obtain ⟨f0, f1, f2, f3, f4, f5, f6⟩ := m7; go_simp); try with_reducible rfl)
    try simp only [Act.put, List.getElem_toArray, List.getElem_cons_succ, List.getElem_cons_zero, List.setIfInBounds_toArray, List.set_cons_zero, List.set_cons_succ]
    refine anyT_done (by kernel_rfl) ?_ _
    go_wp2_with fail
    go_ret
    exact ⟨rfl, HQ2.out.drew.nr, HQ2.out.drew.hd⟩
end Go.Proofs.Ytinlcgcnjlifkaa
