/- Going on; the iterator over a ramp's gains. -/
import Derived.Test.YthfagnbecocgdaaRB
import Derived.Test.YthfagnbecocgdaaNB
namespace Go.Proofs.Ythfagnbecocgdaa
open Go.RowKit Go.Shelf Go.Deep

/-- A ramp in memory. -/
def RampAt (N o : Nat) (f t n a : Int) (w : World) : Prop := w.cell? ⟨N, o, none⟩ = some (.int .i64 f) ∧ w.cell? ⟨N, o + 1, none⟩ = some (.int .i64 t) ∧ w.cell? ⟨N, o + 2, none⟩ = some (.int .i64 n) ∧ w.cell? ⟨N, o + 3, none⟩ = some (.int .i64 a)
theorem RampAt.mono {N o : Nat} {f t n a : Int} {w w' : World} (h : RampAt N o f t n a w) (hs : Same w w') : RampAt N o f t n a w' := ⟨hs.cell h.1, hs.cell h.2.1, hs.cell h.2.2.1, hs.cell h.2.2.2⟩

set_option maxHeartbeats 2000000 in
set_option maxRecDepth 100000 in
theorem goOn_few {f t n a : Int} (hr : RampOk f t n a) (N o : Nat) (k : Int) (hk : 0 ≤ k ∧ k ≤ 1000000000) (w : World) (h : RampAt N o f t n a w) (hz : w.frozen? ⟨N, o + 3, none⟩ = false) (hm : k ≤ n - a) :
    Calls Try.prog 58 #[.pointer (some ⟨N, o, none⟩), .int .i64 k] w fun e w' => e = .returned (.tuple #[]) ∧ ∃ W, Below w.heap.size w W ∧ w' = W.setCell ⟨N, o + 3, none⟩ (.int .i64 (a + k)) := by
  have h71 := fun w => left_any f t n a w hr.hn hr.ha
  obtain ⟨_, _, ⟨n1, n2⟩, a1, a2⟩ := hr
  obtain ⟨k1, k2⟩ := hk
  have HS : Hid (∀ wx, Below w.heap.size w wx → (wx.cell? ⟨N, o, none⟩ = some (.int .i64 f) ∧ wx.cell? ⟨N, o + 1, none⟩ = some (.int .i64 t) ∧ wx.cell? ⟨N, o + 2, none⟩ = some (.int .i64 n) ∧ wx.cell? ⟨N, o + 3, none⟩ = some (.int .i64 a) ∧ wx.frozen? ⟨N, o + 3, none⟩ = false) ∧ Below w.heap.size w wx) := Lib.hid fun wx hx =>
    ⟨⟨(Same.of_below hx).cell h.1, (Same.of_below hx).cell h.2.1, (Same.of_below hx).cell h.2.2.1, (Same.of_below hx).cell h.2.2.2, (hx.frozen (p := ⟨N, o + 3, none⟩) (cell_lt h.2.2.2)).trans hz⟩, hx⟩
  have H71 := Lib.hid h71
  clear h71 h hz
  unfold rampV at H71
  have hm2 : ¬ n - a < k := by omega
  go_enter Try.func58, Try.ntmps58
  refine region_T (S := fun wx => (wx.cell? ⟨N, o, none⟩ = some (.int .i64 f) ∧ wx.cell? ⟨N, o + 1, none⟩ = some (.int .i64 t) ∧ wx.cell? ⟨N, o + 2, none⟩ = some (.int .i64 n) ∧ wx.cell? ⟨N, o + 3, none⟩ = some (.int .i64 a) ∧ wx.frozen? ⟨N, o + 3, none⟩ = false) ∧ Below w.heap.size w wx) [13] (by kernel_rfl) (HS.out _ (Below.refl _ _).drew) (fun _ => ?_)
  have hS0 := HS.out _ (Below.drew (Below.refl w.heap.size w))
  obtain ⟨W, hW⟩ : ∃ W, w.drew = W := ⟨_, rfl⟩
  rw [hW] at hS0 ⊢
  clear hW
  refine anyT_take (i := 0) (v := ?_) rfl (by kernel_rfl) (by kernel_rfl) (by kernel_rfl) (by kernel_rfl) (fun _ _ _ h => h) (Or.inl ⟨by rfl, ?_⟩) (by assumption) ?_
  rotate_left
  focus ((intro wq hSw; obtain ⟨⟨c0, c1, c2, c3, cz⟩, _⟩ := hSw; go_simp); try with_reducible rfl)
  try simp only [Act.put, List.getElem_toArray, List.getElem_cons_succ, List.getElem_cons_zero, List.setIfInBounds_toArray, List.set_cons_zero, List.set_cons_succ]
  refine anyT_take (i := 1) (v := ?_) rfl (by kernel_rfl) (by kernel_rfl) (by kernel_rfl) (by kernel_rfl) (fun _ _ _ h => h) (Or.inl ⟨by rfl, ?_⟩) (by assumption) ?_
  rotate_left
  focus ((intro wq hSw; obtain ⟨⟨c0, c1, c2, c3, cz⟩, _⟩ := hSw; go_simp); try with_reducible rfl)
  try simp only [Act.put, List.getElem_toArray, List.getElem_cons_succ, List.getElem_cons_zero, List.setIfInBounds_toArray, List.set_cons_zero, List.set_cons_succ]
  refine anyT_take (i := 2) (v := ?_) rfl (by kernel_rfl) (by kernel_rfl) (by kernel_rfl) (by kernel_rfl) (fun _ _ _ h => h) (Or.inl ⟨by rfl, ?_⟩) (by assumption) ?_
  rotate_left
  focus ((intro wq hSw; obtain ⟨⟨c0, c1, c2, c3, cz⟩, _⟩ := hSw; go_simp); try with_reducible rfl)
  try simp only [Act.put, List.getElem_toArray, List.getElem_cons_succ, List.getElem_cons_zero, List.setIfInBounds_toArray, List.set_cons_zero, List.set_cons_succ]
  refine anyT_take (i := 3) (v := ?_) rfl (by kernel_rfl) (by kernel_rfl) (by kernel_rfl) (by kernel_rfl) (fun _ _ _ h => h) (Or.inl ⟨by rfl, ?_⟩) (by assumption) ?_
  rotate_left
  focus ((intro wq hSw; obtain ⟨⟨c0, c1, c2, c3, cz⟩, _⟩ := hSw; go_simp); try with_reducible rfl)
  try simp only [Act.put, List.getElem_toArray, List.getElem_cons_succ, List.getElem_cons_zero, List.setIfInBounds_toArray, List.set_cons_zero, List.set_cons_succ]
  refine anyT_take (i := 4) (v := ?_) rfl (by kernel_rfl) (by kernel_rfl) (by kernel_rfl) (by kernel_rfl) (fun _ _ _ h => h) (Or.inl ⟨by rfl, ?_⟩) (by assumption) ?_
  rotate_left
  focus ((intro wq hSw; obtain ⟨⟨c0, c1, c2, c3, cz⟩, _⟩ := hSw; go_simp); try with_reducible rfl)
  try simp only [Act.put, List.getElem_toArray, List.getElem_cons_succ, List.getElem_cons_zero, List.setIfInBounds_toArray, List.set_cons_zero, List.set_cons_succ]
  refine anyT_take (i := 5) (v := ?_) rfl (by kernel_rfl) (by kernel_rfl) (by kernel_rfl) (by kernel_rfl) (fun _ _ _ h => h) (Or.inl ⟨by rfl, ?_⟩) (by assumption) ?_
  rotate_left
  focus ((intro wq hSw; obtain ⟨⟨c0, c1, c2, c3, cz⟩, _⟩ := hSw; go_simp); try with_reducible rfl)
  try simp only [Act.put, List.getElem_toArray, List.getElem_cons_succ, List.getElem_cons_zero, List.setIfInBounds_toArray, List.set_cons_zero, List.set_cons_succ]
  refine anyT_take (i := 6) (v := ?_) rfl (by kernel_rfl) (by kernel_rfl) (by kernel_rfl) (by kernel_rfl) (fun _ _ _ h => h) (Or.inl ⟨by rfl, ?_⟩) (by assumption) ?_
  rotate_left
  focus ((intro wq hSw; obtain ⟨⟨c0, c1, c2, c3, cz⟩, _⟩ := hSw; go_simp); try with_reducible rfl)
  try simp only [Act.put, List.getElem_toArray, List.getElem_cons_succ, List.getElem_cons_zero, List.setIfInBounds_toArray, List.set_cons_zero, List.set_cons_succ]
  refine anyT_take (i := 7) (v := ?_) rfl (by kernel_rfl) (by kernel_rfl) (by kernel_rfl) (by kernel_rfl) (fun _ _ _ h => h) (Or.inl ⟨by rfl, ?_⟩) (by assumption) ?_
  rotate_left
  focus ((intro wq hSw; obtain ⟨⟨c0, c1, c2, c3, cz⟩, _⟩ := hSw; go_simp); try with_reducible rfl)
  try simp only [Act.put, List.getElem_toArray, List.getElem_cons_succ, List.getElem_cons_zero, List.setIfInBounds_toArray, List.set_cons_zero, List.set_cons_succ]
  refine anyT_one (i := 8) (by kernel_rfl) rfl (fun K hK => ?_)
  go_simp
  refine (H71.out _).mono ?_
  rintro e wk ⟨rfl, hk⟩
  have hS1 := HS.out _ (Below.then hS0.2 (Nat.le_refl _) hk)
  refine hK.out _ _ (fun _ => hS1) ?_
  clear hK K hk hS0
  try simp only [Act.put, List.getElem_toArray, List.getElem_cons_succ, List.getElem_cons_zero, List.setIfInBounds_toArray, List.set_cons_zero, List.set_cons_succ]
  refine anyT_take (i := 9) (v := ?_) rfl (by kernel_rfl) (by kernel_rfl) (by kernel_rfl) (by kernel_rfl) (fun _ _ _ h => h) (Or.inl ⟨by rfl, ?_⟩) (by assumption) ?_
  rotate_left
  focus ((intro wq hSw; obtain ⟨⟨c0, c1, c2, c3, cz⟩, _⟩ := hSw; go_simp); try with_reducible rfl)
  try simp only [Act.put, List.getElem_toArray, List.getElem_cons_succ, List.getElem_cons_zero, List.setIfInBounds_toArray, List.set_cons_zero, List.set_cons_succ]
  refine anyT_take (i := 10) (v := ?_) rfl (by kernel_rfl) (by kernel_rfl) (by kernel_rfl) (by kernel_rfl) (fun _ _ _ h => h) (Or.inl ⟨by rfl, ?_⟩) (by assumption) ?_
  rotate_left
  focus ((intro wq hSw; obtain ⟨⟨c0, c1, c2, c3, cz⟩, _⟩ := hSw; go_simp); try with_reducible rfl)
  try simp only [Act.put, List.getElem_toArray, List.getElem_cons_succ, List.getElem_cons_zero, List.setIfInBounds_toArray, List.set_cons_zero, List.set_cons_succ]
  refine anyT_take (i := 11) (v := ?_) rfl (by kernel_rfl) (by kernel_rfl) (by kernel_rfl) (by kernel_rfl) (fun _ _ _ h => h) (Or.inl ⟨by rfl, ?_⟩) (by assumption) ?_
  rotate_left
  focus ((intro wq hSw; obtain ⟨⟨c0, c1, c2, c3, cz⟩, _⟩ := hSw; go_simp); try with_reducible rfl)
  try simp only [Act.put, List.getElem_toArray, List.getElem_cons_succ, List.getElem_cons_zero, List.setIfInBounds_toArray, List.set_cons_zero, List.set_cons_succ]
  refine anyT_take (i := 12) (v := ?_) rfl (by kernel_rfl) (by kernel_rfl) (by kernel_rfl) (by kernel_rfl) (fun _ _ _ h => h) (Or.inl ⟨by rfl, ?_⟩) (by assumption) ?_
  rotate_left
  focus ((intro wq hSw; obtain ⟨⟨c0, c1, c2, c3, cz⟩, _⟩ := hSw; go_simp); try with_reducible rfl)
  try simp only [Act.put, List.getElem_toArray, List.getElem_cons_succ, List.getElem_cons_zero, List.setIfInBounds_toArray, List.set_cons_zero, List.set_cons_succ]
  refine anyT_one (i := 13) (by kernel_rfl) rfl (fun K hK => ?_)
  obtain ⟨⟨c0, c1, c2, c3, cz⟩, hb⟩ := hS1
  go_simp
  refine hK.out _ _ (fun h => by cases h) ?_
  clear hK K
  refine anyT_done (by kernel_rfl) ?_ _
  go_wp2_with fail
  go_end0
  exact ⟨rfl, wk, hb, by rw [IntWalk.i64_in _ (by omega)]⟩
set_option maxHeartbeats 2000000 in
set_option maxRecDepth 100000 in
theorem goOn_many {f t n a : Int} (hr : RampOk f t n a) (N o : Nat) (k : Int) (hk : 0 ≤ k ∧ k ≤ 1000000000) (w : World) (h : RampAt N o f t n a w) (hz : w.frozen? ⟨N, o + 3, none⟩ = false) (hm : n - a < k) :
    Calls Try.prog 58 #[.pointer (some ⟨N, o, none⟩), .int .i64 k] w fun e w' => e = .returned (.tuple #[]) ∧ ∃ W, Below w.heap.size w W ∧ w' = W.setCell ⟨N, o + 3, none⟩ (.int .i64 (a + (n - a))) := by
  have h71 := fun w => left_any f t n a w hr.hn hr.ha
  obtain ⟨_, _, ⟨n1, n2⟩, a1, a2⟩ := hr
  obtain ⟨k1, k2⟩ := hk
  have HS : Hid (∀ wx, Below w.heap.size w wx → (wx.cell? ⟨N, o, none⟩ = some (.int .i64 f) ∧ wx.cell? ⟨N, o + 1, none⟩ = some (.int .i64 t) ∧ wx.cell? ⟨N, o + 2, none⟩ = some (.int .i64 n) ∧ wx.cell? ⟨N, o + 3, none⟩ = some (.int .i64 a) ∧ wx.frozen? ⟨N, o + 3, none⟩ = false) ∧ Below w.heap.size w wx) := Lib.hid fun wx hx =>
    ⟨⟨(Same.of_below hx).cell h.1, (Same.of_below hx).cell h.2.1, (Same.of_below hx).cell h.2.2.1, (Same.of_below hx).cell h.2.2.2, (hx.frozen (p := ⟨N, o + 3, none⟩) (cell_lt h.2.2.2)).trans hz⟩, hx⟩
  have H71 := Lib.hid h71
  clear h71 h hz
  unfold rampV at H71
  have hm2 : ¬ k ≤ n - a := by omega
  have hm3 : ¬ k < n - a := by omega
  go_enter Try.func58, Try.ntmps58
  refine region_T (S := fun wx => (wx.cell? ⟨N, o, none⟩ = some (.int .i64 f) ∧ wx.cell? ⟨N, o + 1, none⟩ = some (.int .i64 t) ∧ wx.cell? ⟨N, o + 2, none⟩ = some (.int .i64 n) ∧ wx.cell? ⟨N, o + 3, none⟩ = some (.int .i64 a) ∧ wx.frozen? ⟨N, o + 3, none⟩ = false) ∧ Below w.heap.size w wx) [13] (by kernel_rfl) (HS.out _ (Below.refl _ _).drew) (fun _ => ?_)
  have hS0 := HS.out _ (Below.drew (Below.refl w.heap.size w))
  obtain ⟨W, hW⟩ : ∃ W, w.drew = W := ⟨_, rfl⟩
  rw [hW] at hS0 ⊢
  clear hW
  refine anyT_take (i := 0) (v := ?_) rfl (by kernel_rfl) (by kernel_rfl) (by kernel_rfl) (by kernel_rfl) (fun _ _ _ h => h) (Or.inl ⟨by rfl, ?_⟩) (by assumption) ?_
  rotate_left
  focus ((intro wq hSw; obtain ⟨⟨c0, c1, c2, c3, cz⟩, _⟩ := hSw; go_simp); try with_reducible rfl)
  try simp only [Act.put, List.getElem_toArray, List.getElem_cons_succ, List.getElem_cons_zero, List.setIfInBounds_toArray, List.set_cons_zero, List.set_cons_succ]
  refine anyT_take (i := 1) (v := ?_) rfl (by kernel_rfl) (by kernel_rfl) (by kernel_rfl) (by kernel_rfl) (fun _ _ _ h => h) (Or.inl ⟨by rfl, ?_⟩) (by assumption) ?_
  rotate_left
  focus ((intro wq hSw; obtain ⟨⟨c0, c1, c2, c3, cz⟩, _⟩ := hSw; go_simp); try with_reducible rfl)
  try simp only [Act.put, List.getElem_toArray, List.getElem_cons_succ, List.getElem_cons_zero, List.setIfInBounds_toArray, List.set_cons_zero, List.set_cons_succ]
  refine anyT_take (i := 2) (v := ?_) rfl (by kernel_rfl) (by kernel_rfl) (by kernel_rfl) (by kernel_rfl) (fun _ _ _ h => h) (Or.inl ⟨by rfl, ?_⟩) (by assumption) ?_
  rotate_left
  focus ((intro wq hSw; obtain ⟨⟨c0, c1, c2, c3, cz⟩, _⟩ := hSw; go_simp); try with_reducible rfl)
  try simp only [Act.put, List.getElem_toArray, List.getElem_cons_succ, List.getElem_cons_zero, List.setIfInBounds_toArray, List.set_cons_zero, List.set_cons_succ]
  refine anyT_take (i := 3) (v := ?_) rfl (by kernel_rfl) (by kernel_rfl) (by kernel_rfl) (by kernel_rfl) (fun _ _ _ h => h) (Or.inl ⟨by rfl, ?_⟩) (by assumption) ?_
  rotate_left
  focus ((intro wq hSw; obtain ⟨⟨c0, c1, c2, c3, cz⟩, _⟩ := hSw; go_simp); try with_reducible rfl)
  try simp only [Act.put, List.getElem_toArray, List.getElem_cons_succ, List.getElem_cons_zero, List.setIfInBounds_toArray, List.set_cons_zero, List.set_cons_succ]
  refine anyT_take (i := 4) (v := ?_) rfl (by kernel_rfl) (by kernel_rfl) (by kernel_rfl) (by kernel_rfl) (fun _ _ _ h => h) (Or.inl ⟨by rfl, ?_⟩) (by assumption) ?_
  rotate_left
  focus ((intro wq hSw; obtain ⟨⟨c0, c1, c2, c3, cz⟩, _⟩ := hSw; go_simp); try with_reducible rfl)
  try simp only [Act.put, List.getElem_toArray, List.getElem_cons_succ, List.getElem_cons_zero, List.setIfInBounds_toArray, List.set_cons_zero, List.set_cons_succ]
  refine anyT_take (i := 5) (v := ?_) rfl (by kernel_rfl) (by kernel_rfl) (by kernel_rfl) (by kernel_rfl) (fun _ _ _ h => h) (Or.inl ⟨by rfl, ?_⟩) (by assumption) ?_
  rotate_left
  focus ((intro wq hSw; obtain ⟨⟨c0, c1, c2, c3, cz⟩, _⟩ := hSw; go_simp); try with_reducible rfl)
  try simp only [Act.put, List.getElem_toArray, List.getElem_cons_succ, List.getElem_cons_zero, List.setIfInBounds_toArray, List.set_cons_zero, List.set_cons_succ]
  refine anyT_take (i := 6) (v := ?_) rfl (by kernel_rfl) (by kernel_rfl) (by kernel_rfl) (by kernel_rfl) (fun _ _ _ h => h) (Or.inl ⟨by rfl, ?_⟩) (by assumption) ?_
  rotate_left
  focus ((intro wq hSw; obtain ⟨⟨c0, c1, c2, c3, cz⟩, _⟩ := hSw; go_simp); try with_reducible rfl)
  try simp only [Act.put, List.getElem_toArray, List.getElem_cons_succ, List.getElem_cons_zero, List.setIfInBounds_toArray, List.set_cons_zero, List.set_cons_succ]
  refine anyT_take (i := 7) (v := ?_) rfl (by kernel_rfl) (by kernel_rfl) (by kernel_rfl) (by kernel_rfl) (fun _ _ _ h => h) (Or.inl ⟨by rfl, ?_⟩) (by assumption) ?_
  rotate_left
  focus ((intro wq hSw; obtain ⟨⟨c0, c1, c2, c3, cz⟩, _⟩ := hSw; go_simp); try with_reducible rfl)
  try simp only [Act.put, List.getElem_toArray, List.getElem_cons_succ, List.getElem_cons_zero, List.setIfInBounds_toArray, List.set_cons_zero, List.set_cons_succ]
  refine anyT_one (i := 8) (by kernel_rfl) rfl (fun K hK => ?_)
  go_simp
  refine (H71.out _).mono ?_
  rintro e wk ⟨rfl, hk⟩
  have hS1 := HS.out _ (Below.then hS0.2 (Nat.le_refl _) hk)
  refine hK.out _ _ (fun _ => hS1) ?_
  clear hK K hk hS0
  try simp only [Act.put, List.getElem_toArray, List.getElem_cons_succ, List.getElem_cons_zero, List.setIfInBounds_toArray, List.set_cons_zero, List.set_cons_succ]
  refine anyT_take (i := 9) (v := ?_) rfl (by kernel_rfl) (by kernel_rfl) (by kernel_rfl) (by kernel_rfl) (fun _ _ _ h => h) (Or.inl ⟨by rfl, ?_⟩) (by assumption) ?_
  rotate_left
  focus ((intro wq hSw; obtain ⟨⟨c0, c1, c2, c3, cz⟩, _⟩ := hSw; go_simp); try with_reducible rfl)
  try simp only [Act.put, List.getElem_toArray, List.getElem_cons_succ, List.getElem_cons_zero, List.setIfInBounds_toArray, List.set_cons_zero, List.set_cons_succ]
  refine anyT_take (i := 10) (v := ?_) rfl (by kernel_rfl) (by kernel_rfl) (by kernel_rfl) (by kernel_rfl) (fun _ _ _ h => h) (Or.inl ⟨by rfl, ?_⟩) (by assumption) ?_
  rotate_left
  focus ((intro wq hSw; obtain ⟨⟨c0, c1, c2, c3, cz⟩, _⟩ := hSw; go_simp); try with_reducible rfl)
  try simp only [Act.put, List.getElem_toArray, List.getElem_cons_succ, List.getElem_cons_zero, List.setIfInBounds_toArray, List.set_cons_zero, List.set_cons_succ]
  refine anyT_take (i := 11) (v := ?_) rfl (by kernel_rfl) (by kernel_rfl) (by kernel_rfl) (by kernel_rfl) (fun _ _ _ h => h) (Or.inl ⟨by rfl, ?_⟩) (by assumption) ?_
  rotate_left
  focus ((intro wq hSw; obtain ⟨⟨c0, c1, c2, c3, cz⟩, _⟩ := hSw; go_simp); try with_reducible rfl)
  try simp only [Act.put, List.getElem_toArray, List.getElem_cons_succ, List.getElem_cons_zero, List.setIfInBounds_toArray, List.set_cons_zero, List.set_cons_succ]
  refine anyT_take (i := 12) (v := ?_) rfl (by kernel_rfl) (by kernel_rfl) (by kernel_rfl) (by kernel_rfl) (fun _ _ _ h => h) (Or.inl ⟨by rfl, ?_⟩) (by assumption) ?_
  rotate_left
  focus ((intro wq hSw; obtain ⟨⟨c0, c1, c2, c3, cz⟩, _⟩ := hSw; go_simp); try with_reducible rfl)
  try simp only [Act.put, List.getElem_toArray, List.getElem_cons_succ, List.getElem_cons_zero, List.setIfInBounds_toArray, List.set_cons_zero, List.set_cons_succ]
  refine anyT_one (i := 13) (by kernel_rfl) rfl (fun K hK => ?_)
  obtain ⟨⟨c0, c1, c2, c3, cz⟩, hb⟩ := hS1
  go_simp
  refine hK.out _ _ (fun h => by cases h) ?_
  clear hK K
  refine anyT_done (by kernel_rfl) ?_ _
  go_wp2_with fail
  go_end0
  exact ⟨rfl, wk, hb, by rw [IntWalk.i64_in _ (by omega)]⟩
theorem goOn_any {f t n a : Int} (hr : RampOk f t n a) (N o : Nat) (k : Int) (hk : 0 ≤ k ∧ k ≤ 1000000000) (w : World) (h : RampAt N o f t n a w) (hz : w.frozen? ⟨N, o + 3, none⟩ = false) :
    Calls Try.prog 58 #[.pointer (some ⟨N, o, none⟩), .int .i64 k] w fun e w' => e = .returned (.tuple #[]) ∧ ∃ W, Below w.heap.size w W ∧ w' = W.setCell ⟨N, o + 3, none⟩ (.int .i64 (a + min k (n - a))) := by
  by_cases hm : k ≤ n - a
  · rw [show min k (n - a) = k by omega]; exact goOn_few hr N o k hk w h hz hm
  · rw [show min k (n - a) = n - a by omega]; exact goOn_many hr N o k hk w h hz (by omega)
end Go.Proofs.Ythfagnbecocgdaa
