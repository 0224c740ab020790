/- Cut: the program's, where something does not fit; the whole. -/
import Derived.Test.YtegomicpolnpoaaTB
namespace Go.Proofs.Ytegomicpolnpoaa
open Go.RowKit Go.Shelf Go.Deep

set_option maxHeartbeats 4000000 in
set_option maxRecDepth 100000 in
theorem cut1_bad (m : List (List Int)) (v : Value) (Bb Bf Bt : Nat) (w : World) (hM : MatIn w m v) (hv : validB m = true) (f t : Int) (hft : ¬ (0 ≤ f ∧ f ≤ t ∧ t ≤ cols m))
    (k0 : w.cell? ⟨Bb, 0, none⟩ = some v) (k1 : w.cell? ⟨Bf, 0, none⟩ = some (.int .i64 f)) (k2 : w.cell? ⟨Bt, 0, none⟩ = some (.int .i64 t)) :
    Calls Try.prog 96 #[at0 Bb, at0 Bf, at0 Bt] w (LeavesX 7 w) := by
  have h68 := validBlock_any m v w hM
  rw [hv] at h68
  have hmu := must_yes 1 w
  have HMU := Lib.hid (must_no 7)
  obtain ⟨hr1, hr8, hc, hrow⟩ := validB_parts hv
  obtain ⟨a, ca, rfl, hin, hal, _⟩ := id hM
  obtain ⟨b0, o0, u0, rfl, hc0, a0, c0, rfl, _, _, _⟩ := hin 0 (by omega)
  simp only [Nat.add_zero] at hc0
  change w.cell? _ = some (Value.slice a0 (cols m) c0) at hc0
  have hposI : (0 : Int) < (m.length : Int) := by omega
  have hposN : 0 < m.length := by omega
  obtain ⟨C, hC⟩ : ∃ C, cols m = C := ⟨_, rfl⟩
  rw [hC] at hc0 hc hft
  clear hrow hin hv hC hM
  have hcase : f < 0 ∨ (0 ≤ f ∧ t < f) ∨ (0 ≤ f ∧ f ≤ t ∧ (C : Int) < t) := by omega
  clear hft
  rcases hcase with h | ⟨h, h2⟩ | ⟨h, h2, h3⟩
  · have q0 : decide (0 ≤ f) = false := by simp; omega
    go_enter Try.func96, Try.ntmps96
    go_upto_region 2 with (first
      | (go_at_call 68; (with_reducible refine h68.mono ?_); rintro e w1 ⟨rfl, rfl⟩)
      | (go_at_call 53; (with_reducible refine hmu.mono ?_); rintro e w1 ⟨rfl, rfl⟩))
    go_still_tail 15, (by kernel_rfl)
    change wpList _ _ _ _ _ w.drew
    go_wp2_with (go_at_call 53; (with_reducible refine (HMU.out _).mono ?_); rintro e w1 ⟨rfl, rfl⟩)
    exact ⟨rfl, rfl, (Below.refl _ w).drew⟩
  · have q0 : decide (0 ≤ f) = true := by simp; omega
    have q1 : decide (f ≤ t) = false := by simp; omega
    go_enter Try.func96, Try.ntmps96
    go_upto_region 2 with (first
      | (go_at_call 68; (with_reducible refine h68.mono ?_); rintro e w1 ⟨rfl, rfl⟩)
      | (go_at_call 53; (with_reducible refine hmu.mono ?_); rintro e w1 ⟨rfl, rfl⟩))
    go_still_tail 15, (by kernel_rfl)
    change wpList _ _ _ _ _ w.drew
    go_wp2_with (go_at_call 53; (with_reducible refine (HMU.out _).mono ?_); rintro e w1 ⟨rfl, rfl⟩)
    exact ⟨rfl, rfl, (Below.refl _ w).drew⟩
  · have q0 : decide (0 ≤ f) = true := by simp; omega
    have q1 : decide (f ≤ t) = true := by simp; omega
    have q2 : decide (t ≤ (C : Int)) = false := by simp; omega
    go_enter Try.func96, Try.ntmps96
    go_upto_region 2 with (first
      | (go_at_call 68; (with_reducible refine h68.mono ?_); rintro e w1 ⟨rfl, rfl⟩)
      | (go_at_call 53; (with_reducible refine hmu.mono ?_); rintro e w1 ⟨rfl, rfl⟩))
    go_still_tail 15, (by kernel_rfl)
    change wpList _ _ _ _ _ w.drew
    go_wp2_with (go_at_call 53; (with_reducible refine (HMU.out _).mono ?_); rintro e w1 ⟨rfl, rfl⟩)
    exact ⟨rfl, rfl, (Below.refl _ w).drew⟩
set_option maxRecDepth 100000 in
theorem cut1_inv (m : List (List Int)) (v : Value) (Bb Bf Bt : Nat) (w : World) (hM : MatIn w m v) (hv : validB m = false) (k0 : w.cell? ⟨Bb, 0, none⟩ = some v) :
    Calls Try.prog 96 #[at0 Bb, at0 Bf, at0 Bt] w (LeavesX 1 w) := by
  have h68 := validBlock_any m v w hM
  rw [hv] at h68
  have hmu := must_no 1 w
  obtain ⟨a, ca, rfl, hin, hal, _⟩ := id hM
  clear hin hv hM
  go_enter Try.func96, Try.ntmps96
  go_wp2_with (first
      | (go_at_call 68; (with_reducible refine h68.mono ?_); rintro e w1 ⟨rfl, rfl⟩)
      | (go_at_call 53; (with_reducible refine hmu.mono ?_); rintro e w1 ⟨rfl, rfl⟩))
  exact ⟨rfl, rfl, Below.refl _ w⟩

/-- A block of new memory that may be written: r rows of c numbers. -/
def NewG (B r c : Nat) (F : Nat → Nat → Int) (v : Value) (w : World) : Prop := ∃ N, B ≤ N ∧ v = .slice (some ⟨N, 0, none⟩) r r ∧ Gr N r c F w
def CutAns (w : World) (r c : Nat) (F : Nat → Nat → Int) (e : Ending) (w' : World) : Prop := ∃ u, e = .returned (.tuple #[u, .int .i64 0]) ∧ NewG w.heap.size r c F u w' ∧ Below w.heap.size w w'

theorem newG_keep {B D r c : Nat} {F : Nat → Nat → Int} (hD : D < B) : ∀ u w1 w2, (∀ k, k ≠ D → k < w1.heap.size → w2.heap[k]? = w1.heap[k]?) → NewG B r c F u w1 → NewG B r c F u w2 := fun u w1 w2 hs ⟨N, hN, e, hg⟩ =>
  ⟨N, hN, e, hg.top.of_block (hs _ (by omega) hg.top.lt), fun j hj => (hg.rows j hj).of_block (hs _ (by omega) (hg.rows j hj).lt)⟩

set_option maxRecDepth 100000 in
theorem cut_yes (m : List (List Int)) (v : Value) (w : World) (hM : MatIn w m v) (hv : validB m = true) (f t : Nat) (hft : f ≤ t) (ht : t ≤ cols m) : Calls Try.prog 43 #[v, .int .i64 f, .int .i64 t] w (CutAns w m.length (t - f) (fun i j => cellM m i (f + j))) := by
  have hmf := makes
  obtain ⟨a, ca, rfl, _, _, _⟩ := id hM
  obtain ⟨X, hX⟩ : ∃ X, Obj.cells #[Value.slice a m.length ca] 30 = X := ⟨_, rfl⟩
  obtain ⟨Y, hY⟩ : ∃ Y, Obj.cells #[.int .i64 (f : Int)] 3 = Y := ⟨_, rfl⟩
  obtain ⟨V, hV⟩ : ∃ V, Obj.cells #[.int .i64 (t : Int)] 3 = V := ⟨_, rfl⟩
  have hbel : Below w.heap.size w (((w.alloc X).alloc Y).alloc V) := (((Below.refl _ w).alloc (Nat.le_refl _) _).alloc (by simp) _).alloc (by simp <;> omega) _
  have c0 : ∀ Z, ((((w.alloc X).alloc Y).alloc V).alloc Z).cell? ⟨w.heap.size, 0, none⟩ = some (.slice a m.length ca) := fun Z => by
    refine (Same.alloc _ Z).cell ((Same.alloc _ V).cell ((Same.alloc _ Y).cell ?_)); rw [← hX]; simp [go_sem]
  have c1 : ∀ Z, ((((w.alloc X).alloc Y).alloc V).alloc Z).cell? ⟨w.heap.size + 1, 0, none⟩ = some (.int .i64 f) := fun Z => by
    refine (Same.alloc _ Z).cell ((Same.alloc _ V).cell ?_); rw [← hY]; simp [go_sem]
  have c2 : ∀ Z, ((((w.alloc X).alloc Y).alloc V).alloc Z).cell? ⟨w.heap.size + 1 + 1, 0, none⟩ = some (.int .i64 t) := fun Z => by
    refine (Same.alloc _ Z).cell ?_; rw [← hV]; simp [go_sem]
  have hM2 : ∀ Z, MatIn ((((w.alloc X).alloc Y).alloc V).alloc Z) m (.slice a m.length ca) := fun Z => ((((hM.mono (Same.alloc _ _)).mono (Same.alloc _ _)).mono (Same.alloc _ _)).mono (Same.alloc _ Z))
  have h1 : ∀ Z, Calls Try.prog 96 #[at0 w.heap.size, at0 (w.heap.size + 1), at0 (w.heap.size + 1 + 1)] ((((w.alloc X).alloc Y).alloc V).alloc Z)
      (Gives (NewG ((((w.alloc X).alloc Y).alloc V).alloc Z).heap.size m.length (t - f) (fun i j => cellM m i (f + j))) ((((w.alloc X).alloc Y).alloc V).alloc Z)) := fun Z => by
    by_cases h : f < t
    · exact (cut1_pos m _ _ _ _ _ (hM2 Z) hv f t h ht (c0 Z) (c1 Z) (c2 Z)).mono fun e w' ⟨N, g1, g2, g3, g4⟩ => ⟨_, g2, ⟨N, g1, rfl, g3⟩, g4⟩
    · obtain rfl : f = t := by omega
      rw [show f - f = 0 by omega]
      exact (cut1_zero m _ _ _ _ _ (hM2 Z) hv f ht (c0 Z) (c1 Z) (c2 Z)).mono fun e w' ⟨N, g1, g2, g3, g4⟩ => ⟨_, g2, ⟨N, g1, rfl, g3⟩, g4⟩
  have hf := fitted77_new 96 #[at0 w.heap.size, at0 (w.heap.size + 1), at0 (w.heap.size + 1 + 1)] (((w.alloc X).alloc Y).alloc V) _ (newG_keep (by simp)) (enters_of Try.func96 (by kernel_rfl) rfl _) (h1 _)
  have hz : w.heap.size ≤ ((((w.alloc X).alloc Y).alloc V).alloc (.cells #[.int .i64 0] 22)).heap.size := by simp <;> omega
  subst hX
  subst hY
  subst hV
  have HBL := Lib.hid hbel
  have HZ := Lib.hid hz
  clear hbel c0 c1 c2 hM2 h1 hM hz
  go_enter Try.func43, Try.ntmps43
  go_wp2_with (go_at_call 77; (with_reducible refine hf.mono ?_); rintro e w1 ⟨u, rfl, hu, hb1⟩; have HU := Lib.hid hu; clear hu)
  go_ret2
  obtain ⟨N, n1, n2, n3⟩ := HU.out
  exact ⟨_, rfl, ⟨N, Nat.le_trans HZ.out n1, n2, n3⟩, HBL.out.trans (hb1.mono HBL.out.size)⟩
set_option maxRecDepth 100000 in
theorem cut_no (m : List (List Int)) (v : Value) (w : World) (hM : MatIn w m v) (f t k : Int) (h : (validB m = false ∧ k = 1) ∨ (validB m = true ∧ ¬ (0 ≤ f ∧ f ≤ t ∧ t ≤ cols m) ∧ k = 7)) : Calls Try.prog 43 #[v, .int .i64 f, .int .i64 t] w fun e w' => e = .returned (.tuple #[.slice none 0 0, .int .i64 k]) ∧ Below w.heap.size w w' := by
  have hmf := makes
  obtain ⟨a, ca, rfl, _, _, _⟩ := id hM
  obtain ⟨X, hX⟩ : ∃ X, Obj.cells #[Value.slice a m.length ca] 30 = X := ⟨_, rfl⟩
  obtain ⟨Y, hY⟩ : ∃ Y, Obj.cells #[.int .i64 f] 3 = Y := ⟨_, rfl⟩
  obtain ⟨V, hV⟩ : ∃ V, Obj.cells #[.int .i64 t] 3 = V := ⟨_, rfl⟩
  have hbel : Below w.heap.size w (((w.alloc X).alloc Y).alloc V) := (((Below.refl _ w).alloc (Nat.le_refl _) _).alloc (by simp) _).alloc (by simp <;> omega) _
  have c0 : ∀ Z, ((((w.alloc X).alloc Y).alloc V).alloc Z).cell? ⟨w.heap.size, 0, none⟩ = some (.slice a m.length ca) := fun Z => by
    refine (Same.alloc _ Z).cell ((Same.alloc _ V).cell ((Same.alloc _ Y).cell ?_)); rw [← hX]; simp [go_sem]
  have c1 : ∀ Z, ((((w.alloc X).alloc Y).alloc V).alloc Z).cell? ⟨w.heap.size + 1, 0, none⟩ = some (.int .i64 f) := fun Z => by
    refine (Same.alloc _ Z).cell ((Same.alloc _ V).cell ?_); rw [← hY]; simp [go_sem]
  have c2 : ∀ Z, ((((w.alloc X).alloc Y).alloc V).alloc Z).cell? ⟨w.heap.size + 1 + 1, 0, none⟩ = some (.int .i64 t) := fun Z => by
    refine (Same.alloc _ Z).cell ?_; rw [← hV]; simp [go_sem]
  have hM2 : ∀ Z, MatIn ((((w.alloc X).alloc Y).alloc V).alloc Z) m (.slice a m.length ca) := fun Z => ((((hM.mono (Same.alloc _ _)).mono (Same.alloc _ _)).mono (Same.alloc _ _)).mono (Same.alloc _ Z))
  have h1 : ∀ Z, Calls Try.prog 96 #[at0 w.heap.size, at0 (w.heap.size + 1), at0 (w.heap.size + 1 + 1)] ((((w.alloc X).alloc Y).alloc V).alloc Z) (LeavesX k ((((w.alloc X).alloc Y).alloc V).alloc Z)) := fun Z => by
    rcases h with ⟨h, rfl⟩ | ⟨h, h2, rfl⟩
    · exact cut1_inv m _ _ _ _ _ (hM2 Z) h (c0 Z)
    · exact cut1_bad m _ _ _ _ _ (hM2 Z) h f t h2 (c0 Z) (c1 Z) (c2 Z)
  have hf := fitted77_no 96 #[at0 w.heap.size, at0 (w.heap.size + 1), at0 (w.heap.size + 1 + 1)] k (((w.alloc X).alloc Y).alloc V) (enters_of Try.func96 (by kernel_rfl) rfl _) (h1 _)
  subst hX
  subst hY
  subst hV
  have HBL := Lib.hid hbel
  clear hbel c0 c1 c2 hM2 h1 hM h
  go_enter Try.func43, Try.ntmps43
  go_wp2_with (go_at_call 77; (with_reducible refine hf.mono ?_); rintro e w1 ⟨rfl, hb1⟩)
  go_ret2
  exact ⟨rfl, HBL.out.trans (hb1.mono HBL.out.size)⟩
end Go.Proofs.Ytegomicpolnpoaa
