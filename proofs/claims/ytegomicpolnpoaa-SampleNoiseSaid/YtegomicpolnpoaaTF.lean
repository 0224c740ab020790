/- Cut: the document's. -/
import Derived.Test.YtegomicpolnpoaaTE
namespace Go.Proofs.Ytegomicpolnpoaa
open Go.RowKit Go.Shelf Go.Deep

/-- An answer in new memory: a matrix and an error. -/
def NewAns (w : World) (m : List (List Int)) (k : Int) (e : Ending) (w' : World) : Prop := ∃ u, e = .returned (.tuple #[u, .int .i64 k]) ∧ MatNew w.heap.size w' m u ∧ Below w.heap.size w w'
theorem new_nil (B : Nat) (w : World) : MatNew B w [] (.slice none 0 0) := fun w' _ => mat_nil w'

set_option maxHeartbeats 1000000 in
set_option maxRecDepth 100000 in
theorem refCut_inv (m : List (List Int)) (v : Value) (w : World) (hM : MatIn w m v) (hv : validB m = false) (f t : Int) : Calls Try.prog 44 #[v, .int .i64 f, .int .i64 t] w (NewAns w [] 1) := by
  have h42 := refValidBlock_any m v w hM
  rw [hv] at h42
  obtain ⟨a, ca, rfl, _, _, _⟩ := hM
  clear hv
  go_enter Try.func44, Try.ntmps44
  go_wp2_with (go_at_call 42; (with_reducible refine h42.mono ?_); rintro e w1 ⟨rfl, hb⟩; have HB := Lib.hid hb; clear hb)
  go_ret2
  exact ⟨_, rfl, new_nil _ _, HB.out⟩
set_option maxHeartbeats 1000000 in
set_option maxRecDepth 100000 in
theorem refCut_bad (m : List (List Int)) (v : Value) (w : World) (hM : MatIn w m v) (hv : validB m = true) (f t : Int) (hft : ¬ (0 ≤ f ∧ f ≤ t ∧ t ≤ cols m)) : Calls Try.prog 44 #[v, .int .i64 f, .int .i64 t] w (NewAns w [] 7) := by
  have h42 := refValidBlock_any m v w hM
  rw [hv] at h42
  obtain ⟨hr1, hr8, hc, hrow⟩ := validB_parts hv
  obtain ⟨a, ca, rfl, hin, hal, _⟩ := id hM
  obtain ⟨b0, o0, u0, rfl, hc0, a0, c0, rfl, _, _, _⟩ := hin 0 (by omega)
  simp only [Nat.add_zero] at hc0
  change w.cell? _ = some (Value.slice a0 (cols m) c0) at hc0
  have hposI : (0 : Int) < (m.length : Int) := by omega
  have hposN : 0 < m.length := by omega
  obtain ⟨C, hC⟩ : ∃ C, cols m = C := ⟨_, rfl⟩
  rw [hC] at hc0 hc hft
  have HC := Lib.hid (fun (x : World) (hx : Below w.heap.size w x) => (Same.of_below hx).cell hc0)
  clear hrow hin hv hC hM hc0
  have hcase : f < 0 ∨ (0 ≤ f ∧ t < f) ∨ (0 ≤ f ∧ f ≤ t ∧ (C : Int) < t) := by omega
  clear hft
  rcases hcase with h | ⟨h, h2⟩ | ⟨h, h2, h3⟩
  · have q0 : decide (f < 0) = true := by simp; omega
    go_enter Try.func44, Try.ntmps44
    go_wp2_with (go_at_call 42; (with_reducible refine h42.mono ?_); rintro e w1 ⟨rfl, hb⟩; have HB := Lib.hid hb; clear hb)
    go_ret2
    exact ⟨_, rfl, new_nil _ _, HB.out⟩
  · have q0 : decide (f < 0) = false := by simp; omega
    have q1 : decide (t < f) = true := by simp; omega
    go_enter Try.func44, Try.ntmps44
    go_wp2_with (go_at_call 42; (with_reducible refine h42.mono ?_); rintro e w1 ⟨rfl, hb⟩; have HB := Lib.hid hb; clear hb)
    go_ret2
    exact ⟨_, rfl, new_nil _ _, HB.out⟩
  · have q0 : decide (f < 0) = false := by simp; omega
    have q1 : decide (t < f) = false := by simp; omega
    have q2 : decide ((C : Int) < t) = true := by simp; omega
    go_enter Try.func44, Try.ntmps44
    go_wp2_with (go_at_call 42; (with_reducible refine h42.mono ?_); rintro e w1 ⟨rfl, hb⟩; have HB := Lib.hid hb; have hc1 := HC.out _ hb; clear hb)
    go_ret2
    exact ⟨_, rfl, new_nil _ _, HB.out⟩
set_option maxHeartbeats 1000000 in
set_option maxRecDepth 100000 in
theorem refCut_yes (m : List (List Int)) (v : Value) (w : World) (hM : MatIn w m v) (hv : validB m = true) (f t : Nat) (hft : f ≤ t) (ht : t ≤ cols m) : Calls Try.prog 44 #[v, .int .i64 f, .int .i64 t] w (NewAns w (partM m f t) 0) := by
  have h42 := refValidBlock_any m v w hM
  rw [hv] at h42
  obtain ⟨hr1, hr8, hc, hrow⟩ := validB_parts hv
  have HP := Lib.hid (fun (x : World) (hx : Below w.heap.size w x) => part_any m v x (hM.mono (Same.of_below hx)) hr8 f t hft (fun k hk => by rw [hrow k hk]; exact ht) (by omega))
  obtain ⟨a, ca, rfl, hin, hal, _⟩ := id hM
  obtain ⟨b0, o0, u0, rfl, hc0, a0, c0, rfl, _, _, _⟩ := hin 0 (by omega)
  simp only [Nat.add_zero] at hc0
  change w.cell? _ = some (Value.slice a0 (cols m) c0) at hc0
  have hposI : (0 : Int) < (m.length : Int) := by omega
  have hposN : 0 < m.length := by omega
  obtain ⟨C, hC⟩ : ∃ C, cols m = C := ⟨_, rfl⟩
  rw [hC] at hc0 hc ht
  have HC := Lib.hid (fun (x : World) (hx : Below w.heap.size w x) => (Same.of_below hx).cell hc0)
  clear hrow hin hv hC hM hc0
  have q0 : decide ((f : Int) < 0) = false := by simp
  have q1 : decide (t < f) = false := by simp; omega
  have q2 : decide (C < t) = false := by simp; omega
  have q3 : decide ((t : Int) < (f : Int)) = false := by simp; omega
  go_enter Try.func44, Try.ntmps44
  go_wp2_with (first
    | (go_at_call 42; (with_reducible refine h42.mono ?_); rintro e w1 ⟨rfl, hb⟩; have HB := Lib.hid hb; have hc1 := HC.out _ hb; clear hb)
    | (go_at_call 48; (with_reducible refine (HP.out _ HB.out).mono ?_); rintro e w2 ⟨u, rfl, hu, hb2⟩; have HU := Lib.hid hu; have HB2 := Lib.hid hb2; clear hu hb2))
  go_ret2
  exact ⟨_, rfl, HU.out.mono HB.out.size (Nat.le_refl _) (fun _ _ _ => rfl), Below.then HB.out (Nat.le_refl _) HB2.out⟩
end Go.Proofs.Ytegomicpolnpoaa
