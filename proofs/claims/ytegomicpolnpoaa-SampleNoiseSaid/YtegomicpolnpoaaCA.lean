/- What is out of range; blocks of zeros. -/
import Derived.Test.YtegomicpolnpoaaBB
namespace Go.Proofs.Ytegomicpolnpoaa
open Go.RowKit

/-- An answer: a list of numbers and an error. -/
def RowAns (w : World) (l : List Int) (k : Int) (e : Ending) (w' : World) : Prop := ∃ u, e = .returned (.tuple #[u, .int .i64 k]) ∧ RowIn w' l u ∧ Below w.heap.size w w'
def MatAns (w : World) (m : List (List Int)) (k : Int) (e : Ending) (w' : World) : Prop := ∃ u, e = .returned (.tuple #[u, .int .i64 k]) ∧ MatIn w' m u ∧ Below w.heap.size w w'

def chB (n : Int) : Bool := decide (1 ≤ n) && decide (n ≤ 8)
def frB (n : Int) : Bool := decide (0 ≤ n) && decide (n ≤ 4096)
theorem chB_t {n : Int} (h : chB n = true) : 1 ≤ n ∧ n ≤ 8 := by simpa [chB] using h
theorem chB_f {n : Int} (h : chB n = false) : n < 1 ∨ 8 < n := by simp [chB] at h; omega
theorem frB_t {n : Int} (h : frB n = true) : 0 ≤ n ∧ n ≤ 4096 := by simpa [frB] using h
theorem frB_f {n : Int} (h : frB n = false) : n < 0 ∨ 4096 < n := by simp [frB] at h; omega

theorem isChannels_any (n : Int) (w : World) : Calls Try.prog 106 #[.int .i64 n] w fun e w' => e = .returned (.bool (chB n)) ∧ w = w' := by
  by_cases h1 : 1 ≤ n
  · by_cases h2 : n ≤ 8
    · rw [show chB n = true by simp [chB, h1, h2]]
      go_enter Try.func106, Try.ntmps106
      go_wp2_with fail
      go_ret
      exact ⟨rfl, rfl⟩
    · rw [show chB n = false by simp [chB, h2]]
      go_enter Try.func106, Try.ntmps106
      go_wp2_with fail
      go_ret
      exact ⟨rfl, rfl⟩
  · rw [show chB n = false by simp [chB, h1]]
    go_enter Try.func106, Try.ntmps106
    go_wp2_with fail
    go_ret
    exact ⟨rfl, rfl⟩
theorem isFrames_any (n : Int) (w : World) : Calls Try.prog 107 #[.int .i64 n] w fun e w' => e = .returned (.bool (frB n)) ∧ w = w' := by
  by_cases h1 : 0 ≤ n
  · by_cases h2 : n ≤ 4096
    · rw [show frB n = true by simp [frB, h1, h2]]
      go_enter Try.func107, Try.ntmps107
      go_wp2_with fail
      go_ret
      exact ⟨rfl, rfl⟩
    · rw [show frB n = false by simp [frB, h2]]
      go_enter Try.func107, Try.ntmps107
      go_wp2_with fail
      go_ret
      exact ⟨rfl, rfl⟩
  · rw [show frB n = false by simp [frB, h1]]
    go_enter Try.func107, Try.ntmps107
    go_wp2_with fail
    go_ret
    exact ⟨rfl, rfl⟩

theorem row_nil (w : World) : RowIn w [] (.slice none 0 0) := ⟨none, 0, rfl, IntsIn.nil _ _, by simp, Nat.le_refl _⟩
theorem mat_nil (w : World) : MatIn w [] (.slice none 0 0) := ⟨none, 0, rfl, (fun i hi => by simp at hi), by simp, Nat.le_refl _⟩

theorem silent_in {r c : Nat} (hr1 : 1 ≤ r) (hr : r ≤ 8) (hc : c ≤ 4096) (w : World) : Calls Try.prog 80 #[.int .i64 r, .int .i64 c] w (MatAns w (zeroM r c) 0) := by
  have h1 := isChannels_any r w
  have h2 := isFrames_any c w
  rw [show chB r = true by simp [chB]; omega] at h1
  rw [show frB c = true by simp [frB]; omega] at h2
  have h3 := zeros_any r c hr hc w
  go_enter Try.func80, Try.ntmps80
  go_wp2_with (first | (go_at_call 106; refine h1.mono ?_; rintro e w1 ⟨rfl, rfl⟩) | (go_at_call 107; refine h2.mono ?_; rintro e w1 ⟨rfl, rfl⟩) | (go_at_call 115; refine h3.mono ?_; rintro e w1 ⟨u, rfl, hm, hb⟩))
  go_ret2
  exact ⟨_, rfl, hm, hb⟩
theorem silent_out {r c : Int} (h : (chB r && frB c) = false) (w : World) : Calls Try.prog 80 #[.int .i64 r, .int .i64 c] w (MatAns w [] 7) := by
  have h1 := isChannels_any r w
  have h2 := isFrames_any c w
  cases hr : chB r with
  | false =>
    rw [hr] at h1
    clear h hr h2
    go_enter Try.func80, Try.ntmps80
    go_wp2_with (go_at_call 106; refine h1.mono ?_; rintro e w1 ⟨rfl, rfl⟩)
    go_ret2
    exact ⟨_, rfl, mat_nil _, Below.refl _ _⟩
  | true =>
    rw [hr] at h1
    rw [hr, Bool.true_and] at h
    rw [h] at h2
    clear h hr
    go_enter Try.func80, Try.ntmps80
    go_wp2_with (first | (go_at_call 106; refine h1.mono ?_; rintro e w1 ⟨rfl, rfl⟩) | (go_at_call 107; refine h2.mono ?_; rintro e w1 ⟨rfl, rfl⟩))
    go_ret2
    exact ⟨_, rfl, mat_nil _, Below.refl _ _⟩
end Go.Proofs.Ytegomicpolnpoaa
