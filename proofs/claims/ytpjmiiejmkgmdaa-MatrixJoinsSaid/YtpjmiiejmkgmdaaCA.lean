/- What is out of range; blocks of zeros. -/
import Derived.Test.YtpjmiiejmkgmdaaBB
import Derived.Test.YtpjmiiejmkgmdaaVE
namespace Go.Proofs.Ytpjmiiejmkgmdaa
open Go.RowKit

def chB (n : Int) : Bool := decide (1 ≤ n) && decide (n ≤ 8)
def frB (n : Int) : Bool := decide (0 ≤ n) && decide (n ≤ 4096)
theorem chB_t {n : Int} (h : chB n = true) : 1 ≤ n ∧ n ≤ 8 := by simpa [chB] using h
theorem chB_f {n : Int} (h : chB n = false) : n < 1 ∨ 8 < n := by simp [chB] at h; omega
theorem frB_t {n : Int} (h : frB n = true) : 0 ≤ n ∧ n ≤ 4096 := by simpa [frB] using h
theorem frB_f {n : Int} (h : frB n = false) : n < 0 ∨ 4096 < n := by simp [frB] at h; omega

theorem isChannels_any (n : Int) (w : World) : Calls Try.prog 57 #[.int .i64 n] w fun e w' => e = .returned (.bool (chB n)) ∧ w = w' := by
  by_cases h1 : 1 ≤ n
  · by_cases h2 : n ≤ 8
    · rw [show chB n = true by simp [chB, h1, h2]]
      go_enter Try.func57, Try.ntmps57
      go_wp2_with fail
      go_ret
      exact ⟨rfl, rfl⟩
    · rw [show chB n = false by simp [chB, h2]]
      go_enter Try.func57, Try.ntmps57
      go_wp2_with fail
      go_ret
      exact ⟨rfl, rfl⟩
  · rw [show chB n = false by simp [chB, h1]]
    go_enter Try.func57, Try.ntmps57
    go_wp2_with fail
    go_ret
    exact ⟨rfl, rfl⟩
theorem isFrames_any (n : Int) (w : World) : Calls Try.prog 58 #[.int .i64 n] w fun e w' => e = .returned (.bool (frB n)) ∧ w = w' := by
  by_cases h1 : 0 ≤ n
  · by_cases h2 : n ≤ 4096
    · rw [show frB n = true by simp [frB, h1, h2]]
      go_enter Try.func58, Try.ntmps58
      go_wp2_with fail
      go_ret
      exact ⟨rfl, rfl⟩
    · rw [show frB n = false by simp [frB, h2]]
      go_enter Try.func58, Try.ntmps58
      go_wp2_with fail
      go_ret
      exact ⟨rfl, rfl⟩
  · rw [show frB n = false by simp [frB, h1]]
    go_enter Try.func58, Try.ntmps58
    go_wp2_with fail
    go_ret
    exact ⟨rfl, rfl⟩

theorem row_nil (w : World) : RowIn w [] (.slice none 0 0) := ⟨none, 0, rfl, IntsIn.nil _ _, by simp, Nat.le_refl _⟩
theorem mat_nil (w : World) : MatIn w [] (.slice none 0 0) := ⟨none, 0, rfl, (fun i hi => by simp at hi), by simp, Nat.le_refl _⟩

theorem usual_out {n : Int} (h : chB n = false) (w : World) : Calls Try.prog 18 #[.int .i64 n] w (RowAns w [] 7) := by
  have h' := chB_f h
  have g1 : (n == 1) = false := by rw [beq_eq_false_iff_ne]; omega
  have g2 : (n == 2) = false := by rw [beq_eq_false_iff_ne]; omega
  have g3 : (n == 3) = false := by rw [beq_eq_false_iff_ne]; omega
  have g4 : (n == 4) = false := by rw [beq_eq_false_iff_ne]; omega
  have g5 : (n == 5) = false := by rw [beq_eq_false_iff_ne]; omega
  have g6 : (n == 6) = false := by rw [beq_eq_false_iff_ne]; omega
  have g7 : (n == 7) = false := by rw [beq_eq_false_iff_ne]; omega
  have g8 : (n == 8) = false := by rw [beq_eq_false_iff_ne]; omega
  clear h h'
  go_enter Try.func18, Try.ntmps18
  go_wp2_with fail
  go_ret2
  exact ⟨_, rfl, row_nil _, Below.refl _ _⟩
theorem refUsual_out {n : Int} (h : chB n = false) (w : World) : Calls Try.prog 19 #[.int .i64 n] w (RowAns w [] 7) := by
  have h' := chB_f h
  have g1 : (n == 1) = false := by rw [beq_eq_false_iff_ne]; omega
  have g2 : (n == 2) = false := by rw [beq_eq_false_iff_ne]; omega
  have g3 : (n == 3) = false := by rw [beq_eq_false_iff_ne]; omega
  have g4 : (n == 4) = false := by rw [beq_eq_false_iff_ne]; omega
  have g5 : (n == 5) = false := by rw [beq_eq_false_iff_ne]; omega
  have g6 : (n == 6) = false := by rw [beq_eq_false_iff_ne]; omega
  have g7 : (n == 7) = false := by rw [beq_eq_false_iff_ne]; omega
  have g8 : (n == 8) = false := by rw [beq_eq_false_iff_ne]; omega
  clear h h'
  go_enter Try.func19, Try.ntmps19
  go_wp2_with fail
  go_ret2
  exact ⟨_, rfl, row_nil _, Below.refl _ _⟩
theorem identity_out {n : Int} (h : chB n = false) (w : World) : Calls Try.prog 20 #[.int .i64 n] w (MatAns w [] 7) := by
  have hc := isChannels_any n w
  rw [h] at hc
  clear h
  go_enter Try.func20, Try.ntmps20
  go_wp2_with (go_at_call 57; refine hc.mono ?_; rintro e w1 ⟨rfl, rfl⟩)
  go_ret2
  exact ⟨_, rfl, mat_nil _, Below.refl _ _⟩
theorem refIdentity_out {n : Int} (h : chB n = false) (w : World) : Calls Try.prog 21 #[.int .i64 n] w (MatAns w [] 7) := by
  rcases chB_f h with h1 | h1
  · clear h
    go_enter Try.func21, Try.ntmps21
    go_wp2_with fail
    go_ret2
    exact ⟨_, rfl, mat_nil _, Below.refl _ _⟩
  · have h2 : ¬ n < 1 := by omega
    clear h
    go_enter Try.func21, Try.ntmps21
    go_wp2_with fail
    go_ret2
    exact ⟨_, rfl, mat_nil _, Below.refl _ _⟩

theorem silent_in {r c : Nat} (hr1 : 1 ≤ r) (hr : r ≤ 8) (hc : c ≤ 4096) (w : World) : Calls Try.prog 22 #[.int .i64 r, .int .i64 c] w (MatAns w (zeroM r c) 0) := by
  have h1 := isChannels_any r w
  have h2 := isFrames_any c w
  rw [show chB r = true by simp [chB]; omega] at h1
  rw [show frB c = true by simp [frB]; omega] at h2
  have h3 := zeros_any r c hr hc w
  go_enter Try.func22, Try.ntmps22
  go_wp2_with (first | (go_at_call 57; refine h1.mono ?_; rintro e w1 ⟨rfl, rfl⟩) | (go_at_call 58; refine h2.mono ?_; rintro e w1 ⟨rfl, rfl⟩) | (go_at_call 44; refine h3.mono ?_; rintro e w1 ⟨u, rfl, hm, hb⟩))
  go_ret2
  exact ⟨_, rfl, hm, hb⟩
theorem refSilent_in {r c : Nat} (hr1 : 1 ≤ r) (hr : r ≤ 8) (hc : c ≤ 4096) (w : World) : Calls Try.prog 23 #[.int .i64 r, .int .i64 c] w (MatAns w (zeroM r c) 0) := by
  have h3 := nothing_any r c hr hc w
  have g1 : ¬ (r : Int) < 1 := by omega
  have g2 : ¬ (8 : Int) < r := by omega
  have g3 : ¬ (c : Int) < 0 := by omega
  have g4 : ¬ (4096 : Int) < c := by omega
  go_enter Try.func23, Try.ntmps23
  go_wp2_with (go_at_call 48; refine h3.mono ?_; rintro e w1 ⟨u, rfl, hm, hb⟩)
  go_ret2
  exact ⟨_, rfl, hm, hb⟩
theorem silent_out {r c : Int} (h : (chB r && frB c) = false) (w : World) : Calls Try.prog 22 #[.int .i64 r, .int .i64 c] w (MatAns w [] 7) := by
  have h1 := isChannels_any r w
  have h2 := isFrames_any c w
  cases hr : chB r with
  | false =>
    rw [hr] at h1
    clear h hr h2
    go_enter Try.func22, Try.ntmps22
    go_wp2_with (go_at_call 57; refine h1.mono ?_; rintro e w1 ⟨rfl, rfl⟩)
    go_ret2
    exact ⟨_, rfl, mat_nil _, Below.refl _ _⟩
  | true =>
    rw [hr] at h1
    rw [hr, Bool.true_and] at h
    rw [h] at h2
    clear h hr
    go_enter Try.func22, Try.ntmps22
    go_wp2_with (first | (go_at_call 57; refine h1.mono ?_; rintro e w1 ⟨rfl, rfl⟩) | (go_at_call 58; refine h2.mono ?_; rintro e w1 ⟨rfl, rfl⟩))
    go_ret2
    exact ⟨_, rfl, mat_nil _, Below.refl _ _⟩
theorem refSilent_out {r c : Int} (h : (chB r && frB c) = false) (w : World) : Calls Try.prog 23 #[.int .i64 r, .int .i64 c] w (MatAns w [] 7) := by
  have : r < 1 ∨ (¬ r < 1 ∧ 8 < r) ∨ (¬ r < 1 ∧ ¬ 8 < r ∧ c < 0) ∨ (¬ r < 1 ∧ ¬ 8 < r ∧ ¬ c < 0 ∧ 4096 < c) := by
    cases hr : chB r with
    | false => rcases chB_f hr with h1 | h1 <;> omega
    | true =>
      rw [hr, Bool.true_and] at h
      have := chB_t hr
      rcases frB_f h with h1 | h1 <;> omega
  clear h
  rcases this with h1 | ⟨h1, h2⟩ | ⟨h1, h2, h3⟩ | ⟨h1, h2, h3, h4⟩ <;>
  · go_enter Try.func23, Try.ntmps23
    go_wp2_with fail
    go_ret2
    exact ⟨_, rfl, mat_nil _, Below.refl _ _⟩
end Go.Proofs.Ytpjmiiejmkgmdaa
