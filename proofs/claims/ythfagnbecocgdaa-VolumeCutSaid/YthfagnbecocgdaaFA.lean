/- What does not fit; rounding and bounds on both sides. -/
import Derived.Test.YthfagnbecocgdaaAA
namespace Go.Proofs.Ythfagnbecocgdaa
open Go.RowKit

theorem Below.then {B : Nat} {w w1 w2 : World} (h : Below B w w1) (hB : B ≤ w.heap.size) (h2 : Below w1.heap.size w1 w2) : Below B w w2 := h.trans (h2.mono (Nat.le_trans hB h.size))

/-- The panic of what does not fit. -/
def misfit (k : Int) : List PanicEntry := [{ v := .iface 118 (.agg #[.int .i64 k]), recovered := false }]
def LeavesX (k : Int) (w : World) (e : Ending) (w' : World) : Prop := e = .panicked (misfit k) ∧ Below w.heap.size w w'

theorem must_yes (k : Int) (w : World) : Calls Try.prog 50 #[.bool true, .int .i64 k] w fun e w' => e = .returned (.tuple #[]) ∧ w = w' := by
  go_enter Try.func50, Try.ntmps50
  go_wp2_with fail
  go_end0
  exact ⟨rfl, rfl⟩
theorem must_no (k : Int) (w : World) : Calls Try.prog 50 #[.bool false, .int .i64 k] w fun e w' => e = .panicked (misfit k) ∧ w = w' := by
  go_enter Try.func50, Try.ntmps50
  go_wp2_with fail
  exact ⟨rfl, rfl, rfl⟩

/-- The nearest of a / n, of two the one further from 0. -/
def rnd (a n : Int) : Int := if a < 0 then -((2 * -a + n) / (2 * n)) else (2 * a + n) / (2 * n)
def bnd (n k : Int) : Int := min (max n (-k)) k
theorem rnd_neg (a n : Int) (hn : 1 ≤ n) : rnd (-a) n = -rnd a n := by
  unfold rnd
  by_cases h : a < 0
  · rw [if_neg (by omega), if_pos h]; omega
  · by_cases h0 : a = 0
    · subst h0
      have : (2 * 0 + n) / (2 * n) = 0 := Int.ediv_eq_zero_of_lt (by omega) (by omega)
      simp only [Int.neg_zero]
      rw [if_neg (by omega), this]; rfl
    · rw [if_pos (by omega), if_neg h]; simp
theorem rnd_nn {a n : Int} (h : 0 ≤ a) : rnd a n = (2 * a + n) / (2 * n) := by unfold rnd; rw [if_neg (by omega)]
theorem rnd_lo {a n : Int} (hn : 1 ≤ n) (h : 0 ≤ a) : 0 ≤ rnd a n := by
  rw [rnd_nn h]
  exact Int.ediv_nonneg (by omega) (by omega)
theorem rnd_hi {a n : Int} (hn : 1 ≤ n) (h : 0 ≤ a) : rnd a n ≤ 2 * a + n := by
  rw [rnd_nn h]
  exact Int.ediv_le_self _ (by omega)
/-- By quotient and remainder. -/
theorem rnd_qr {a n : Int} (hn : 1 ≤ n) (h : 0 ≤ a) : rnd a n = a / n + (if n - a % n ≤ a % n then 1 else 0) := by
  rw [rnd_nn h]
  have h1 := Int.emod_nonneg a (show n ≠ 0 by omega)
  have h2 := Int.emod_lt_of_pos a (show 0 < n by omega)
  have h3 := Int.mul_ediv_add_emod a n
  obtain ⟨q, hq⟩ : ∃ q, a / n = q := ⟨_, rfl⟩
  obtain ⟨r, hr⟩ : ∃ r, a % n = r := ⟨_, rfl⟩
  rw [hq, hr] at h3
  rw [hr] at h1 h2
  rw [hq, hr]
  have e : 2 * a + n = (2 * r + n) + (2 * n) * q := by rw [← h3]; rw [Int.mul_add, Int.mul_assoc]; omega
  rw [e, Int.add_mul_ediv_left _ _ (by omega)]
  split
  · have : (2 * r + n) / (2 * n) = 1 := by
      have e2 : 2 * r + n = (2 * r - n) + (2 * n) * 1 := by omega
      rw [e2, Int.add_mul_ediv_left _ _ (by omega), Int.ediv_eq_zero_of_lt (by omega) (by omega)]; rfl
    omega
  · have : (2 * r + n) / (2 * n) = 0 := Int.ediv_eq_zero_of_lt (by omega) (by omega)
    omega

theorem rounded_pos (a n : Int) (w : World) (h : 0 ≤ a) (hb : a ≤ 1152921504606846976) (hn : 1 ≤ n) (hn2 : n ≤ 1152921504606846976) : Calls Try.prog 90 #[.int .i64 a, .int .i64 n] w fun e w' => e = .returned (.int .i64 (rnd a n)) ∧ w = w' := by
  have e := rnd_nn (n := n) h
  rw [e]
  have h0 : ¬ 2 * n = 0 := by omega
  have h1 : ¬ a < 0 := by omega
  clear e
  go_enter Try.func90, Try.ntmps90
  go_wp2_with fail
  go_ret
  exact ⟨rfl, rfl⟩
theorem rounded_any (a n : Int) (w : World) (h : -1152921504606846976 ≤ a) (hb : a ≤ 1152921504606846976) (hn : 1 ≤ n) (hn2 : n ≤ 1152921504606846976) : Calls Try.prog 90 #[.int .i64 a, .int .i64 n] w fun e w' => e = .returned (.int .i64 (rnd a n)) ∧ w = w' := by
  by_cases h0 : 0 ≤ a
  · exact rounded_pos a n w h0 hb hn hn2
  · have hp := rounded_pos (-a) n w (by omega) (by omega) hn hn2
    have hlo := rnd_lo (a := -a) hn (by omega)
    have hhi := rnd_hi (a := -a) hn (by omega)
    have e : rnd a n = -rnd (-a) n := by have := rnd_neg a n hn; omega
    rw [e]
    obtain ⟨x, hx⟩ : ∃ x, rnd (-a) n = x := ⟨_, rfl⟩
    rw [hx] at hp hlo hhi ⊢
    have hlt : a < 0 := by omega
    clear e hx h0
    go_enter Try.func90, Try.ntmps90
    go_wp2_with (go_at_call 90; (with_reducible refine hp.mono ?_); rintro e w1 ⟨rfl, rfl⟩)
    go_ret
    exact ⟨rfl, rfl⟩
theorem bounded_any (n k : Int) (w : World) (h0 : 0 ≤ k) (hk : k ≤ 2147483647) : Calls Try.prog 89 #[.int .i64 n, .int .i64 k] w fun e w' => e = .returned (.int .i64 (bnd n k)) ∧ w = w' := by
  unfold bnd
  go_enter Try.func89, Try.ntmps89
  go_wp2_with fail
  all_goals
    go_ret
    exact ⟨ret_int (by omega), rfl⟩

theorem refRounded_pos (a n : Int) (w : World) (h0 : 0 ≤ a) (hb : a ≤ 1152921504606846976) (hn : 1 ≤ n) (hn2 : n ≤ 1152921504606846976) : Calls Try.prog 91 #[.int .i64 a, .int .i64 n] w fun e w' => e = .returned (.int .i64 (rnd a n)) ∧ ∃ m, w' = w.drewN m := by
  have e := rnd_qr hn h0
  rw [e]
  have hr1 := Int.emod_nonneg a (show n ≠ 0 by omega)
  have hr2 := Int.emod_lt_of_pos a (show 0 < n by omega)
  have hq1 : 0 ≤ a / n := Int.ediv_nonneg h0 (by omega)
  have hq2 : a / n ≤ a := Int.ediv_le_self _ h0
  obtain ⟨q, hq⟩ : ∃ q, a / n = q := ⟨_, rfl⟩
  obtain ⟨r, hr⟩ : ∃ r, a % n = r := ⟨_, rfl⟩
  have ht : a.tdiv n = q := by rw [Int.tdiv_eq_ediv_of_nonneg h0]; exact hq
  have hm : a.tmod n = r := by rw [Int.tmod_eq_emod_of_nonneg h0]; exact hr
  rw [hr] at hr1 hr2
  rw [hq] at hq1 hq2
  rw [hq, hr]
  have hz : ¬ n = 0 := by omega
  have hlt : ¬ a < 0 := by omega
  clear e hq hr
  by_cases hge : n - r ≤ r
  · rw [if_pos hge]
    go_enter Try.func91, Try.ntmps91
    go_wp2_with fail
    go_quiet (fail)
    go_wp2_with fail
    go_ret
    exact ⟨rfl, _, rfl⟩
  · rw [if_neg hge]
    go_enter Try.func91, Try.ntmps91
    go_wp2_with fail
    go_quiet (fail)
    go_wp2_with fail
    go_ret
    exact ⟨by simp, _, rfl⟩
theorem refRounded_any (a n : Int) (w : World) (h : -1152921504606846976 ≤ a) (hb : a ≤ 1152921504606846976) (hn : 1 ≤ n) (hn2 : n ≤ 1152921504606846976) : Calls Try.prog 91 #[.int .i64 a, .int .i64 n] w fun e w' => e = .returned (.int .i64 (rnd a n)) ∧ ∃ m, w' = w.drewN m := by
  by_cases h0 : 0 ≤ a
  · exact refRounded_pos a n w h0 hb hn hn2
  · have hp := refRounded_pos (-a) n w (by omega) (by omega) hn hn2
    have hlo := rnd_lo (a := -a) hn (by omega)
    have hhi := rnd_hi (a := -a) hn (by omega)
    have e : rnd a n = -rnd (-a) n := by have := rnd_neg a n hn; omega
    rw [e]
    obtain ⟨x, hx⟩ : ∃ x, rnd (-a) n = x := ⟨_, rfl⟩
    rw [hx] at hp hlo hhi ⊢
    have hlt : a < 0 := by omega
    clear e hx h0
    go_enter Try.func91, Try.ntmps91
    go_wp2_with (go_at_call 91; (with_reducible refine hp.mono ?_); rintro e w1 ⟨rfl, m, rfl⟩)
    go_ret
    exact ⟨rfl, m, rfl⟩
theorem refBounded_any (n lo hi : Int) (w : World) : Calls Try.prog 115 #[.int .i64 n, .int .i64 lo, .int .i64 hi] w fun e w' => e = .returned (.int .i64 (max lo (min hi n))) ∧ w = w' := by
  go_enter Try.func115, Try.ntmps115
  go_wp2_with fail
  all_goals
    go_ret
    exact ⟨ret_int (by omega), rfl⟩
theorem clip_any (n : Int) (w : World) : Calls Try.prog 100 #[.int .i64 n] w fun e w' => e = .returned (.int .i64 (bnd n 8388607)) ∧ w = w' := by
  have h := refBounded_any n (-8388607) 8388607 w
  rw [show max (-8388607) (min 8388607 n) = bnd n 8388607 by unfold bnd; omega] at h
  go_enter Try.func100, Try.ntmps100
  go_wp2_with (go_at_call 115; (with_reducible refine h.mono ?_); rintro e w1 ⟨rfl, rfl⟩)
  go_ret
  exact ⟨rfl, rfl⟩
end Go.Proofs.Ythfagnbecocgdaa
