/- The document's rounding and bounds. -/
import Derived.Test.YtpjmiiejmkgmdaaHA
namespace Go.Proofs.Ytpjmiiejmkgmdaa
open Go.RowKit Go.Deep

theorem refRounded_pos (a : Int) (w : World) (h0 : 0 ≤ a) (hb : a ≤ 1000000000000000) : Calls Try.prog 69 #[.int .i64 a, .int .i64 65536] w fun e w' => e = .returned (.int .i64 (roundI a)) ∧ ∃ n, w' = w.drewN n := by
  have e : roundI a = a / 65536 + (if 32768 ≤ a % 65536 then 1 else 0) := by unfold roundI; rw [if_neg (by omega)]; split <;> omega
  rw [e]
  obtain ⟨q, hq⟩ : ∃ q, a / 65536 = q := ⟨_, rfl⟩
  obtain ⟨r, hr⟩ : ∃ r, a % 65536 = r := ⟨_, rfl⟩
  have hq1 : 0 ≤ q ∧ q ≤ 1000000000000000 := by omega
  have hr1 : 0 ≤ r ∧ r < 65536 := by omega
  have ht : a.tdiv 65536 = q := by rw [Int.tdiv_eq_ediv_of_nonneg h0]; exact hq
  have hm : a.tmod 65536 = r := by rw [Int.tmod_eq_emod_of_nonneg h0]; exact hr
  rw [hq, hr]
  obtain ⟨q1, q2⟩ := hq1
  obtain ⟨r1, r2⟩ := hr1
  clear e
  by_cases hge : 32768 ≤ r
  · have t1 : 65536 - r ≤ r := by omega
    rw [if_pos hge]
    go_enter Try.func69, Try.ntmps69
    go_wp2_with fail
    go_quiet (fail)
    go_wp2_with fail
    go_ret
    exact ⟨rfl, _, rfl⟩
  · have t1 : ¬ 65536 - r ≤ r := by omega
    rw [if_neg hge]
    go_enter Try.func69, Try.ntmps69
    go_wp2_with fail
    go_quiet (fail)
    go_wp2_with fail
    go_ret
    exact ⟨by simp, _, rfl⟩
theorem refRounded_any (a : Int) (w : World) (h : -1000000000000000 ≤ a) (hb : a ≤ 1000000000000000) : Calls Try.prog 69 #[.int .i64 a, .int .i64 65536] w fun e w' => e = .returned (.int .i64 (roundI a)) ∧ ∃ n, w' = w.drewN n := by
  by_cases h0 : 0 ≤ a
  · exact refRounded_pos a w h0 hb
  · have hp := refRounded_pos (-a) w (by omega) (by omega)
    have hbd : 0 ≤ roundI (-a) ∧ roundI (-a) ≤ 1000000000000000 := by unfold roundI; rw [if_neg (by omega)]; omega
    have e : roundI a = -roundI (-a) := by have := roundI_neg a; omega
    rw [e]
    obtain ⟨x, hx⟩ : ∃ x, roundI (-a) = x := ⟨_, rfl⟩
    rw [hx] at hp hbd ⊢
    obtain ⟨hx1, hx2⟩ := hbd
    have hlt : a < 0 := by omega
    clear e hx h0
    go_enter Try.func69, Try.ntmps69
    go_wp2_with (go_at_call 69; (with_reducible refine hp.mono ?_); rintro e w1 ⟨rfl, n, rfl⟩)
    go_ret
    exact ⟨rfl, n, rfl⟩
theorem bounded_any (n lo hi : Int) (w : World) : Calls Try.prog 68 #[.int .i64 n, .int .i64 lo, .int .i64 hi] w fun e w' => e = .returned (.int .i64 (max lo (min hi n))) ∧ w = w' := by
  go_enter Try.func68, Try.ntmps68
  go_wp2_with fail
  go_ret
  exact ⟨rfl, rfl⟩
theorem clip_any (n : Int) (w : World) : Calls Try.prog 82 #[.int .i64 n] w fun e w' => e = .returned (.int .i64 (max (-8388607) (min 8388607 n))) ∧ w = w' := by
  have h := bounded_any n (-8388607) 8388607 w
  go_enter Try.func82, Try.ntmps82
  go_wp2_with (go_at_call 68; (with_reducible refine h.mono ?_); rintro e w1 ⟨rfl, rfl⟩)
  go_ret
  exact ⟨rfl, rfl⟩
theorem clipI_max {k n : Int} (hk : 0 ≤ k) : max (-k) (min k (roundI n)) = clipI k n := by unfold clipI; omega
end Go.Proofs.Ytpjmiiejmkgmdaa
