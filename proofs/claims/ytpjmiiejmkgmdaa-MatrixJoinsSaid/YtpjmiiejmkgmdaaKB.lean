/- What is small, told. -/
import Derived.Test.YtpjmiiejmkgmdaaAA
namespace Go.Proofs.Ytpjmiiejmkgmdaa
open Go.RowKit

def smallN (lim : Nat) (m : List (List Int)) : Bool := (List.range (min m.length 12)).all (fun j => decide ((m.getD j []).length ≤ lim)) && decide (m.length ≤ 12)
theorem smallN_no {lim : Nat} {m : List (List Int)} {j : Nat} (h1 : j < m.length) (h2 : j < 12) (h : ¬ (m.getD j []).length ≤ lim) : smallN lim m = false := by
  unfold smallN
  rw [List.all_eq_false.2 ⟨j, List.mem_range.2 (by omega), by simpa using h⟩, Bool.false_and]
theorem smallN_long {lim : Nat} {m : List (List Int)} (h : 12 < m.length) : smallN lim m = false := by
  unfold smallN
  rw [show decide (m.length ≤ 12) = false by simp; omega, Bool.and_false]
theorem smallN_yes {lim : Nat} {m : List (List Int)} (h : m.length ≤ 12) (hq : ∀ q, q < m.length → (m.getD q []).length ≤ lim) : smallN lim m = true := by
  unfold smallN
  rw [Bool.and_eq_true]
  refine ⟨List.all_eq_true.2 fun x hx => ?_, by simpa using h⟩
  have := List.mem_range.1 hx
  simpa using hq x (by omega)
set_option maxHeartbeats 1000000 in
set_option maxRecDepth 100000 in
theorem small_b (m : List (List Int)) (v : Value) (w : World) (hv : MatIn w m v) : Calls Try.prog 26 #[v] w fun e w' => e = .returned (.bool (smallN 12 m)) ∧ w = w' := by
  obtain ⟨a, ca, rfl, hin, hal, _⟩ := hv
  go_enter Try.func26, Try.ntmps26
  go_wp2_with fail
  go_loop [3] (fun i => ∃ j : Nat, i = .int .i64 j ∧ j ≤ m.length ∧ j ≤ 12 ∧ ∀ q, q < j → (m.getD q []).length ≤ 12) (fun i => m.length - (intOf i).toNat)
  case atStart => exact ⟨0, rfl, Nat.zero_le _, Nat.zero_le _, fun _ h => absurd h (Nat.not_lt_zero _)⟩
  case round =>
    obtain ⟨j, rfl, hj, hj12, hok⟩ := hrel
    have Hok := Lib.hid hok
    clear hok
    by_cases hlt : j < m.length
    · have w4 : (j : Int) < (m.length : Int) := by omega
      by_cases h12 : (j : Int) < 12
      · obtain ⟨ba, off, u, rfl, hc, hu⟩ := hin j hlt
        obtain ⟨p, hp⟩ : ∃ p, m.getD j [] = p := ⟨_, rfl⟩
        rw [hp] at hu
        obtain ⟨au, cu, rfl, _, _, _⟩ := hu
        have Hp := Lib.hid hp
        clear hp
        by_cases hb : (12 : Int) < (p.length : Int)
        · go_wp2_with fail
          go_ret
          refine ⟨ret_bool (smallN_no (j := j) hlt (by omega) ?_).symm, rfl⟩
          rw [Hp.out]; omega
        · go_wp2_with fail
          go_round
          case rel =>
            refine ⟨j + 1, by go_num, by omega, by omega, fun q hq => ?_⟩
            by_cases ej : q = j
            · subst ej; rw [Hp.out]; omega
            · exact Hok.out q (by omega)
          case measure => simp [intOf]; omega
      · by_cases hl : (m.length : Int) ≤ 12
        · omega
        · go_wp2_with fail
          go_ret
          exact ⟨ret_bool (smallN_long (by omega)).symm, rfl⟩
    · have w4 : ¬ (j : Int) < (m.length : Int) := by omega
      by_cases hl : (m.length : Int) ≤ 12
      · go_wp2_with fail
        go_ret
        exact ⟨ret_bool (smallN_yes (by omega) fun q hq => Hok.out q (by omega)).symm, rfl⟩
      · go_wp2_with fail
        go_ret
        exact ⟨ret_bool (smallN_long (by omega)).symm, rfl⟩
set_option maxHeartbeats 1000000 in
set_option maxRecDepth 100000 in
theorem light_b (m : List (List Int)) (v : Value) (w : World) (hv : MatIn w m v) : Calls Try.prog 27 #[v] w fun e w' => e = .returned (.bool (smallN 300 m)) ∧ w = w' := by
  obtain ⟨a, ca, rfl, hin, hal, _⟩ := hv
  go_enter Try.func27, Try.ntmps27
  go_wp2_with fail
  go_loop [3] (fun i => ∃ j : Nat, i = .int .i64 j ∧ j ≤ m.length ∧ j ≤ 12 ∧ ∀ q, q < j → (m.getD q []).length ≤ 300) (fun i => m.length - (intOf i).toNat)
  case atStart => exact ⟨0, rfl, Nat.zero_le _, Nat.zero_le _, fun _ h => absurd h (Nat.not_lt_zero _)⟩
  case round =>
    obtain ⟨j, rfl, hj, hj12, hok⟩ := hrel
    have Hok := Lib.hid hok
    clear hok
    by_cases hlt : j < m.length
    · have w4 : (j : Int) < (m.length : Int) := by omega
      by_cases h12 : (j : Int) < 12
      · obtain ⟨ba, off, u, rfl, hc, hu⟩ := hin j hlt
        obtain ⟨p, hp⟩ : ∃ p, m.getD j [] = p := ⟨_, rfl⟩
        rw [hp] at hu
        obtain ⟨au, cu, rfl, _, _, _⟩ := hu
        have Hp := Lib.hid hp
        clear hp
        by_cases hb : (300 : Int) < (p.length : Int)
        · go_wp2_with fail
          go_ret
          refine ⟨ret_bool (smallN_no (j := j) hlt (by omega) ?_).symm, rfl⟩
          rw [Hp.out]; omega
        · go_wp2_with fail
          go_round
          case rel =>
            refine ⟨j + 1, by go_num, by omega, by omega, fun q hq => ?_⟩
            by_cases ej : q = j
            · subst ej; rw [Hp.out]; omega
            · exact Hok.out q (by omega)
          case measure => simp [intOf]; omega
      · by_cases hl : (m.length : Int) ≤ 12
        · omega
        · go_wp2_with fail
          go_ret
          exact ⟨ret_bool (smallN_long (by omega)).symm, rfl⟩
    · have w4 : ¬ (j : Int) < (m.length : Int) := by omega
      by_cases hl : (m.length : Int) ≤ 12
      · go_wp2_with fail
        go_ret
        exact ⟨ret_bool (smallN_yes (by omega) fun q hq => Hok.out q (by omega)).symm, rfl⟩
      · go_wp2_with fail
        go_ret
        exact ⟨ret_bool (smallN_long (by omega)).symm, rfl⟩
end Go.Proofs.Ytpjmiiejmkgmdaa
