/- Valid blocks: the program's. -/
import Derived.Test.YtegomicpolnpoaaEB
namespace Go.Proofs.Ytegomicpolnpoaa
open Go.RowKit

set_option maxHeartbeats 1000000 in
set_option maxRecDepth 100000 in
theorem validBlock_any (m : List (List Int)) (v : Value) (w : World) (hv : MatIn w m v) :
    Calls Try.prog 68 #[v] w fun e w' => e = .returned (.bool (validB m)) ∧ w = w' := by
  obtain ⟨a, ca, rfl, hin, hal, _⟩ := hv
  have h57 := isChannels_any m.length w
  cases hc : chB m.length with
  | false =>
    rw [hc] at h57
    have hb : validB m = false := by simp [validB, hc]
    rw [hb]
    clear hc hb
    go_enter Try.func68, Try.ntmps68
    go_wp2_with (go_at_call 106; refine h57.mono ?_; rintro e w1 ⟨rfl, rfl⟩)
    go_ret
    exact ⟨rfl, rfl⟩
  | true =>
    rw [hc] at h57
    have hpos := len_pos_of_ch hc
    have hin0 := hin 0 hpos
    obtain ⟨b0, o0, u0, rfl, hc0, a0, c0, rfl, _, _, _⟩ := hin0
    have h57b := isFrames_any (cols m) w
    have hposI : (0 : Int) < (m.length : Int) := by omega
    simp only [Nat.add_zero] at hc0
    change w.cell? _ = some (Value.slice a0 (cols m) c0) at hc0
    cases hc' : frB (cols m) with
    | false =>
      rw [hc'] at h57b
      have hb : validB m = false := by simp [validB, hc']
      rw [hb]
      clear hc hc' hb
      obtain ⟨C, hC⟩ : ∃ C, cols m = C := ⟨_, rfl⟩
      rw [hC] at h57b hc0
      clear hC
      go_enter Try.func68, Try.ntmps68
      go_wp2_with (first | (go_at_call 106; (with_reducible refine h57.mono ?_); rintro e w1 ⟨rfl, rfl⟩) | (go_at_call 107; (with_reducible refine h57b.mono ?_); rintro e w1 ⟨rfl, rfl⟩))
      go_ret
      exact ⟨rfl, rfl⟩
    | true =>
      rw [hc'] at h57b
      have hb : validB m = m.all (rowOk 8388607 (cols m)) := by simp [validB, hc, hc']
      rw [hb]
      clear hc hc' hb
      obtain ⟨C, hC⟩ : ∃ C, cols m = C := ⟨_, rfl⟩
      rw [hC] at h57b hc0 ⊢
      have HC := Lib.hid hC
      clear hC
      go_enter Try.func68, Try.ntmps68
      go_wp2_with (first | (go_at_call 106; (with_reducible refine h57.mono ?_); rintro e w1 ⟨rfl, rfl⟩) | (go_at_call 107; (with_reducible refine h57b.mono ?_); rintro e w1 ⟨rfl, rfl⟩))
      go_loop [19] (fun i => ∃ j : Nat, i = .int .i64 j ∧ j ≤ m.length ∧ (∀ q, q < j → rowOk 8388607 C (m.getD q []) = true)) (fun i => m.length - (intOf i).toNat)
      case atStart => exact ⟨0, rfl, Nat.zero_le _, fun _ h => absurd h (Nat.not_lt_zero _)⟩
      case round =>
        obtain ⟨j, rfl, hj, hok⟩ := hrel
        have Hok := Lib.hid hok
        clear hok
        by_cases hlt : j < m.length
        · obtain ⟨ba, off, u, hab, hcj, hu⟩ := hin j hlt
          simp only [Option.some.injEq, Addr.mk.injEq, and_true] at hab
          obtain ⟨rfl, rfl⟩ := hab
          have h66 := allWithin_any _ u 8388607 w hu (by omega) (by omega)
          obtain ⟨p, hp⟩ : ∃ p, m.getD j [] = p := ⟨_, rfl⟩
          rw [hp] at hu h66
          obtain ⟨aj, cj, rfl, _, _, _⟩ := hu
          have Hp := Lib.hid hp
          clear hp
          have w4 : (j : Int) < (m.length : Int) := by omega
          by_cases g1 : p.length = C
          · have e1 : ((p.length : Int) != (C : Int)) = false := by simp; omega
            have G1 := Lib.hid g1
            clear g1
            obtain ⟨sb, hsb⟩ : ∃ sb, within 8388607 p = sb := ⟨_, rfl⟩
            rw [hsb] at h66
            have Hsb := Lib.hid hsb
            clear hsb
            cases sb with
            | true =>
              go_wp2_with (go_at_call 108; (with_reducible refine h66.mono ?_); rintro e w1 ⟨rfl, rfl⟩)
              go_round
              case rel =>
                refine ⟨j + 1, by go_num, by omega, fun q hq => ?_⟩
                by_cases ej : q = j
                · subst ej; rw [Hp.out]; simp [rowOk, G1.out, Hsb.out]
                · exact Hok.out q (by omega)
              case measure => simp [intOf]; omega
            | false =>
              go_wp2_with (go_at_call 108; (with_reducible refine h66.mono ?_); rintro e w1 ⟨rfl, rfl⟩)
              go_ret
              refine ⟨ret_bool ?_, rfl⟩
              exact (all_no_at (d := []) hlt (by rw [Hp.out]; simp [rowOk, Hsb.out])).symm
          · have e1 : ((p.length : Int) != (C : Int)) = true := by simp; omega
            have G1 := Lib.hid g1
            clear g1 h66
            go_wp2_with fail
            go_ret
            refine ⟨ret_bool ?_, rfl⟩
            exact (all_no_at (d := []) hlt (by rw [Hp.out]; simp [rowOk, G1.out])).symm
        · have w4 : ¬ (j : Int) < (m.length : Int) := by omega
          go_wp2_with fail
          go_ret
          refine ⟨ret_bool ?_, rfl⟩
          exact (all_yes_of (d := []) fun q hq => Hok.out q (by omega)).symm
end Go.Proofs.Ytegomicpolnpoaa
