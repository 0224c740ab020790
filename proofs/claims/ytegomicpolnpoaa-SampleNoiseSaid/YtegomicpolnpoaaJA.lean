/- Light. -/
import Derived.Test.YtegomicpolnpoaaGB
namespace Go.Proofs.Ytegomicpolnpoaa
open Go.RowKit Go.Deep

/-- Some Bool comes back, and nothing has turned. -/
def SomeB (w : World) (e : Ending) (w2 : World) : Prop := ∃ sb : Bool, e = .returned (.bool sb) ∧ w = w2
set_option maxHeartbeats 1000000 in
set_option maxRecDepth 100000 in
theorem light_any (m : List (List Int)) (v : Value) (w : World) (hv : MatIn w m v) : Calls Try.prog 19 #[v] w (SomeB w) := by
  obtain ⟨a, ca, rfl, hin, hal, _⟩ := hv
  go_enter Try.func19, Try.ntmps19
  go_wp2_with fail
  go_loop [3] (fun i => ∃ j : Nat, i = .int .i64 j ∧ j ≤ m.length) (fun i => m.length - (intOf i).toNat)
  case atStart => exact ⟨0, rfl, Nat.zero_le _⟩
  case round =>
    obtain ⟨j, rfl, hj⟩ := hrel
    by_cases hlt : j < m.length
    · have w4 : (j : Int) < (m.length : Int) := by omega
      by_cases h12 : (j : Int) < 12
      · obtain ⟨ba, off, u, rfl, hc, hu⟩ := hin j hlt
        obtain ⟨p, hp⟩ : ∃ p, m.getD j [] = p := ⟨_, rfl⟩
        rw [hp] at hu
        obtain ⟨au, cu, rfl, _, _, _⟩ := hu
        clear hp
        by_cases hb : (300 : Int) < (p.length : Int)
        · go_wp2_with fail
          go_ret
          exact ⟨_, rfl, rfl⟩
        · go_wp2_with fail
          go_round
          case rel => exact ⟨j + 1, by go_num, by omega⟩
          case measure => simp [intOf]; omega
      · by_cases hl : (m.length : Int) ≤ 12
        · go_wp2_with fail
          go_ret
          exact ⟨_, rfl, rfl⟩
        · go_wp2_with fail
          go_ret
          exact ⟨_, rfl, rfl⟩
    · have w4 : ¬ (j : Int) < (m.length : Int) := by omega
      by_cases hl : (m.length : Int) ≤ 12
      · go_wp2_with fail
        go_ret
        exact ⟨_, rfl, rfl⟩
      · go_wp2_with fail
        go_ret
        exact ⟨_, rfl, rfl⟩
end Go.Proofs.Ytegomicpolnpoaa
