import Derived.Test.YtfbeeaibejggdaaDoorB3
namespace Go.Proofs.YtfbeeaibejggdaaDoor
open Go.RowKit

set_option maxHeartbeats 1000000 in
theorem inRange_any (n lo hi : Int) (b off len cap : Nat) (w : World) (hl : 2 ≤ len) (c0 : w.cell? ⟨b, off, none⟩ = some (.int .i64 lo)) (c1 : w.cell? ⟨b, off + 1, none⟩ = some (.int .i64 hi)) :
    Calls Tryd.prog 109 #[.int .i64 n, .slice (some ⟨b, off, none⟩) len cap] w fun e w' => e = .returned (.bool (decide (lo ≤ n) && decide (n ≤ hi))) ∧ w = w' := by
  have l0 : (0 : Int) < (len : Int) := by omega
  have l1 : (1 : Int) < (len : Int) := by omega
  by_cases h1 : lo ≤ n <;> by_cases h2 : n ≤ hi <;>
  · go_enter Tryd.func109, Tryd.ntmps109
    go_wp2_with fail
    go_ret
    exact ⟨ret_bool (by simp [*] <;> omega), rfl⟩

set_option maxHeartbeats 1000000 in
theorem onStep_any (d lo st : Int) (w : World) (h0 : 0 < st) (h1 : st ≤ 9223372036854775807) :
    Calls Tryd.prog 110 #[.int .i64 d, .int .i64 lo, .int .i64 st] w fun e w' => e = .returned (.bool (stepB d lo st)) ∧ w = w' := by
  have hu : IntKind.u64.wrap st = st := u64_pos (by omega) (by omega)
  have hu1 : st ≠ 0 := by omega
  go_enter Tryd.func110, Tryd.ntmps110
  go_wp2_with fail
  go_ret
  exact ⟨ret_bool (by unfold stepB; rw [hu]), rfl⟩
end Go.Proofs.YtfbeeaibejggdaaDoor
