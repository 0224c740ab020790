/- Valid matrices and blocks: the program's, as a whole. -/
import Derived.Test.YtegomicpolnpoaaEA
import Derived.Test.YtegomicpolnpoaaAB
namespace Go.Proofs.Ytegomicpolnpoaa
open Go.RowKit

theorem len_pos_of_ch {n : Nat} (h : chB n = true) : 0 < n := by have := chB_t h; omega
theorem ch_of_small {n : Nat} (h1 : 1 ≤ n) (h2 : n ≤ 8) : chB n = true := by simp [chB]; omega

end Go.Proofs.Ytegomicpolnpoaa
