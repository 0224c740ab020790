/- What does not fit; rounding and bounds on both sides. -/
import Derived.Test.YtinlcgcnjlifkaaAA
namespace Go.Proofs.Ytinlcgcnjlifkaa
open Go.RowKit

theorem Below.then {B : Nat} {w w1 w2 : World} (h : Below B w w1) (hB : B ≤ w.heap.size) (h2 : Below w1.heap.size w1 w2) : Below B w w2 := h.trans (h2.mono (Nat.le_trans hB h.size))

/-- The panic of what does not fit. -/
def misfit (k : Int) : List PanicEntry := [{ v := .iface 69 (.agg #[.int .i64 k]), recovered := false }]
def LeavesX (k : Int) (w : World) (e : Ending) (w' : World) : Prop := e = .panicked (misfit k) ∧ Below w.heap.size w w'

theorem must_yes (k : Int) (w : World) : Calls Try.prog 17 #[.bool true, .int .i64 k] w fun e w' => e = .returned (.tuple #[]) ∧ w = w' := by
  go_enter Try.func17, Try.ntmps17
  go_wp2_with fail
  go_end0
  exact ⟨rfl, rfl⟩
theorem must_no (k : Int) (w : World) : Calls Try.prog 17 #[.bool false, .int .i64 k] w fun e w' => e = .panicked (misfit k) ∧ w = w' := by
  go_enter Try.func17, Try.ntmps17
  go_wp2_with fail
  exact ⟨rfl, rfl, rfl⟩

end Go.Proofs.Ytinlcgcnjlifkaa
