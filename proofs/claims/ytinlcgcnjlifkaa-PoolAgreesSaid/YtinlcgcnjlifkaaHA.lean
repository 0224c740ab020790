/- What every text of this seat uses. -/
import Derived.Test.YtinlcgcnjlifkaaFA
import Derived.Test.YtinlcgcnjlifkaaBB
import Derived.Test.YtinlcgcnjlifkaaNI
import Derived.RangeFuncCalls
import Derived.RangeFuncNested
import Derived.Shelf.Abstract
import Derived.Defers
import Derived.Recover
import Derived.Laws.Pointers
import Derived.Deep.Heap
namespace Go.Proofs.Ytinlcgcnjlifkaa
open Go.RowKit Go.Shelf Go.Deep

/-- The cell of a boxed variable. -/
abbrev at0 (B : Nat) : Value := .pointer (some ⟨B, 0, none⟩)
theorem makes (fn : Fn) (first cap : Array Value) (w : World) : (Instr.makeFunc fn first cap).run Try.prog w = .ok (.func fn first cap) w := rfl
end Go.Proofs.Ytinlcgcnjlifkaa
