/-
  NARROWER THAN 'FOR EVERY INPUT', by the rows' own cells (each row's printed sentence says how): ValueValid: loops, laid · ValueReads: laid · ValueBack: loops, laid · ValueMerges: loops, laid · ValueTimes: loops, laid.
  DERIVED. THE GIVEN ROWS OF THIS SEAT. 5 by the template 'for every input the law returns true; each argument reads behind the call as it read before'; 0 by the template 'total and deterministic' (their statements: YtfbeeaibejggdaaDoorTotals.lean).
  GIVEN WITH THE SEED: the statements are not yours to turn. If you find one false, say at which input.
  Laid BY PROGRAM, IN A SANDBOX (cutbox-rows.mjs): the forced cells as the released guide's own fill.sh prints them over the translation a8727868abb54b2d… (all of the seat's roots in one cut). By AI agents, Wed Nov 11 2026. No macro, syntax, notation, axiom, sorry.
-/
import Derived.Test.YtfbeeaibejggdaaDoorChecked
import GoSem.Claim
import GoSem.ClaimJoined
import GoSem.ClaimMapViews
import Derived.JoinedTies
import Derived.KernelRfl
namespace Go.Proofs.YtfbeeaibejggdaaDoor
/- THE CELL 'sum', in the pinned program and in every row, IS THE sha256 OF THE DUMP (.gsa) THAT YtfbeeaibejggdaaDoorProg.lean LOADS. Nothing in Lean hashes anything: it is a label: what it is worth is what the hold of that sum in a sandbox is worth. -/
noncomputable def Tryd.pinned : Pinned := { name := "ytfbeeaibejggdaadoor", sum := "a8727868abb54b2dd48a14c6097160e3c86f3096c477177e42aecf8f06a63ab4", checked := Tryd.checked }
namespace Rows
def none {H : Type} : Left H := { results := [], args := [] }

/- WHAT THE LISTED PACKAGE-LEVEL VARIABLES READ AS WHEN THE CALL BEGINS. Each datum BY PROGRAM (the guide's laid-datum.mjs) off the statement by which the dump's own 'gosem.cut.vars' lays the variable. In a bare row this is a premise. The card (YtfbeeaibejggdaaDoorCards.lean) ties it to the program's text. -/
def laid_continuo_value_has {H : Type} : DataW H := .agg [.agg [.lit (.bool false), .lit (.bool false), .lit (.bool false), .lit (.bool false)], .agg [.lit (.bool false), .lit (.bool false), .lit (.bool false), .lit (.bool false)], .agg [.lit (.bool true), .lit (.bool false), .lit (.bool false), .lit (.bool false)], .agg [.lit (.bool true), .lit (.bool false), .lit (.bool false), .lit (.bool false)], .agg [.lit (.bool false), .lit (.bool true), .lit (.bool false), .lit (.bool false)], .agg [.lit (.bool false), .lit (.bool true), .lit (.bool false), .lit (.bool false)], .agg [.lit (.bool false), .lit (.bool false), .lit (.bool false), .lit (.bool true)], .agg [.lit (.bool false), .lit (.bool false), .lit (.bool false), .lit (.bool true)], .agg [.lit (.bool true), .lit (.bool false), .lit (.bool true), .lit (.bool true)], .agg [.lit (.bool true), .lit (.bool false), .lit (.bool false), .lit (.bool true)], .agg [.lit (.bool false), .lit (.bool false), .lit (.bool true), .lit (.bool true)]]

/-- 'continuolaw01.ValueValid': WHATEVER THE INPUT: true; the input reads as it did. -/
def valueValidSpec : ChangeSpec := { name := "valueValid", fn := fun _ => fun
  | [d1, d2] => { results := [.lit (.bool true)], args := [d1, d2] }
  | _ => none }
def valueValidRow : OpenClaim := { program := "ytfbeeaibejggdaadoor", sum := "a8727868abb54b2dd48a14c6097160e3c86f3096c477177e42aecf8f06a63ab4", func := "continuo/continuolaw01.ValueValid", spec := "valueValid", inPlace := ["internal/bytealg.IndexByteString"], unfollowed := true, recurses := true, named := ["continuo/value.has"], loops := true, apart := false, laid := [("continuo/value.has", laid_continuo_value_has)] }
def ValueValidSaid : Prop := valueValidRow.holds Tryd.pinned (OpenSpec.ofChange valueValidSpec)

/-- ITS FALSE NEIGHBOUR: 'it returns false'. Refute it at one input. -/
def valueValidWrong : ChangeSpec := { name := "valueValid", fn := fun _ => fun
  | [d1, d2] => { results := [.lit (.bool false)], args := [d1, d2] }
  | _ => none }
def ValueValidWrongFalsely : Prop := valueValidRow.holds Tryd.pinned (OpenSpec.ofChange valueValidWrong)

/-- 'continuolaw01.ValueReads': WHATEVER THE INPUT: true; the input reads as it did. -/
def valueReadsSpec : ChangeSpec := { name := "valueReads", fn := fun _ => fun
  | [d] => { results := [.lit (.bool true)], args := [d] }
  | _ => none }
def valueReadsRow : OpenClaim := { program := "ytfbeeaibejggdaadoor", sum := "a8727868abb54b2dd48a14c6097160e3c86f3096c477177e42aecf8f06a63ab4", func := "continuo/continuolaw01.ValueReads", spec := "valueReads", inPlace := ["internal/bytealg.IndexByteString"], unfollowed := true, recurses := true, named := ["continuo/value.has"], apart := false, laid := [("continuo/value.has", laid_continuo_value_has)] }
def ValueReadsSaid : Prop := valueReadsRow.holds Tryd.pinned (OpenSpec.ofChange valueReadsSpec)

/-- ITS FALSE NEIGHBOUR: 'it returns false'. Refute it at one input. -/
def valueReadsWrong : ChangeSpec := { name := "valueReads", fn := fun _ => fun
  | [d] => { results := [.lit (.bool false)], args := [d] }
  | _ => none }
def ValueReadsWrongFalsely : Prop := valueReadsRow.holds Tryd.pinned (OpenSpec.ofChange valueReadsWrong)

/-- 'continuolaw01.ValueBack': WHATEVER THE INPUT: true; the input reads as it did. -/
def valueBackSpec : ChangeSpec := { name := "valueBack", fn := fun _ => fun
  | [d1, d2, d3] => { results := [.lit (.bool true)], args := [d1, d2, d3] }
  | _ => none }
def valueBackRow : OpenClaim := { program := "ytfbeeaibejggdaadoor", sum := "a8727868abb54b2dd48a14c6097160e3c86f3096c477177e42aecf8f06a63ab4", func := "continuo/continuolaw01.ValueBack", spec := "valueBack", inPlace := ["internal/bytealg.IndexByteString"], unfollowed := true, recurses := true, named := ["continuo/value.has"], loops := true, apart := false, laid := [("continuo/value.has", laid_continuo_value_has)] }
def ValueBackSaid : Prop := valueBackRow.holds Tryd.pinned (OpenSpec.ofChange valueBackSpec)

/-- ITS FALSE NEIGHBOUR: 'it returns false'. Refute it at one input. -/
def valueBackWrong : ChangeSpec := { name := "valueBack", fn := fun _ => fun
  | [d1, d2, d3] => { results := [.lit (.bool false)], args := [d1, d2, d3] }
  | _ => none }
def ValueBackWrongFalsely : Prop := valueBackRow.holds Tryd.pinned (OpenSpec.ofChange valueBackWrong)

/-- 'continuolaw01.ValueMerges': WHATEVER THE INPUT: true; the input reads as it did. -/
def valueMergesSpec : ChangeSpec := { name := "valueMerges", fn := fun _ => fun
  | [d1, d2] => { results := [.lit (.bool true)], args := [d1, d2] }
  | _ => none }
def valueMergesRow : OpenClaim := { program := "ytfbeeaibejggdaadoor", sum := "a8727868abb54b2dd48a14c6097160e3c86f3096c477177e42aecf8f06a63ab4", func := "continuo/continuolaw01.ValueMerges", spec := "valueMerges", inPlace := ["internal/bytealg.IndexByteString"], unfollowed := true, recurses := true, named := ["continuo/value.has"], loops := true, apart := false, laid := [("continuo/value.has", laid_continuo_value_has)] }
def ValueMergesSaid : Prop := valueMergesRow.holds Tryd.pinned (OpenSpec.ofChange valueMergesSpec)

/-- ITS FALSE NEIGHBOUR: 'it returns false'. Refute it at one input. -/
def valueMergesWrong : ChangeSpec := { name := "valueMerges", fn := fun _ => fun
  | [d1, d2] => { results := [.lit (.bool false)], args := [d1, d2] }
  | _ => none }
def ValueMergesWrongFalsely : Prop := valueMergesRow.holds Tryd.pinned (OpenSpec.ofChange valueMergesWrong)

/-- 'continuolaw01.ValueTimes': WHATEVER THE INPUT: true; the input reads as it did. -/
def valueTimesSpec : ChangeSpec := { name := "valueTimes", fn := fun _ => fun
  | [d1, d2, d3, d4] => { results := [.lit (.bool true)], args := [d1, d2, d3, d4] }
  | _ => none }
def valueTimesRow : OpenClaim := { program := "ytfbeeaibejggdaadoor", sum := "a8727868abb54b2dd48a14c6097160e3c86f3096c477177e42aecf8f06a63ab4", func := "continuo/continuolaw01.ValueTimes", spec := "valueTimes", inPlace := ["internal/bytealg.IndexByteString"], unfollowed := true, recurses := true, named := ["continuo/value.has"], loops := true, apart := false, laid := [("continuo/value.has", laid_continuo_value_has)] }
def ValueTimesSaid : Prop := valueTimesRow.holds Tryd.pinned (OpenSpec.ofChange valueTimesSpec)

/-- ITS FALSE NEIGHBOUR: 'it returns false'. Refute it at one input. -/
def valueTimesWrong : ChangeSpec := { name := "valueTimes", fn := fun _ => fun
  | [d1, d2, d3, d4] => { results := [.lit (.bool false)], args := [d1, d2, d3, d4] }
  | _ => none }
def ValueTimesWrongFalsely : Prop := valueTimesRow.holds Tryd.pinned (OpenSpec.ofChange valueTimesWrong)

/- THE SECOND FORM. 'bulk': how many values and letters a reading holds, each counted each time it is reached (what is shared counts as often as it is met; a slice's spare places count too). A statement '..UptoSaid' is the law's where the arguments, and the package variables that the reading takes, are together of bulk at most 1048576: NARROWER than '..Said'. Prove '..Said' where nothing that the law and all that it calls make is longer than what came in: it says more and counts as full. Else prove '..UptoSaid'. A law counts once. -/
mutual
def uptoBulk {H : Type} : DataW H → Nat
  | .lit (.string bytes) => bytes.length + 1
  | .lit _ => 1
  | .nil => 1
  | .ptr d => uptoBulk d + 1
  | .slice elems spare => uptoBulkAll elems + uptoBulkAll spare + 1
  | .agg parts => uptoBulkAll parts + 1
  | .iface _ d => uptoBulk d + 1
  | .map entries => uptoBulkEntries entries + 1
  | .held _ => 1
def uptoBulkAll {H : Type} : List (DataW H) → Nat
  | [] => 0
  | d :: r => uptoBulk d + uptoBulkAll r
def uptoBulkEntries {H : Type} : List (Lit × DataW H) → Nat
  | [] => 0
  | x :: r => uptoBulkEntry x + uptoBulkEntries r
def uptoBulkEntry {H : Type} : Lit × DataW H → Nat
  | (.string bytes, d) => bytes.length + uptoBulk d + 1
  | (_, d) => uptoBulk d + 1
 end
def uptoSmall : (H : Type) → List (DataW H) → Bool := fun _ ds => decide (uptoBulkAll ds ≤ 1048576)
def OpenSpec.upto (s : _root_.Go.ChangeSpec) : _root_.Go.OpenSpec := { _root_.Go.OpenSpec.ofChange s with cond := some uptoSmall }

/-- 'continuolaw01.ValueValid', WHERE WHAT IT READS IS OF BULK AT MOST 1048576: true; the input reads as it did. -/
def valueValidUptoRow : OpenClaim := { program := "ytfbeeaibejggdaadoor", sum := "a8727868abb54b2dd48a14c6097160e3c86f3096c477177e42aecf8f06a63ab4", func := "continuo/continuolaw01.ValueValid", spec := "valueValid", inPlace := ["internal/bytealg.IndexByteString"], unfollowed := true, recurses := true, named := ["continuo/value.has"], loops := true, apart := false, laid := [("continuo/value.has", laid_continuo_value_has)], narrowed := true }
def ValueValidUptoSaid : Prop := valueValidUptoRow.holds Tryd.pinned (OpenSpec.upto valueValidSpec)

/-- 'continuolaw01.ValueReads', WHERE WHAT IT READS IS OF BULK AT MOST 1048576: true; the input reads as it did. -/
def valueReadsUptoRow : OpenClaim := { program := "ytfbeeaibejggdaadoor", sum := "a8727868abb54b2dd48a14c6097160e3c86f3096c477177e42aecf8f06a63ab4", func := "continuo/continuolaw01.ValueReads", spec := "valueReads", inPlace := ["internal/bytealg.IndexByteString"], unfollowed := true, recurses := true, named := ["continuo/value.has"], apart := false, laid := [("continuo/value.has", laid_continuo_value_has)], narrowed := true }
def ValueReadsUptoSaid : Prop := valueReadsUptoRow.holds Tryd.pinned (OpenSpec.upto valueReadsSpec)

/-- 'continuolaw01.ValueBack', WHERE WHAT IT READS IS OF BULK AT MOST 1048576: true; the input reads as it did. -/
def valueBackUptoRow : OpenClaim := { program := "ytfbeeaibejggdaadoor", sum := "a8727868abb54b2dd48a14c6097160e3c86f3096c477177e42aecf8f06a63ab4", func := "continuo/continuolaw01.ValueBack", spec := "valueBack", inPlace := ["internal/bytealg.IndexByteString"], unfollowed := true, recurses := true, named := ["continuo/value.has"], loops := true, apart := false, laid := [("continuo/value.has", laid_continuo_value_has)], narrowed := true }
def ValueBackUptoSaid : Prop := valueBackUptoRow.holds Tryd.pinned (OpenSpec.upto valueBackSpec)

/-- 'continuolaw01.ValueMerges', WHERE WHAT IT READS IS OF BULK AT MOST 1048576: true; the input reads as it did. -/
def valueMergesUptoRow : OpenClaim := { program := "ytfbeeaibejggdaadoor", sum := "a8727868abb54b2dd48a14c6097160e3c86f3096c477177e42aecf8f06a63ab4", func := "continuo/continuolaw01.ValueMerges", spec := "valueMerges", inPlace := ["internal/bytealg.IndexByteString"], unfollowed := true, recurses := true, named := ["continuo/value.has"], loops := true, apart := false, laid := [("continuo/value.has", laid_continuo_value_has)], narrowed := true }
def ValueMergesUptoSaid : Prop := valueMergesUptoRow.holds Tryd.pinned (OpenSpec.upto valueMergesSpec)

/-- 'continuolaw01.ValueTimes', WHERE WHAT IT READS IS OF BULK AT MOST 1048576: true; the input reads as it did. -/
def valueTimesUptoRow : OpenClaim := { program := "ytfbeeaibejggdaadoor", sum := "a8727868abb54b2dd48a14c6097160e3c86f3096c477177e42aecf8f06a63ab4", func := "continuo/continuolaw01.ValueTimes", spec := "valueTimes", inPlace := ["internal/bytealg.IndexByteString"], unfollowed := true, recurses := true, named := ["continuo/value.has"], loops := true, apart := false, laid := [("continuo/value.has", laid_continuo_value_has)], narrowed := true }
def ValueTimesUptoSaid : Prop := valueTimesUptoRow.holds Tryd.pinned (OpenSpec.upto valueTimesSpec)

end Rows
end Go.Proofs.YtfbeeaibejggdaaDoor
