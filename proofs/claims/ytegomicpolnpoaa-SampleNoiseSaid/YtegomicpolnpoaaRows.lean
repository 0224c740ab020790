/-
  No cell of these rows narrows 'for every input' (looked for: loops, veiled, ifaces, maps, wideKeys, modest, calm, conditions, laid).
  DERIVED. THE GIVEN ROWS OF THIS SEAT. 7 by the template 'for every input the law returns true; each argument reads behind the call as it read before'; 0 by the template 'total and deterministic' (their statements: YtegomicpolnpoaaTotals.lean).
  GIVEN WITH THE SEED: the statements are not yours to turn. If you find one false, say at which input.
  Laid BY PROGRAM, IN A SANDBOX (cutbox-rows.mjs): the forced cells as the released guide's own fill.sh prints them over the translation 338425461f63d8e1… (all of the seat's roots in one cut). By AI agents, Wed Nov 11 2026. No macro, syntax, notation, axiom, sorry.
-/
import Derived.Test.YtegomicpolnpoaaChecked
import GoSem.Claim
import GoSem.ClaimJoined
import GoSem.ClaimMapViews
import Derived.JoinedTies
import Derived.KernelRfl
namespace Go.Proofs.Ytegomicpolnpoaa
/- THE CELL 'sum', in the pinned program and in every row, IS THE sha256 OF THE DUMP (.gsa) THAT YtegomicpolnpoaaProg.lean LOADS. Nothing in Lean hashes anything: it is a label: what it is worth is what the hold of that sum in a sandbox is worth. -/
noncomputable def Try.pinned : Pinned := { name := "ytegomicpolnpoaa", sum := "338425461f63d8e13e9d2ae411164d3888bb65cec2bc2045dc9846bac3ae8478", checked := Try.checked }
namespace Rows
def none {H : Type} : Left H := { results := [], args := [] }

/-- 'continuolaw04.SampleLevels': WHATEVER THE INPUT: true; the input reads as it did. -/
def sampleLevelsSpec : ChangeSpec := { name := "sampleLevels", fn := fun _ => fun
  | [d1, d2, d3, d4] => { results := [.lit (.bool true)], args := [d1, d2, d3, d4] }
  | _ => none }
def sampleLevelsRow : OpenClaim := { program := "ytegomicpolnpoaa", sum := "338425461f63d8e13e9d2ae411164d3888bb65cec2bc2045dc9846bac3ae8478", func := "continuo/continuolaw04.SampleLevels", spec := "sampleLevels", unfollowed := true, recurses := true, apart := false }
def SampleLevelsSaid : Prop := sampleLevelsRow.holds Try.pinned (OpenSpec.ofChange sampleLevelsSpec)

/-- ITS FALSE NEIGHBOUR: 'it returns false'. Refute it at one input. -/
def sampleLevelsWrong : ChangeSpec := { name := "sampleLevels", fn := fun _ => fun
  | [d1, d2, d3, d4] => { results := [.lit (.bool false)], args := [d1, d2, d3, d4] }
  | _ => none }
def SampleLevelsWrongFalsely : Prop := sampleLevelsRow.holds Try.pinned (OpenSpec.ofChange sampleLevelsWrong)

/-- 'continuolaw04.SampleBlocks': WHATEVER THE INPUT: true; the input reads as it did. -/
def sampleBlocksSpec : ChangeSpec := { name := "sampleBlocks", fn := fun _ => fun
  | [d1, d2, d3] => { results := [.lit (.bool true)], args := [d1, d2, d3] }
  | _ => none }
def sampleBlocksRow : OpenClaim := { program := "ytegomicpolnpoaa", sum := "338425461f63d8e13e9d2ae411164d3888bb65cec2bc2045dc9846bac3ae8478", func := "continuo/continuolaw04.SampleBlocks", spec := "sampleBlocks", unfollowed := true, recurses := true, apart := false }
def SampleBlocksSaid : Prop := sampleBlocksRow.holds Try.pinned (OpenSpec.ofChange sampleBlocksSpec)

/-- ITS FALSE NEIGHBOUR: 'it returns false'. Refute it at one input. -/
def sampleBlocksWrong : ChangeSpec := { name := "sampleBlocks", fn := fun _ => fun
  | [d1, d2, d3] => { results := [.lit (.bool false)], args := [d1, d2, d3] }
  | _ => none }
def SampleBlocksWrongFalsely : Prop := sampleBlocksRow.holds Try.pinned (OpenSpec.ofChange sampleBlocksWrong)

/-- 'continuolaw04.SampleBytes': WHATEVER THE INPUT: true; the input reads as it did. -/
def sampleBytesSpec : ChangeSpec := { name := "sampleBytes", fn := fun _ => fun
  | [d1, d2, d3, d4] => { results := [.lit (.bool true)], args := [d1, d2, d3, d4] }
  | _ => none }
def sampleBytesRow : OpenClaim := { program := "ytegomicpolnpoaa", sum := "338425461f63d8e13e9d2ae411164d3888bb65cec2bc2045dc9846bac3ae8478", func := "continuo/continuolaw04.SampleBytes", spec := "sampleBytes", unfollowed := true, recurses := true, apart := false }
def SampleBytesSaid : Prop := sampleBytesRow.holds Try.pinned (OpenSpec.ofChange sampleBytesSpec)

/-- ITS FALSE NEIGHBOUR: 'it returns false'. Refute it at one input. -/
def sampleBytesWrong : ChangeSpec := { name := "sampleBytes", fn := fun _ => fun
  | [d1, d2, d3, d4] => { results := [.lit (.bool false)], args := [d1, d2, d3, d4] }
  | _ => none }
def SampleBytesWrongFalsely : Prop := sampleBytesRow.holds Try.pinned (OpenSpec.ofChange sampleBytesWrong)

/-- 'continuolaw04.SampleDithers': WHATEVER THE INPUT: true; the input reads as it did. -/
def sampleDithersSpec : ChangeSpec := { name := "sampleDithers", fn := fun _ => fun
  | [d1, d2, d3, d4, d5, d6] => { results := [.lit (.bool true)], args := [d1, d2, d3, d4, d5, d6] }
  | _ => none }
def sampleDithersRow : OpenClaim := { program := "ytegomicpolnpoaa", sum := "338425461f63d8e13e9d2ae411164d3888bb65cec2bc2045dc9846bac3ae8478", func := "continuo/continuolaw04.SampleDithers", spec := "sampleDithers", unfollowed := true, recurses := true, apart := false }
def SampleDithersSaid : Prop := sampleDithersRow.holds Try.pinned (OpenSpec.ofChange sampleDithersSpec)

/-- ITS FALSE NEIGHBOUR: 'it returns false'. Refute it at one input. -/
def sampleDithersWrong : ChangeSpec := { name := "sampleDithers", fn := fun _ => fun
  | [d1, d2, d3, d4, d5, d6] => { results := [.lit (.bool false)], args := [d1, d2, d3, d4, d5, d6] }
  | _ => none }
def SampleDithersWrongFalsely : Prop := sampleDithersRow.holds Try.pinned (OpenSpec.ofChange sampleDithersWrong)

/-- 'continuolaw04.SampleNoise': WHATEVER THE INPUT: true; the input reads as it did. -/
def sampleNoiseSpec : ChangeSpec := { name := "sampleNoise", fn := fun _ => fun
  | [d1, d2, d3] => { results := [.lit (.bool true)], args := [d1, d2, d3] }
  | _ => none }
def sampleNoiseRow : OpenClaim := { program := "ytegomicpolnpoaa", sum := "338425461f63d8e13e9d2ae411164d3888bb65cec2bc2045dc9846bac3ae8478", func := "continuo/continuolaw04.SampleNoise", spec := "sampleNoise", unfollowed := true, recurses := true, apart := false }
def SampleNoiseSaid : Prop := sampleNoiseRow.holds Try.pinned (OpenSpec.ofChange sampleNoiseSpec)

/-- ITS FALSE NEIGHBOUR: 'it returns false'. Refute it at one input. -/
def sampleNoiseWrong : ChangeSpec := { name := "sampleNoise", fn := fun _ => fun
  | [d1, d2, d3] => { results := [.lit (.bool false)], args := [d1, d2, d3] }
  | _ => none }
def SampleNoiseWrongFalsely : Prop := sampleNoiseRow.holds Try.pinned (OpenSpec.ofChange sampleNoiseWrong)

/-- 'continuolaw04.SampleCuts': WHATEVER THE INPUT: true; the input reads as it did. -/
def sampleCutsSpec : ChangeSpec := { name := "sampleCuts", fn := fun _ => fun
  | [d1, d2, d3, d4] => { results := [.lit (.bool true)], args := [d1, d2, d3, d4] }
  | _ => none }
def sampleCutsRow : OpenClaim := { program := "ytegomicpolnpoaa", sum := "338425461f63d8e13e9d2ae411164d3888bb65cec2bc2045dc9846bac3ae8478", func := "continuo/continuolaw04.SampleCuts", spec := "sampleCuts", unfollowed := true, recurses := true, apart := false }
def SampleCutsSaid : Prop := sampleCutsRow.holds Try.pinned (OpenSpec.ofChange sampleCutsSpec)

/-- ITS FALSE NEIGHBOUR: 'it returns false'. Refute it at one input. -/
def sampleCutsWrong : ChangeSpec := { name := "sampleCuts", fn := fun _ => fun
  | [d1, d2, d3, d4] => { results := [.lit (.bool false)], args := [d1, d2, d3, d4] }
  | _ => none }
def SampleCutsWrongFalsely : Prop := sampleCutsRow.holds Try.pinned (OpenSpec.ofChange sampleCutsWrong)

/-- 'continuolaw04.SampleApart': WHATEVER THE INPUT: true; the input reads as it did. -/
def sampleApartSpec : ChangeSpec := { name := "sampleApart", fn := fun _ => fun
  | [d1, d2, d3, d4, d5] => { results := [.lit (.bool true)], args := [d1, d2, d3, d4, d5] }
  | _ => none }
def sampleApartRow : OpenClaim := { program := "ytegomicpolnpoaa", sum := "338425461f63d8e13e9d2ae411164d3888bb65cec2bc2045dc9846bac3ae8478", func := "continuo/continuolaw04.SampleApart", spec := "sampleApart", unfollowed := true, recurses := true, apart := false }
def SampleApartSaid : Prop := sampleApartRow.holds Try.pinned (OpenSpec.ofChange sampleApartSpec)

/-- ITS FALSE NEIGHBOUR: 'it returns false'. Refute it at one input. -/
def sampleApartWrong : ChangeSpec := { name := "sampleApart", fn := fun _ => fun
  | [d1, d2, d3, d4, d5] => { results := [.lit (.bool false)], args := [d1, d2, d3, d4, d5] }
  | _ => none }
def SampleApartWrongFalsely : Prop := sampleApartRow.holds Try.pinned (OpenSpec.ofChange sampleApartWrong)

/- THE SECOND FORM. 'bulk': how many values and letters a reading holds, each counted each time it is reached (what is shared counts as often as it is met; a slice's spare places count too). A statement '..UptoSaid' is the law's where the arguments, and the package variables that the reading takes, are together of bulk at most 1048576: NARROWER than '..Said'. Prove '..Said' where nothing that the law and all that it calls make is longer than what came in: it says more and counts as full. Else prove '..UptoSaid'. A law counts once. -/
mutual
def uptoBulk {H : Type} : DataW H → Nat
  | .lit (.string bytes) => bytes.length + 1
  | .lit _ => 1
  | .nil => 1
  | .ptr d => uptoBulk d + 1
  | .slice elems spare => uptoBulkAll elems + uptoBulkAll spare + 1
  | .agg parts => uptoBulkAll parts + 1
  | .iface _ d => uptoBulk d + 1
  | .map entries => uptoBulkEntries entries + 1
  | .held _ => 1
def uptoBulkAll {H : Type} : List (DataW H) → Nat
  | [] => 0
  | d :: r => uptoBulk d + uptoBulkAll r
def uptoBulkEntries {H : Type} : List (Lit × DataW H) → Nat
  | [] => 0
  | x :: r => uptoBulkEntry x + uptoBulkEntries r
def uptoBulkEntry {H : Type} : Lit × DataW H → Nat
  | (.string bytes, d) => bytes.length + uptoBulk d + 1
  | (_, d) => uptoBulk d + 1
 end
def uptoSmall : (H : Type) → List (DataW H) → Bool := fun _ ds => decide (uptoBulkAll ds ≤ 1048576)
def OpenSpec.upto (s : _root_.Go.ChangeSpec) : _root_.Go.OpenSpec := { _root_.Go.OpenSpec.ofChange s with cond := some uptoSmall }

/-- 'continuolaw04.SampleLevels', WHERE WHAT IT READS IS OF BULK AT MOST 1048576: true; the input reads as it did. -/
def sampleLevelsUptoRow : OpenClaim := { program := "ytegomicpolnpoaa", sum := "338425461f63d8e13e9d2ae411164d3888bb65cec2bc2045dc9846bac3ae8478", func := "continuo/continuolaw04.SampleLevels", spec := "sampleLevels", unfollowed := true, recurses := true, apart := false, narrowed := true }
def SampleLevelsUptoSaid : Prop := sampleLevelsUptoRow.holds Try.pinned (OpenSpec.upto sampleLevelsSpec)

/-- 'continuolaw04.SampleBlocks', WHERE WHAT IT READS IS OF BULK AT MOST 1048576: true; the input reads as it did. -/
def sampleBlocksUptoRow : OpenClaim := { program := "ytegomicpolnpoaa", sum := "338425461f63d8e13e9d2ae411164d3888bb65cec2bc2045dc9846bac3ae8478", func := "continuo/continuolaw04.SampleBlocks", spec := "sampleBlocks", unfollowed := true, recurses := true, apart := false, narrowed := true }
def SampleBlocksUptoSaid : Prop := sampleBlocksUptoRow.holds Try.pinned (OpenSpec.upto sampleBlocksSpec)

/-- 'continuolaw04.SampleBytes', WHERE WHAT IT READS IS OF BULK AT MOST 1048576: true; the input reads as it did. -/
def sampleBytesUptoRow : OpenClaim := { program := "ytegomicpolnpoaa", sum := "338425461f63d8e13e9d2ae411164d3888bb65cec2bc2045dc9846bac3ae8478", func := "continuo/continuolaw04.SampleBytes", spec := "sampleBytes", unfollowed := true, recurses := true, apart := false, narrowed := true }
def SampleBytesUptoSaid : Prop := sampleBytesUptoRow.holds Try.pinned (OpenSpec.upto sampleBytesSpec)

/-- 'continuolaw04.SampleDithers', WHERE WHAT IT READS IS OF BULK AT MOST 1048576: true; the input reads as it did. -/
def sampleDithersUptoRow : OpenClaim := { program := "ytegomicpolnpoaa", sum := "338425461f63d8e13e9d2ae411164d3888bb65cec2bc2045dc9846bac3ae8478", func := "continuo/continuolaw04.SampleDithers", spec := "sampleDithers", unfollowed := true, recurses := true, apart := false, narrowed := true }
def SampleDithersUptoSaid : Prop := sampleDithersUptoRow.holds Try.pinned (OpenSpec.upto sampleDithersSpec)

/-- 'continuolaw04.SampleNoise', WHERE WHAT IT READS IS OF BULK AT MOST 1048576: true; the input reads as it did. -/
def sampleNoiseUptoRow : OpenClaim := { program := "ytegomicpolnpoaa", sum := "338425461f63d8e13e9d2ae411164d3888bb65cec2bc2045dc9846bac3ae8478", func := "continuo/continuolaw04.SampleNoise", spec := "sampleNoise", unfollowed := true, recurses := true, apart := false, narrowed := true }
def SampleNoiseUptoSaid : Prop := sampleNoiseUptoRow.holds Try.pinned (OpenSpec.upto sampleNoiseSpec)

/-- 'continuolaw04.SampleCuts', WHERE WHAT IT READS IS OF BULK AT MOST 1048576: true; the input reads as it did. -/
def sampleCutsUptoRow : OpenClaim := { program := "ytegomicpolnpoaa", sum := "338425461f63d8e13e9d2ae411164d3888bb65cec2bc2045dc9846bac3ae8478", func := "continuo/continuolaw04.SampleCuts", spec := "sampleCuts", unfollowed := true, recurses := true, apart := false, narrowed := true }
def SampleCutsUptoSaid : Prop := sampleCutsUptoRow.holds Try.pinned (OpenSpec.upto sampleCutsSpec)

/-- 'continuolaw04.SampleApart', WHERE WHAT IT READS IS OF BULK AT MOST 1048576: true; the input reads as it did. -/
def sampleApartUptoRow : OpenClaim := { program := "ytegomicpolnpoaa", sum := "338425461f63d8e13e9d2ae411164d3888bb65cec2bc2045dc9846bac3ae8478", func := "continuo/continuolaw04.SampleApart", spec := "sampleApart", unfollowed := true, recurses := true, apart := false, narrowed := true }
def SampleApartUptoSaid : Prop := sampleApartUptoRow.holds Try.pinned (OpenSpec.upto sampleApartSpec)

end Rows
end Go.Proofs.Ytegomicpolnpoaa
