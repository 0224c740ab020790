/-
  No cell of these rows narrows 'for every input' (looked for: loops, veiled, ifaces, maps, wideKeys, modest, calm, conditions, laid).
  DERIVED. THE GIVEN ROWS OF THIS SEAT. 5 by the template 'for every input the law returns true; each argument reads behind the call as it read before'; 0 by the template 'total and deterministic' (their statements: YthfagnbecocgdaaTotals.lean).
  GIVEN WITH THE SEED: the statements are not yours to turn. If you find one false, say at which input.
  Laid BY PROGRAM, IN A SANDBOX (cutbox-rows.mjs): the forced cells as the released guide's own fill.sh prints them over the translation 65b46f610616de55… (all of the seat's roots in one cut). By AI agents, Wed Nov 11 2026. No macro, syntax, notation, axiom, sorry.
-/
import Derived.Test.YthfagnbecocgdaaChecked
import GoSem.Claim
import GoSem.ClaimJoined
import GoSem.ClaimMapViews
import Derived.JoinedTies
import Derived.KernelRfl
namespace Go.Proofs.Ythfagnbecocgdaa
/- THE CELL 'sum', in the pinned program and in every row, IS THE sha256 OF THE DUMP (.gsa) THAT YthfagnbecocgdaaProg.lean LOADS. Nothing in Lean hashes anything: it is a label: what it is worth is what the hold of that sum in a sandbox is worth. -/
noncomputable def Try.pinned : Pinned := { name := "ythfagnbecocgdaa", sum := "65b46f610616de554bcc07387f986f2347bddd9edf26374875cc40705bf43f85", checked := Try.checked }
namespace Rows
def none {H : Type} : Left H := { results := [], args := [] }

/-- 'continuolaw06.VolumePlays': WHATEVER THE INPUT: true; the input reads as it did. -/
def volumePlaysSpec : ChangeSpec := { name := "volumePlays", fn := fun _ => fun
  | [d1, d2] => { results := [.lit (.bool true)], args := [d1, d2] }
  | _ => none }
def volumePlaysRow : OpenClaim := { program := "ythfagnbecocgdaa", sum := "65b46f610616de554bcc07387f986f2347bddd9edf26374875cc40705bf43f85", func := "continuo/continuolaw06.VolumePlays", spec := "volumePlays", unfollowed := true, recurses := true, apart := false }
def VolumePlaysSaid : Prop := volumePlaysRow.holds Try.pinned (OpenSpec.ofChange volumePlaysSpec)

/-- ITS FALSE NEIGHBOUR: 'it returns false'. Refute it at one input. -/
def volumePlaysWrong : ChangeSpec := { name := "volumePlays", fn := fun _ => fun
  | [d1, d2] => { results := [.lit (.bool false)], args := [d1, d2] }
  | _ => none }
def VolumePlaysWrongFalsely : Prop := volumePlaysRow.holds Try.pinned (OpenSpec.ofChange volumePlaysWrong)

/-- 'continuolaw06.VolumeRamps': WHATEVER THE INPUT: true; the input reads as it did. -/
def volumeRampsSpec : ChangeSpec := { name := "volumeRamps", fn := fun _ => fun
  | [d1, d2, d3, d4] => { results := [.lit (.bool true)], args := [d1, d2, d3, d4] }
  | _ => none }
def volumeRampsRow : OpenClaim := { program := "ythfagnbecocgdaa", sum := "65b46f610616de554bcc07387f986f2347bddd9edf26374875cc40705bf43f85", func := "continuo/continuolaw06.VolumeRamps", spec := "volumeRamps", unfollowed := true, recurses := true, apart := false }
def VolumeRampsSaid : Prop := volumeRampsRow.holds Try.pinned (OpenSpec.ofChange volumeRampsSpec)

/-- ITS FALSE NEIGHBOUR: 'it returns false'. Refute it at one input. -/
def volumeRampsWrong : ChangeSpec := { name := "volumeRamps", fn := fun _ => fun
  | [d1, d2, d3, d4] => { results := [.lit (.bool false)], args := [d1, d2, d3, d4] }
  | _ => none }
def VolumeRampsWrongFalsely : Prop := volumeRampsRow.holds Try.pinned (OpenSpec.ofChange volumeRampsWrong)

/-- 'continuolaw06.VolumeChains': WHATEVER THE INPUT: true; the input reads as it did. -/
def volumeChainsSpec : ChangeSpec := { name := "volumeChains", fn := fun _ => fun
  | [d1, d2] => { results := [.lit (.bool true)], args := [d1, d2] }
  | _ => none }
def volumeChainsRow : OpenClaim := { program := "ythfagnbecocgdaa", sum := "65b46f610616de554bcc07387f986f2347bddd9edf26374875cc40705bf43f85", func := "continuo/continuolaw06.VolumeChains", spec := "volumeChains", unfollowed := true, recurses := true, apart := false }
def VolumeChainsSaid : Prop := volumeChainsRow.holds Try.pinned (OpenSpec.ofChange volumeChainsSpec)

/-- ITS FALSE NEIGHBOUR: 'it returns false'. Refute it at one input. -/
def volumeChainsWrong : ChangeSpec := { name := "volumeChains", fn := fun _ => fun
  | [d1, d2] => { results := [.lit (.bool false)], args := [d1, d2] }
  | _ => none }
def VolumeChainsWrongFalsely : Prop := volumeChainsRow.holds Try.pinned (OpenSpec.ofChange volumeChainsWrong)

/-- 'continuolaw06.VolumeMixes': WHATEVER THE INPUT: true; the input reads as it did. -/
def volumeMixesSpec : ChangeSpec := { name := "volumeMixes", fn := fun _ => fun
  | [d1, d2, d3, d4] => { results := [.lit (.bool true)], args := [d1, d2, d3, d4] }
  | _ => none }
def volumeMixesRow : OpenClaim := { program := "ythfagnbecocgdaa", sum := "65b46f610616de554bcc07387f986f2347bddd9edf26374875cc40705bf43f85", func := "continuo/continuolaw06.VolumeMixes", spec := "volumeMixes", unfollowed := true, recurses := true, apart := false }
def VolumeMixesSaid : Prop := volumeMixesRow.holds Try.pinned (OpenSpec.ofChange volumeMixesSpec)

/-- ITS FALSE NEIGHBOUR: 'it returns false'. Refute it at one input. -/
def volumeMixesWrong : ChangeSpec := { name := "volumeMixes", fn := fun _ => fun
  | [d1, d2, d3, d4] => { results := [.lit (.bool false)], args := [d1, d2, d3, d4] }
  | _ => none }
def VolumeMixesWrongFalsely : Prop := volumeMixesRow.holds Try.pinned (OpenSpec.ofChange volumeMixesWrong)

/-- 'continuolaw06.VolumeCut': WHATEVER THE INPUT: true; the input reads as it did. -/
def volumeCutSpec : ChangeSpec := { name := "volumeCut", fn := fun _ => fun
  | [d1, d2, d3, d4] => { results := [.lit (.bool true)], args := [d1, d2, d3, d4] }
  | _ => none }
def volumeCutRow : OpenClaim := { program := "ythfagnbecocgdaa", sum := "65b46f610616de554bcc07387f986f2347bddd9edf26374875cc40705bf43f85", func := "continuo/continuolaw06.VolumeCut", spec := "volumeCut", unfollowed := true, recurses := true, apart := false }
def VolumeCutSaid : Prop := volumeCutRow.holds Try.pinned (OpenSpec.ofChange volumeCutSpec)

/-- ITS FALSE NEIGHBOUR: 'it returns false'. Refute it at one input. -/
def volumeCutWrong : ChangeSpec := { name := "volumeCut", fn := fun _ => fun
  | [d1, d2, d3, d4] => { results := [.lit (.bool false)], args := [d1, d2, d3, d4] }
  | _ => none }
def VolumeCutWrongFalsely : Prop := volumeCutRow.holds Try.pinned (OpenSpec.ofChange volumeCutWrong)

/- THE SECOND FORM. 'bulk': how many values and letters a reading holds, each counted each time it is reached (what is shared counts as often as it is met; a slice's spare places count too). A statement '..UptoSaid' is the law's where the arguments, and the package variables that the reading takes, are together of bulk at most 1048576: NARROWER than '..Said'. Prove '..Said' where nothing that the law and all that it calls make is longer than what came in: it says more and counts as full. Else prove '..UptoSaid'. A law counts once. -/
mutual
def uptoBulk {H : Type} : DataW H → Nat
  | .lit (.string bytes) => bytes.length + 1
  | .lit _ => 1
  | .nil => 1
  | .ptr d => uptoBulk d + 1
  | .slice elems spare => uptoBulkAll elems + uptoBulkAll spare + 1
  | .agg parts => uptoBulkAll parts + 1
  | .iface _ d => uptoBulk d + 1
  | .map entries => uptoBulkEntries entries + 1
  | .held _ => 1
def uptoBulkAll {H : Type} : List (DataW H) → Nat
  | [] => 0
  | d :: r => uptoBulk d + uptoBulkAll r
def uptoBulkEntries {H : Type} : List (Lit × DataW H) → Nat
  | [] => 0
  | x :: r => uptoBulkEntry x + uptoBulkEntries r
def uptoBulkEntry {H : Type} : Lit × DataW H → Nat
  | (.string bytes, d) => bytes.length + uptoBulk d + 1
  | (_, d) => uptoBulk d + 1
 end
def uptoSmall : (H : Type) → List (DataW H) → Bool := fun _ ds => decide (uptoBulkAll ds ≤ 1048576)
def OpenSpec.upto (s : _root_.Go.ChangeSpec) : _root_.Go.OpenSpec := { _root_.Go.OpenSpec.ofChange s with cond := some uptoSmall }

/-- 'continuolaw06.VolumePlays', WHERE WHAT IT READS IS OF BULK AT MOST 1048576: true; the input reads as it did. -/
def volumePlaysUptoRow : OpenClaim := { program := "ythfagnbecocgdaa", sum := "65b46f610616de554bcc07387f986f2347bddd9edf26374875cc40705bf43f85", func := "continuo/continuolaw06.VolumePlays", spec := "volumePlays", unfollowed := true, recurses := true, apart := false, narrowed := true }
def VolumePlaysUptoSaid : Prop := volumePlaysUptoRow.holds Try.pinned (OpenSpec.upto volumePlaysSpec)

/-- 'continuolaw06.VolumeRamps', WHERE WHAT IT READS IS OF BULK AT MOST 1048576: true; the input reads as it did. -/
def volumeRampsUptoRow : OpenClaim := { program := "ythfagnbecocgdaa", sum := "65b46f610616de554bcc07387f986f2347bddd9edf26374875cc40705bf43f85", func := "continuo/continuolaw06.VolumeRamps", spec := "volumeRamps", unfollowed := true, recurses := true, apart := false, narrowed := true }
def VolumeRampsUptoSaid : Prop := volumeRampsUptoRow.holds Try.pinned (OpenSpec.upto volumeRampsSpec)

/-- 'continuolaw06.VolumeChains', WHERE WHAT IT READS IS OF BULK AT MOST 1048576: true; the input reads as it did. -/
def volumeChainsUptoRow : OpenClaim := { program := "ythfagnbecocgdaa", sum := "65b46f610616de554bcc07387f986f2347bddd9edf26374875cc40705bf43f85", func := "continuo/continuolaw06.VolumeChains", spec := "volumeChains", unfollowed := true, recurses := true, apart := false, narrowed := true }
def VolumeChainsUptoSaid : Prop := volumeChainsUptoRow.holds Try.pinned (OpenSpec.upto volumeChainsSpec)

/-- 'continuolaw06.VolumeMixes', WHERE WHAT IT READS IS OF BULK AT MOST 1048576: true; the input reads as it did. -/
def volumeMixesUptoRow : OpenClaim := { program := "ythfagnbecocgdaa", sum := "65b46f610616de554bcc07387f986f2347bddd9edf26374875cc40705bf43f85", func := "continuo/continuolaw06.VolumeMixes", spec := "volumeMixes", unfollowed := true, recurses := true, apart := false, narrowed := true }
def VolumeMixesUptoSaid : Prop := volumeMixesUptoRow.holds Try.pinned (OpenSpec.upto volumeMixesSpec)

/-- 'continuolaw06.VolumeCut', WHERE WHAT IT READS IS OF BULK AT MOST 1048576: true; the input reads as it did. -/
def volumeCutUptoRow : OpenClaim := { program := "ythfagnbecocgdaa", sum := "65b46f610616de554bcc07387f986f2347bddd9edf26374875cc40705bf43f85", func := "continuo/continuolaw06.VolumeCut", spec := "volumeCut", unfollowed := true, recurses := true, apart := false, narrowed := true }
def VolumeCutUptoSaid : Prop := volumeCutUptoRow.holds Try.pinned (OpenSpec.upto volumeCutSpec)

end Rows
end Go.Proofs.Ythfagnbecocgdaa
