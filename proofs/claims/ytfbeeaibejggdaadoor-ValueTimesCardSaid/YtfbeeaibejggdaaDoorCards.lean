/-
  DERIVED. GIVEN WITH THE SEED: THE CARDS: each row of YtfbeeaibejggdaaDoorRows.lean that lists a variable, with what it lists TIED to the program's text (the seventh form; the later family's looks); each row that meets fmt, with fmt's text TOLD by the authors' own Lean function (tested against real Go, not proved from fmt's source: count such statements apart). THE CARD IS WHAT COUNTS. Prove the row's statement (the work); the ties are given (YtfbeeaibejggdaaDoorTie.lean); close each card by the builder's one call (the guide's Derived/Test/ToyasCard.lean, 'card_holds'). Laid BY PROGRAM, IN A SANDBOX (cutbox-door.mjs). By AI agents, Wed Nov 11 2026. No macro, syntax, notation, axiom, sorry.
-/
import Derived.Test.YtfbeeaibejggdaaDoorRows
import GoSem.ClaimSeven
namespace Go.Proofs.YtfbeeaibejggdaaDoor
namespace Rows

/-- THE TIED CARD OF 'continuolaw01.ValueValid'. -/
def valueValidCard : Claim7 := { stood := { row := valueValidRow, standIns := [], harness := (true, "2e5f88aca82d1f0ef6d09e66e8077cf2c5c5b1ec69a1929176104ed28deaccfb"), looks := true }, kinds := [], alts := [], laidByText := true, laidKinds := [.data], laidTests := true, laidLooks := .later }
def ValueValidCardSaid : Prop := Claim7.holds Tryd.pinned (.plain (OpenSpec.ofChange valueValidSpec)) valueValidCard

/-- THE TIED CARD OF 'continuolaw01.ValueReads'. -/
def valueReadsCard : Claim7 := { stood := { row := valueReadsRow, standIns := [], harness := (true, "2e5f88aca82d1f0ef6d09e66e8077cf2c5c5b1ec69a1929176104ed28deaccfb"), looks := true }, kinds := [], alts := [], laidByText := true, laidKinds := [.data], laidTests := true, laidLooks := .later }
def ValueReadsCardSaid : Prop := Claim7.holds Tryd.pinned (.plain (OpenSpec.ofChange valueReadsSpec)) valueReadsCard

/-- THE TIED CARD OF 'continuolaw01.ValueBack'. -/
def valueBackCard : Claim7 := { stood := { row := valueBackRow, standIns := [], harness := (true, "2e5f88aca82d1f0ef6d09e66e8077cf2c5c5b1ec69a1929176104ed28deaccfb"), looks := true }, kinds := [], alts := [], laidByText := true, laidKinds := [.data], laidTests := true, laidLooks := .later }
def ValueBackCardSaid : Prop := Claim7.holds Tryd.pinned (.plain (OpenSpec.ofChange valueBackSpec)) valueBackCard

/-- THE TIED CARD OF 'continuolaw01.ValueMerges'. -/
def valueMergesCard : Claim7 := { stood := { row := valueMergesRow, standIns := [], harness := (true, "2e5f88aca82d1f0ef6d09e66e8077cf2c5c5b1ec69a1929176104ed28deaccfb"), looks := true }, kinds := [], alts := [], laidByText := true, laidKinds := [.data], laidTests := true, laidLooks := .later }
def ValueMergesCardSaid : Prop := Claim7.holds Tryd.pinned (.plain (OpenSpec.ofChange valueMergesSpec)) valueMergesCard

/-- THE TIED CARD OF 'continuolaw01.ValueTimes'. -/
def valueTimesCard : Claim7 := { stood := { row := valueTimesRow, standIns := [], harness := (true, "2e5f88aca82d1f0ef6d09e66e8077cf2c5c5b1ec69a1929176104ed28deaccfb"), looks := true }, kinds := [], alts := [], laidByText := true, laidKinds := [.data], laidTests := true, laidLooks := .later }
def ValueTimesCardSaid : Prop := Claim7.holds Tryd.pinned (.plain (OpenSpec.ofChange valueTimesSpec)) valueTimesCard

/-- THE SECOND FORM's CARD OF 'continuolaw01.ValueValid'. -/
def valueValidUptoCard : Claim7 := { stood := { row := valueValidUptoRow, standIns := [], harness := (true, "2e5f88aca82d1f0ef6d09e66e8077cf2c5c5b1ec69a1929176104ed28deaccfb"), looks := true }, kinds := [], alts := [], laidByText := true, laidKinds := [.data], laidTests := true, laidLooks := .later }
def ValueValidUptoCardSaid : Prop := Claim7.holds Tryd.pinned (.plain (OpenSpec.upto valueValidSpec)) valueValidUptoCard

/-- THE SECOND FORM's CARD OF 'continuolaw01.ValueReads'. -/
def valueReadsUptoCard : Claim7 := { stood := { row := valueReadsUptoRow, standIns := [], harness := (true, "2e5f88aca82d1f0ef6d09e66e8077cf2c5c5b1ec69a1929176104ed28deaccfb"), looks := true }, kinds := [], alts := [], laidByText := true, laidKinds := [.data], laidTests := true, laidLooks := .later }
def ValueReadsUptoCardSaid : Prop := Claim7.holds Tryd.pinned (.plain (OpenSpec.upto valueReadsSpec)) valueReadsUptoCard

/-- THE SECOND FORM's CARD OF 'continuolaw01.ValueBack'. -/
def valueBackUptoCard : Claim7 := { stood := { row := valueBackUptoRow, standIns := [], harness := (true, "2e5f88aca82d1f0ef6d09e66e8077cf2c5c5b1ec69a1929176104ed28deaccfb"), looks := true }, kinds := [], alts := [], laidByText := true, laidKinds := [.data], laidTests := true, laidLooks := .later }
def ValueBackUptoCardSaid : Prop := Claim7.holds Tryd.pinned (.plain (OpenSpec.upto valueBackSpec)) valueBackUptoCard

/-- THE SECOND FORM's CARD OF 'continuolaw01.ValueMerges'. -/
def valueMergesUptoCard : Claim7 := { stood := { row := valueMergesUptoRow, standIns := [], harness := (true, "2e5f88aca82d1f0ef6d09e66e8077cf2c5c5b1ec69a1929176104ed28deaccfb"), looks := true }, kinds := [], alts := [], laidByText := true, laidKinds := [.data], laidTests := true, laidLooks := .later }
def ValueMergesUptoCardSaid : Prop := Claim7.holds Tryd.pinned (.plain (OpenSpec.upto valueMergesSpec)) valueMergesUptoCard

/-- THE SECOND FORM's CARD OF 'continuolaw01.ValueTimes'. -/
def valueTimesUptoCard : Claim7 := { stood := { row := valueTimesUptoRow, standIns := [], harness := (true, "2e5f88aca82d1f0ef6d09e66e8077cf2c5c5b1ec69a1929176104ed28deaccfb"), looks := true }, kinds := [], alts := [], laidByText := true, laidKinds := [.data], laidTests := true, laidLooks := .later }
def ValueTimesUptoCardSaid : Prop := Claim7.holds Tryd.pinned (.plain (OpenSpec.upto valueTimesSpec)) valueTimesUptoCard
end Rows
end Go.Proofs.YtfbeeaibejggdaaDoor
