/-
  DERIVED. GIVEN WITH THE SEED: THE CARDS: each row of YtfeppmfoegejhaaGreatDoorRows.lean that lists a variable, with what it lists TIED to the program's text (the seventh form; the later family's looks); each row that meets fmt, with fmt's text TOLD by the authors' own Lean function (tested against real Go, not proved from fmt's source: count such statements apart). THE CARD IS WHAT COUNTS. Prove the row's statement (the work); the ties are given (YtfeppmfoegejhaaGreatDoorTie.lean); close each card by the builder's one call (the guide's Derived/Test/ToyasCard.lean, 'card_holds'). Laid BY PROGRAM, IN A SANDBOX (cutbox-door.mjs). By AI agents, Wed Nov 11 2026. No macro, syntax, notation, axiom, sorry.
-/
import Derived.Test.YtfeppmfoegejhaaGreatDoorRows
import GoSem.ClaimSeven
namespace Go.Proofs.YtfeppmfoegejhaaGreatDoor
namespace Rows

/-- THE TIED CARD OF 'laws.FnShape'. -/
def fnShapeCard : Claim7 := { stood := { row := fnShapeRow, standIns := [], harness := (true, "088935310c3785aec37bd6840d8a19ad7bd0e8401cd531f7d439da162367aa5b"), looks := true }, kinds := [], alts := [], laidByText := true, laidKinds := [.handle], laidTests := true, laidLooks := .later }
def FnShapeCardSaid : Prop := Claim7.holds Tryz.pinned (.plain (OpenSpec.ofChange fnShapeSpec)) fnShapeCard

/-- THE TIED CARD OF 'laws.FnChecked'. -/
def fnCheckedCard : Claim7 := { stood := { row := fnCheckedRow, standIns := [], harness := (true, "088935310c3785aec37bd6840d8a19ad7bd0e8401cd531f7d439da162367aa5b"), looks := true }, kinds := [], alts := [], laidByText := true, laidKinds := [.handle], laidTests := true, laidLooks := .later }
def FnCheckedCardSaid : Prop := Claim7.holds Tryz.pinned (.plain (OpenSpec.ofChange fnCheckedSpec)) fnCheckedCard

/-- THE TIED CARD OF 'laws.FnUsed'. -/
def fnUsedCard : Claim7 := { stood := { row := fnUsedRow, standIns := [], harness := (true, "088935310c3785aec37bd6840d8a19ad7bd0e8401cd531f7d439da162367aa5b"), looks := true }, kinds := [], alts := [], laidByText := true, laidKinds := [.handle], laidTests := true, laidLooks := .later }
def FnUsedCardSaid : Prop := Claim7.holds Tryz.pinned (.plain (OpenSpec.ofChange fnUsedSpec)) fnUsedCard

/-- THE SECOND FORM's CARD OF 'laws.FnShape'. -/
def fnShapeUptoCard : Claim7 := { stood := { row := fnShapeUptoRow, standIns := [], harness := (true, "088935310c3785aec37bd6840d8a19ad7bd0e8401cd531f7d439da162367aa5b"), looks := true }, kinds := [], alts := [], laidByText := true, laidKinds := [.handle], laidTests := true, laidLooks := .later }
def FnShapeUptoCardSaid : Prop := Claim7.holds Tryz.pinned (.plain (OpenSpec.upto fnShapeSpec)) fnShapeUptoCard

/-- THE SECOND FORM's CARD OF 'laws.FnChecked'. -/
def fnCheckedUptoCard : Claim7 := { stood := { row := fnCheckedUptoRow, standIns := [], harness := (true, "088935310c3785aec37bd6840d8a19ad7bd0e8401cd531f7d439da162367aa5b"), looks := true }, kinds := [], alts := [], laidByText := true, laidKinds := [.handle], laidTests := true, laidLooks := .later }
def FnCheckedUptoCardSaid : Prop := Claim7.holds Tryz.pinned (.plain (OpenSpec.upto fnCheckedSpec)) fnCheckedUptoCard

/-- THE SECOND FORM's CARD OF 'laws.FnUsed'. -/
def fnUsedUptoCard : Claim7 := { stood := { row := fnUsedUptoRow, standIns := [], harness := (true, "088935310c3785aec37bd6840d8a19ad7bd0e8401cd531f7d439da162367aa5b"), looks := true }, kinds := [], alts := [], laidByText := true, laidKinds := [.handle], laidTests := true, laidLooks := .later }
def FnUsedUptoCardSaid : Prop := Claim7.holds Tryz.pinned (.plain (OpenSpec.upto fnUsedSpec)) fnUsedUptoCard
end Rows
end Go.Proofs.YtfeppmfoegejhaaGreatDoor
