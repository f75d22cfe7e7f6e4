/-
  DERIVED. GIVEN WITH THE SEED: THE CARDS: each row of YtkejplddeelahaaGreatDoorRows.lean that lists a variable, with what it lists TIED to the program's text (the seventh form; the later family's looks); each row that meets fmt, with fmt's text TOLD by the authors' own Lean function (tested against real Go, not proved from fmt's source: count such statements apart). THE CARD IS WHAT COUNTS. Prove the row's statement (the work); the ties are given (YtkejplddeelahaaGreatDoorTie.lean); close each card by the builder's one call (the guide's Derived/Test/ToyasCard.lean, 'card_holds'). Laid BY PROGRAM, IN A SANDBOX (cutbox-door.mjs). By AI agents, Wed Nov 11 2026. No macro, syntax, notation, axiom, sorry.
-/
import Derived.Test.YtkejplddeelahaaGreatDoorRows
import GoSem.ClaimSeven
namespace Go.Proofs.YtkejplddeelahaaGreatDoor
namespace Rows

/-- THE TIED CARD OF 'laws.FnEmitted'. -/
def fnEmittedCard : Claim7 := { stood := { row := fnEmittedRow, standIns := [], harness := (true, "f006b55ae5a8c0269e768bf29b702cc054970541a63c5a2b9c9a86ccb91ef2cc"), looks := true }, kinds := [], alts := [], laidByText := true, laidKinds := [.data], laidTests := true, laidLooks := .later }
def FnEmittedCardSaid : Prop := Claim7.holds Tryz.pinned (.plain (OpenSpec.ofChange fnEmittedSpec)) fnEmittedCard

/-- THE TIED CARD OF 'laws.FnTrim'. -/
def fnTrimCard : Claim7 := { stood := { row := fnTrimRow, standIns := [], harness := (true, "f006b55ae5a8c0269e768bf29b702cc054970541a63c5a2b9c9a86ccb91ef2cc"), looks := true }, kinds := [], alts := [], laidByText := true, laidKinds := [.data], laidTests := true, laidLooks := .later }
def FnTrimCardSaid : Prop := Claim7.holds Tryz.pinned (.plain (OpenSpec.ofChange fnTrimSpec)) fnTrimCard

/-- THE TIED CARD OF 'laws.FnMachine'. -/
def fnMachineCard : Claim7 := { stood := { row := fnMachineRow, standIns := [], harness := (true, "f006b55ae5a8c0269e768bf29b702cc054970541a63c5a2b9c9a86ccb91ef2cc"), looks := true }, kinds := [], alts := [], laidByText := true, laidKinds := [.data], laidTests := true, laidLooks := .later }
def FnMachineCardSaid : Prop := Claim7.holds Tryz.pinned (.plain (OpenSpec.ofChange fnMachineSpec)) fnMachineCard

/-- THE TIED CARD OF 'laws.FnUses'. -/
def fnUsesCard : Claim7 := { stood := { row := fnUsesRow, standIns := [], harness := (true, "f006b55ae5a8c0269e768bf29b702cc054970541a63c5a2b9c9a86ccb91ef2cc"), looks := true }, kinds := [], alts := [], laidByText := true, laidKinds := [.data], laidTests := true, laidLooks := .later }
def FnUsesCardSaid : Prop := Claim7.holds Tryz.pinned (.plain (OpenSpec.ofChange fnUsesSpec)) fnUsesCard

/-- THE TIED CARD OF 'laws.FnExactEmit'. -/
def fnExactEmitCard : Claim7 := { stood := { row := fnExactEmitRow, standIns := [], harness := (true, "f006b55ae5a8c0269e768bf29b702cc054970541a63c5a2b9c9a86ccb91ef2cc"), looks := true }, kinds := [], alts := [], laidByText := true, laidKinds := [.data], laidTests := true, laidLooks := .later }
def FnExactEmitCardSaid : Prop := Claim7.holds Tryz.pinned (.plain (OpenSpec.ofChange fnExactEmitSpec)) fnExactEmitCard

/-- THE SECOND FORM's CARD OF 'laws.FnEmitted'. -/
def fnEmittedUptoCard : Claim7 := { stood := { row := fnEmittedUptoRow, standIns := [], harness := (true, "f006b55ae5a8c0269e768bf29b702cc054970541a63c5a2b9c9a86ccb91ef2cc"), looks := true }, kinds := [], alts := [], laidByText := true, laidKinds := [.data], laidTests := true, laidLooks := .later }
def FnEmittedUptoCardSaid : Prop := Claim7.holds Tryz.pinned (.plain (OpenSpec.upto fnEmittedSpec)) fnEmittedUptoCard

/-- THE SECOND FORM's CARD OF 'laws.FnTrim'. -/
def fnTrimUptoCard : Claim7 := { stood := { row := fnTrimUptoRow, standIns := [], harness := (true, "f006b55ae5a8c0269e768bf29b702cc054970541a63c5a2b9c9a86ccb91ef2cc"), looks := true }, kinds := [], alts := [], laidByText := true, laidKinds := [.data], laidTests := true, laidLooks := .later }
def FnTrimUptoCardSaid : Prop := Claim7.holds Tryz.pinned (.plain (OpenSpec.upto fnTrimSpec)) fnTrimUptoCard

/-- THE SECOND FORM's CARD OF 'laws.FnMachine'. -/
def fnMachineUptoCard : Claim7 := { stood := { row := fnMachineUptoRow, standIns := [], harness := (true, "f006b55ae5a8c0269e768bf29b702cc054970541a63c5a2b9c9a86ccb91ef2cc"), looks := true }, kinds := [], alts := [], laidByText := true, laidKinds := [.data], laidTests := true, laidLooks := .later }
def FnMachineUptoCardSaid : Prop := Claim7.holds Tryz.pinned (.plain (OpenSpec.upto fnMachineSpec)) fnMachineUptoCard

/-- THE SECOND FORM's CARD OF 'laws.FnUses'. -/
def fnUsesUptoCard : Claim7 := { stood := { row := fnUsesUptoRow, standIns := [], harness := (true, "f006b55ae5a8c0269e768bf29b702cc054970541a63c5a2b9c9a86ccb91ef2cc"), looks := true }, kinds := [], alts := [], laidByText := true, laidKinds := [.data], laidTests := true, laidLooks := .later }
def FnUsesUptoCardSaid : Prop := Claim7.holds Tryz.pinned (.plain (OpenSpec.upto fnUsesSpec)) fnUsesUptoCard

/-- THE SECOND FORM's CARD OF 'laws.FnExactEmit'. -/
def fnExactEmitUptoCard : Claim7 := { stood := { row := fnExactEmitUptoRow, standIns := [], harness := (true, "f006b55ae5a8c0269e768bf29b702cc054970541a63c5a2b9c9a86ccb91ef2cc"), looks := true }, kinds := [], alts := [], laidByText := true, laidKinds := [.data], laidTests := true, laidLooks := .later }
def FnExactEmitUptoCardSaid : Prop := Claim7.holds Tryz.pinned (.plain (OpenSpec.upto fnExactEmitSpec)) fnExactEmitUptoCard
end Rows
end Go.Proofs.YtkejplddeelahaaGreatDoor
