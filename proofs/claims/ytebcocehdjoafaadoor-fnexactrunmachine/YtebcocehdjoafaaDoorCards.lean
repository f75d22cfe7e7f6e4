/-
  DERIVED. GIVEN WITH THE SEED: THE CARDS: each row of YtebcocehdjoafaaDoorRows.lean that lists a variable, with what it lists TIED to the program's text (the seventh form; the later family's looks); each row that meets fmt, with fmt's text TOLD by the authors' own Lean function (tested against real Go, not proved from fmt's source: count such statements apart). THE CARD IS WHAT COUNTS. Prove the row's statement (the work); the ties are given (YtebcocehdjoafaaDoorTie.lean); close each card by the builder's one call (the guide's Derived/Test/ToyasCard.lean, 'card_holds'). Laid BY PROGRAM, IN A SANDBOX (cutbox-door.mjs). By AI agents, Wed Nov 11 2026. No macro, syntax, notation, axiom, sorry.
-/
import Derived.Test.YtebcocehdjoafaaDoorRows
import GoSem.ClaimSeven
namespace Go.Proofs.YtebcocehdjoafaaDoor
namespace Rows

/-- THE TIED CARD OF 'laws.FnStepOk'. -/
def fnStepOkCard : Claim7 := { stood := { row := fnStepOkRow, standIns := [], harness := (true, "accad1bd40ae45a447dc3c07344f61b0ad56204f84c5b86b5014651e8ea228d6"), looks := false }, kinds := [], alts := [], laidByText := true, laidKinds := [.data], laidTests := true, laidLooks := .later }
def FnStepOkCardSaid : Prop := Claim7.holds Tryd.pinned (.plain (OpenSpec.ofChange fnStepOkSpec)) fnStepOkCard

/-- THE TIED CARD OF 'laws.FnExactStepOk'. -/
def fnExactStepOkCard : Claim7 := { stood := { row := fnExactStepOkRow, standIns := [], harness := (true, "accad1bd40ae45a447dc3c07344f61b0ad56204f84c5b86b5014651e8ea228d6"), looks := false }, kinds := [], alts := [], laidByText := true, laidKinds := [.data], laidTests := true, laidLooks := .later }
def FnExactStepOkCardSaid : Prop := Claim7.holds Tryd.pinned (.plain (OpenSpec.ofChange fnExactStepOkSpec)) fnExactStepOkCard

/-- THE TIED CARD OF 'laws.FnExactMachineOk'. -/
def fnExactMachineOkCard : Claim7 := { stood := { row := fnExactMachineOkRow, standIns := [], harness := (true, "accad1bd40ae45a447dc3c07344f61b0ad56204f84c5b86b5014651e8ea228d6"), looks := false }, kinds := [], alts := [], laidByText := true, laidKinds := [.data], laidTests := true, laidLooks := .later }
def FnExactMachineOkCardSaid : Prop := Claim7.holds Tryd.pinned (.plain (OpenSpec.ofChange fnExactMachineOkSpec)) fnExactMachineOkCard

/-- THE TIED CARD OF 'laws.FnExactRunMachine'. -/
def fnExactRunMachineCard : Claim7 := { stood := { row := fnExactRunMachineRow, standIns := [], harness := (true, "accad1bd40ae45a447dc3c07344f61b0ad56204f84c5b86b5014651e8ea228d6"), looks := false }, kinds := [], alts := [], laidByText := true, laidKinds := [.data], laidTests := true, laidLooks := .later }
def FnExactRunMachineCardSaid : Prop := Claim7.holds Tryd.pinned (.plain (OpenSpec.ofChange fnExactRunMachineSpec)) fnExactRunMachineCard

/-- THE TIED CARD OF 'laws.FnExactUses'. -/
def fnExactUsesCard : Claim7 := { stood := { row := fnExactUsesRow, standIns := [], harness := (true, "accad1bd40ae45a447dc3c07344f61b0ad56204f84c5b86b5014651e8ea228d6"), looks := false }, kinds := [], alts := [], laidByText := true, laidKinds := [.data], laidTests := true, laidLooks := .later }
def FnExactUsesCardSaid : Prop := Claim7.holds Tryd.pinned (.plain (OpenSpec.ofChange fnExactUsesSpec)) fnExactUsesCard

/-- THE SECOND FORM's CARD OF 'laws.FnStepOk'. -/
def fnStepOkUptoCard : Claim7 := { stood := { row := fnStepOkUptoRow, standIns := [], harness := (true, "accad1bd40ae45a447dc3c07344f61b0ad56204f84c5b86b5014651e8ea228d6"), looks := false }, kinds := [], alts := [], laidByText := true, laidKinds := [.data], laidTests := true, laidLooks := .later }
def FnStepOkUptoCardSaid : Prop := Claim7.holds Tryd.pinned (.plain (OpenSpec.upto fnStepOkSpec)) fnStepOkUptoCard

/-- THE SECOND FORM's CARD OF 'laws.FnExactStepOk'. -/
def fnExactStepOkUptoCard : Claim7 := { stood := { row := fnExactStepOkUptoRow, standIns := [], harness := (true, "accad1bd40ae45a447dc3c07344f61b0ad56204f84c5b86b5014651e8ea228d6"), looks := false }, kinds := [], alts := [], laidByText := true, laidKinds := [.data], laidTests := true, laidLooks := .later }
def FnExactStepOkUptoCardSaid : Prop := Claim7.holds Tryd.pinned (.plain (OpenSpec.upto fnExactStepOkSpec)) fnExactStepOkUptoCard

/-- THE SECOND FORM's CARD OF 'laws.FnExactMachineOk'. -/
def fnExactMachineOkUptoCard : Claim7 := { stood := { row := fnExactMachineOkUptoRow, standIns := [], harness := (true, "accad1bd40ae45a447dc3c07344f61b0ad56204f84c5b86b5014651e8ea228d6"), looks := false }, kinds := [], alts := [], laidByText := true, laidKinds := [.data], laidTests := true, laidLooks := .later }
def FnExactMachineOkUptoCardSaid : Prop := Claim7.holds Tryd.pinned (.plain (OpenSpec.upto fnExactMachineOkSpec)) fnExactMachineOkUptoCard

/-- THE SECOND FORM's CARD OF 'laws.FnExactRunMachine'. -/
def fnExactRunMachineUptoCard : Claim7 := { stood := { row := fnExactRunMachineUptoRow, standIns := [], harness := (true, "accad1bd40ae45a447dc3c07344f61b0ad56204f84c5b86b5014651e8ea228d6"), looks := false }, kinds := [], alts := [], laidByText := true, laidKinds := [.data], laidTests := true, laidLooks := .later }
def FnExactRunMachineUptoCardSaid : Prop := Claim7.holds Tryd.pinned (.plain (OpenSpec.upto fnExactRunMachineSpec)) fnExactRunMachineUptoCard

/-- THE SECOND FORM's CARD OF 'laws.FnExactUses'. -/
def fnExactUsesUptoCard : Claim7 := { stood := { row := fnExactUsesUptoRow, standIns := [], harness := (true, "accad1bd40ae45a447dc3c07344f61b0ad56204f84c5b86b5014651e8ea228d6"), looks := false }, kinds := [], alts := [], laidByText := true, laidKinds := [.data], laidTests := true, laidLooks := .later }
def FnExactUsesUptoCardSaid : Prop := Claim7.holds Tryd.pinned (.plain (OpenSpec.upto fnExactUsesSpec)) fnExactUsesUptoCard
end Rows
end Go.Proofs.YtebcocehdjoafaaDoor
