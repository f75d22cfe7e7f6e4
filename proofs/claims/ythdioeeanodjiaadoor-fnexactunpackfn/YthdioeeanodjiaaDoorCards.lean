/-
  DERIVED. GIVEN WITH THE SEED: THE CARDS: each row of YthdioeeanodjiaaDoorRows.lean that lists a variable, with what it lists TIED to the program's text (the seventh form; the later family's looks); each row that meets fmt, with fmt's text TOLD by the authors' own Lean function (tested against real Go, not proved from fmt's source: count such statements apart). THE CARD IS WHAT COUNTS. Prove the row's statement (the work); the ties are given (YthdioeeanodjiaaDoorTie.lean); close each card by the builder's one call (the guide's Derived/Test/ToyasCard.lean, 'card_holds'). Laid BY PROGRAM, IN A SANDBOX (cutbox-door.mjs). By AI agents, Wed Nov 11 2026. No macro, syntax, notation, axiom, sorry.
-/
import Derived.Test.YthdioeeanodjiaaDoorRows
import GoSem.ClaimSeven
namespace Go.Proofs.YthdioeeanodjiaaDoor
namespace Rows

/-- THE TIED CARD OF 'laws.FnFnBytes'. -/
def fnFnBytesCard : Claim7 := { stood := { row := fnFnBytesRow, standIns := [], harness := (true, "7c9bef8f8519dd63f888ec992bafbcc7a04582db118a77a1eac50ae36a056ba6"), looks := true }, kinds := [], alts := [], laidByText := true, laidKinds := [.data], laidTests := true, laidLooks := .later }
def FnFnBytesCardSaid : Prop := Claim7.holds Tryd.pinned (.plain (OpenSpec.ofChange fnFnBytesSpec)) fnFnBytesCard

/-- THE TIED CARD OF 'laws.FnExactUnpackFn'. -/
def fnExactUnpackFnCard : Claim7 := { stood := { row := fnExactUnpackFnRow, standIns := [], harness := (true, "7c9bef8f8519dd63f888ec992bafbcc7a04582db118a77a1eac50ae36a056ba6"), looks := true }, kinds := [], alts := [], laidByText := true, laidKinds := [.data], laidTests := true, laidLooks := .later }
def FnExactUnpackFnCardSaid : Prop := Claim7.holds Tryd.pinned (.plain (OpenSpec.ofChange fnExactUnpackFnSpec)) fnExactUnpackFnCard

/-- THE SECOND FORM's CARD OF 'laws.FnFnBytes'. -/
def fnFnBytesUptoCard : Claim7 := { stood := { row := fnFnBytesUptoRow, standIns := [], harness := (true, "7c9bef8f8519dd63f888ec992bafbcc7a04582db118a77a1eac50ae36a056ba6"), looks := true }, kinds := [], alts := [], laidByText := true, laidKinds := [.data], laidTests := true, laidLooks := .later }
def FnFnBytesUptoCardSaid : Prop := Claim7.holds Tryd.pinned (.plain (OpenSpec.upto fnFnBytesSpec)) fnFnBytesUptoCard

/-- THE SECOND FORM's CARD OF 'laws.FnExactUnpackFn'. -/
def fnExactUnpackFnUptoCard : Claim7 := { stood := { row := fnExactUnpackFnUptoRow, standIns := [], harness := (true, "7c9bef8f8519dd63f888ec992bafbcc7a04582db118a77a1eac50ae36a056ba6"), looks := true }, kinds := [], alts := [], laidByText := true, laidKinds := [.data], laidTests := true, laidLooks := .later }
def FnExactUnpackFnUptoCardSaid : Prop := Claim7.holds Tryd.pinned (.plain (OpenSpec.upto fnExactUnpackFnSpec)) fnExactUnpackFnUptoCard
end Rows
end Go.Proofs.YthdioeeanodjiaaDoor
