/-
  DERIVED. GIVEN WITH THE SEED: THE CARDS: each row of YtmedlpkfgehhlaaDoorRows.lean that lists a variable, with what it lists TIED to the program's text (the seventh form; the later family's looks); each row that meets fmt, with fmt's text TOLD by the authors' own Lean function (tested against real Go, not proved from fmt's source: count such statements apart). THE CARD IS WHAT COUNTS. Prove the row's statement (the work); the ties are given (YtmedlpkfgehhlaaDoorTie.lean); close each card by the builder's one call (the guide's Derived/Test/ToyasCard.lean, 'card_holds'). Laid BY PROGRAM, IN A SANDBOX (cutbox-door.mjs). By AI agents, Wed Nov 11 2026. No macro, syntax, notation, axiom, sorry.
-/
import Derived.Test.YtmedlpkfgehhlaaDoorRows
import GoSem.ClaimSeven
namespace Go.Proofs.YtmedlpkfgehhlaaDoor
namespace Rows

/-- THE TIED CARD OF 'laws.FnExactCheckName'. -/
def fnExactCheckNameCard : Claim7 := { stood := { row := fnExactCheckNameRow, standIns := [], harness := (true, "3a2e927c5ad10c738cf6ce8ffccade2eba5697f0b78a246473780d2d26db63d3"), looks := false }, kinds := [], alts := [], laidByText := true, laidKinds := [.data], laidTests := true, laidLooks := .later }
def FnExactCheckNameCardSaid : Prop := Claim7.holds Tryd.pinned (.plain (OpenSpec.ofChange fnExactCheckNameSpec)) fnExactCheckNameCard

/-- THE TIED CARD OF 'laws.FnExactRunName'. -/
def fnExactRunNameCard : Claim7 := { stood := { row := fnExactRunNameRow, standIns := [], harness := (true, "3a2e927c5ad10c738cf6ce8ffccade2eba5697f0b78a246473780d2d26db63d3"), looks := false }, kinds := [], alts := [], laidByText := true, laidKinds := [.data], laidTests := true, laidLooks := .later }
def FnExactRunNameCardSaid : Prop := Claim7.holds Tryd.pinned (.plain (OpenSpec.ofChange fnExactRunNameSpec)) fnExactRunNameCard

/-- THE SECOND FORM's CARD OF 'laws.FnExactCheckName'. -/
def fnExactCheckNameUptoCard : Claim7 := { stood := { row := fnExactCheckNameUptoRow, standIns := [], harness := (true, "3a2e927c5ad10c738cf6ce8ffccade2eba5697f0b78a246473780d2d26db63d3"), looks := false }, kinds := [], alts := [], laidByText := true, laidKinds := [.data], laidTests := true, laidLooks := .later }
def FnExactCheckNameUptoCardSaid : Prop := Claim7.holds Tryd.pinned (.plain (OpenSpec.upto fnExactCheckNameSpec)) fnExactCheckNameUptoCard

/-- THE SECOND FORM's CARD OF 'laws.FnExactRunName'. -/
def fnExactRunNameUptoCard : Claim7 := { stood := { row := fnExactRunNameUptoRow, standIns := [], harness := (true, "3a2e927c5ad10c738cf6ce8ffccade2eba5697f0b78a246473780d2d26db63d3"), looks := false }, kinds := [], alts := [], laidByText := true, laidKinds := [.data], laidTests := true, laidLooks := .later }
def FnExactRunNameUptoCardSaid : Prop := Claim7.holds Tryd.pinned (.plain (OpenSpec.upto fnExactRunNameSpec)) fnExactRunNameUptoCard
end Rows
end Go.Proofs.YtmedlpkfgehhlaaDoor
