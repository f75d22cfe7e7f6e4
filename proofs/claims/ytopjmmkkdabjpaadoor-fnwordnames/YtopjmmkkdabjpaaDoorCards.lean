/-
  DERIVED. GIVEN WITH THE SEED: THE CARDS: each row of YtopjmmkkdabjpaaDoorRows.lean that lists a variable, with what it lists TIED to the program's text (the seventh form; the later family's looks); each row that meets fmt, with fmt's text TOLD by the authors' own Lean function (tested against real Go, not proved from fmt's source: count such statements apart). THE CARD IS WHAT COUNTS. Prove the row's statement (the work); the ties are given (YtopjmmkkdabjpaaDoorTie.lean); close each card by the builder's one call (the guide's Derived/Test/ToyasCard.lean, 'card_holds'). Laid BY PROGRAM, IN A SANDBOX (cutbox-door.mjs). By AI agents, Wed Nov 11 2026. No macro, syntax, notation, axiom, sorry.
-/
import Derived.Test.YtopjmmkkdabjpaaDoorRows
import GoSem.ClaimSeven
namespace Go.Proofs.YtopjmmkkdabjpaaDoor
namespace Rows

/-- THE TIED CARD OF 'laws.FnWordNames'. -/
def fnWordNamesCard : Claim7 := { stood := { row := fnWordNamesRow, standIns := [], harness := (true, "669361a0fb3a04bae926953a2321766744970af5763dd4086824cd2b58c985c4"), looks := false }, kinds := [], alts := [], laidByText := true, laidKinds := [.data], laidTests := true, laidLooks := .later }
def FnWordNamesCardSaid : Prop := Claim7.holds Tryd.pinned (.plain (OpenSpec.ofChange fnWordNamesSpec)) fnWordNamesCard

/-- THE TIED CARD OF 'laws.FnExactWordName'. -/
def fnExactWordNameCard : Claim7 := { stood := { row := fnExactWordNameRow, standIns := [], harness := (true, "669361a0fb3a04bae926953a2321766744970af5763dd4086824cd2b58c985c4"), looks := false }, kinds := [], alts := [], laidByText := true, laidKinds := [.data], laidTests := true, laidLooks := .later }
def FnExactWordNameCardSaid : Prop := Claim7.holds Tryd.pinned (.plain (OpenSpec.ofChange fnExactWordNameSpec)) fnExactWordNameCard

/-- THE SECOND FORM's CARD OF 'laws.FnWordNames'. -/
def fnWordNamesUptoCard : Claim7 := { stood := { row := fnWordNamesUptoRow, standIns := [], harness := (true, "669361a0fb3a04bae926953a2321766744970af5763dd4086824cd2b58c985c4"), looks := false }, kinds := [], alts := [], laidByText := true, laidKinds := [.data], laidTests := true, laidLooks := .later }
def FnWordNamesUptoCardSaid : Prop := Claim7.holds Tryd.pinned (.plain (OpenSpec.upto fnWordNamesSpec)) fnWordNamesUptoCard

/-- THE SECOND FORM's CARD OF 'laws.FnExactWordName'. -/
def fnExactWordNameUptoCard : Claim7 := { stood := { row := fnExactWordNameUptoRow, standIns := [], harness := (true, "669361a0fb3a04bae926953a2321766744970af5763dd4086824cd2b58c985c4"), looks := false }, kinds := [], alts := [], laidByText := true, laidKinds := [.data], laidTests := true, laidLooks := .later }
def FnExactWordNameUptoCardSaid : Prop := Claim7.holds Tryd.pinned (.plain (OpenSpec.upto fnExactWordNameSpec)) fnExactWordNameUptoCard
end Rows
end Go.Proofs.YtopjmmkkdabjpaaDoor
