/-
  DERIVED. GIVEN WITH THE SEED: THE CARDS: each row of YtpjgmocdlempaaaGreatDoorRows.lean that lists a variable, with what it lists TIED to the program's text (the seventh form; the later family's looks); each row that meets fmt, with fmt's text TOLD by the authors' own Lean function (tested against real Go, not proved from fmt's source: count such statements apart). THE CARD IS WHAT COUNTS. Prove the row's statement (the work); the ties are given (YtpjgmocdlempaaaGreatDoorTie.lean); close each card by the builder's one call (the guide's Derived/Test/ToyasCard.lean, 'card_holds'). Laid BY PROGRAM, IN A SANDBOX (cutbox-door.mjs). By AI agents, Wed Nov 11 2026. No macro, syntax, notation, axiom, sorry.
-/
import Derived.Test.YtpjgmocdlempaaaGreatDoorRows
import GoSem.ClaimSeven
namespace Go.Proofs.YtpjgmocdlempaaaGreatDoor
namespace Rows

/-- THE TIED CARD OF 'laws.FnFolded'. -/
def fnFoldedCard : Claim7 := { stood := { row := fnFoldedRow, standIns := [], harness := (true, "4df6ff1ba2de7a5f882c986a6d7764d4a71f8265ff5ae564fc93e937c009b01e"), looks := true }, kinds := [], alts := [], laidByText := true, laidKinds := [.handle], laidTests := true, laidLooks := .later }
def FnFoldedCardSaid : Prop := Claim7.holds Tryz.pinned (.plain (OpenSpec.ofChange fnFoldedSpec)) fnFoldedCard

/-- THE TIED CARD OF 'laws.FnPruned'. -/
def fnPrunedCard : Claim7 := { stood := { row := fnPrunedRow, standIns := [], harness := (true, "4df6ff1ba2de7a5f882c986a6d7764d4a71f8265ff5ae564fc93e937c009b01e"), looks := true }, kinds := [], alts := [], laidByText := true, laidKinds := [.handle], laidTests := true, laidLooks := .later }
def FnPrunedCardSaid : Prop := Claim7.holds Tryz.pinned (.plain (OpenSpec.ofChange fnPrunedSpec)) fnPrunedCard

/-- THE TIED CARD OF 'laws.FnSplit'. -/
def fnSplitCard : Claim7 := { stood := { row := fnSplitRow, standIns := [], harness := (true, "4df6ff1ba2de7a5f882c986a6d7764d4a71f8265ff5ae564fc93e937c009b01e"), looks := true }, kinds := [], alts := [], laidByText := true, laidKinds := [.handle], laidTests := true, laidLooks := .later }
def FnSplitCardSaid : Prop := Claim7.holds Tryz.pinned (.plain (OpenSpec.ofChange fnSplitSpec)) fnSplitCard

/-- THE TIED CARD OF 'laws.FnSmaller'. -/
def fnSmallerCard : Claim7 := { stood := { row := fnSmallerRow, standIns := [], harness := (true, "4df6ff1ba2de7a5f882c986a6d7764d4a71f8265ff5ae564fc93e937c009b01e"), looks := true }, kinds := [], alts := [], laidByText := true, laidKinds := [.handle], laidTests := true, laidLooks := .later }
def FnSmallerCardSaid : Prop := Claim7.holds Tryz.pinned (.plain (OpenSpec.ofChange fnSmallerSpec)) fnSmallerCard

/-- THE TIED CARD OF 'laws.FnExactFold'. -/
def fnExactFoldCard : Claim7 := { stood := { row := fnExactFoldRow, standIns := [], harness := (true, "4df6ff1ba2de7a5f882c986a6d7764d4a71f8265ff5ae564fc93e937c009b01e"), looks := true }, kinds := [], alts := [], laidByText := true, laidKinds := [.handle], laidTests := true, laidLooks := .later }
def FnExactFoldCardSaid : Prop := Claim7.holds Tryz.pinned (.plain (OpenSpec.ofChange fnExactFoldSpec)) fnExactFoldCard

/-- THE TIED CARD OF 'laws.FnExactPrune'. -/
def fnExactPruneCard : Claim7 := { stood := { row := fnExactPruneRow, standIns := [], harness := (true, "4df6ff1ba2de7a5f882c986a6d7764d4a71f8265ff5ae564fc93e937c009b01e"), looks := true }, kinds := [], alts := [], laidByText := true, laidKinds := [.handle], laidTests := true, laidLooks := .later }
def FnExactPruneCardSaid : Prop := Claim7.holds Tryz.pinned (.plain (OpenSpec.ofChange fnExactPruneSpec)) fnExactPruneCard

/-- THE SECOND FORM's CARD OF 'laws.FnFolded'. -/
def fnFoldedUptoCard : Claim7 := { stood := { row := fnFoldedUptoRow, standIns := [], harness := (true, "4df6ff1ba2de7a5f882c986a6d7764d4a71f8265ff5ae564fc93e937c009b01e"), looks := true }, kinds := [], alts := [], laidByText := true, laidKinds := [.handle], laidTests := true, laidLooks := .later }
def FnFoldedUptoCardSaid : Prop := Claim7.holds Tryz.pinned (.plain (OpenSpec.upto fnFoldedSpec)) fnFoldedUptoCard

/-- THE SECOND FORM's CARD OF 'laws.FnPruned'. -/
def fnPrunedUptoCard : Claim7 := { stood := { row := fnPrunedUptoRow, standIns := [], harness := (true, "4df6ff1ba2de7a5f882c986a6d7764d4a71f8265ff5ae564fc93e937c009b01e"), looks := true }, kinds := [], alts := [], laidByText := true, laidKinds := [.handle], laidTests := true, laidLooks := .later }
def FnPrunedUptoCardSaid : Prop := Claim7.holds Tryz.pinned (.plain (OpenSpec.upto fnPrunedSpec)) fnPrunedUptoCard

/-- THE SECOND FORM's CARD OF 'laws.FnSplit'. -/
def fnSplitUptoCard : Claim7 := { stood := { row := fnSplitUptoRow, standIns := [], harness := (true, "4df6ff1ba2de7a5f882c986a6d7764d4a71f8265ff5ae564fc93e937c009b01e"), looks := true }, kinds := [], alts := [], laidByText := true, laidKinds := [.handle], laidTests := true, laidLooks := .later }
def FnSplitUptoCardSaid : Prop := Claim7.holds Tryz.pinned (.plain (OpenSpec.upto fnSplitSpec)) fnSplitUptoCard

/-- THE SECOND FORM's CARD OF 'laws.FnSmaller'. -/
def fnSmallerUptoCard : Claim7 := { stood := { row := fnSmallerUptoRow, standIns := [], harness := (true, "4df6ff1ba2de7a5f882c986a6d7764d4a71f8265ff5ae564fc93e937c009b01e"), looks := true }, kinds := [], alts := [], laidByText := true, laidKinds := [.handle], laidTests := true, laidLooks := .later }
def FnSmallerUptoCardSaid : Prop := Claim7.holds Tryz.pinned (.plain (OpenSpec.upto fnSmallerSpec)) fnSmallerUptoCard

/-- THE SECOND FORM's CARD OF 'laws.FnExactFold'. -/
def fnExactFoldUptoCard : Claim7 := { stood := { row := fnExactFoldUptoRow, standIns := [], harness := (true, "4df6ff1ba2de7a5f882c986a6d7764d4a71f8265ff5ae564fc93e937c009b01e"), looks := true }, kinds := [], alts := [], laidByText := true, laidKinds := [.handle], laidTests := true, laidLooks := .later }
def FnExactFoldUptoCardSaid : Prop := Claim7.holds Tryz.pinned (.plain (OpenSpec.upto fnExactFoldSpec)) fnExactFoldUptoCard

/-- THE SECOND FORM's CARD OF 'laws.FnExactPrune'. -/
def fnExactPruneUptoCard : Claim7 := { stood := { row := fnExactPruneUptoRow, standIns := [], harness := (true, "4df6ff1ba2de7a5f882c986a6d7764d4a71f8265ff5ae564fc93e937c009b01e"), looks := true }, kinds := [], alts := [], laidByText := true, laidKinds := [.handle], laidTests := true, laidLooks := .later }
def FnExactPruneUptoCardSaid : Prop := Claim7.holds Tryz.pinned (.plain (OpenSpec.upto fnExactPruneSpec)) fnExactPruneUptoCard
end Rows
end Go.Proofs.YtpjgmocdlempaaaGreatDoor
