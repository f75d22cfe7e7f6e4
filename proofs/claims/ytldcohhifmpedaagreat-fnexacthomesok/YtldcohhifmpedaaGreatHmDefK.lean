/- Homes that are right. -/
import Derived.Test.YtldcohhifmpedaaGreatKClM
import Derived.Test.YtldcohhifmpedaaGreatKHm
namespace Go.Proofs.YtldcohhifmpedaaGreat
open Go.ChangeShapes Go.WideShapes Go.ChangeAt Go.RowKit Go.Shelf
set_option linter.unusedVariables false

def Apart (S : Int → Int → Prop) (l : List Int) : Prop := ∀ a b : Nat, S a b → l.getD a 0 ≠ l.getD b 0
def HomesOkP (F : FnD) (l : List Int) : Prop := FnPlain F ∧ (l.length : Int) = F.values ∧ HomesIn l ∧ Apart (Clsh F) l
open Classical in
noncomputable def homesOkOf (F : FnD) (l : List Int) : Bool := decide (HomesOkP F l)
theorem homesOkOf_iff {F : FnD} {l : List Int} : homesOkOf F l = true ↔ HomesOkP F l := by unfold homesOkOf; simp
theorem homesOkOf_eq {F : FnD} {l : List Int} {r : Bool} (h : r = true ↔ HomesOkP F l) : homesOkOf F l = r := by
  cases r
  · cases h2 : homesOkOf F l with
    | false => rfl
    | true => have := h.2 (homesOkOf_iff.1 h2); cases this
  · exact homesOkOf_iff.2 (h.1 rfl)

end Go.Proofs.YtldcohhifmpedaaGreat
