/- What it is to be of the right shape. -/
import Derived.Test.YtgjojajodkagbaaShape2
import Derived.Test.YtgjojajodkagbaaPhi1
namespace Go.Proofs.Ytgjojajodkagbaa
open Go.ChangeShapes Go.WideShapes Go.ChangeAt Go.RowKit
set_option linter.unusedVariables false

def placeOkV (vals : Int) (x : InsD) : Bool := insOkV vals x.op x.d x.a x.b x.n
/-- Is a block right, of so many blocks and values? -/
def BlockOk (n vals : Int) (x : BlockD) : Prop :=
  x.phis.length ≤ 24 ∧ x.list.length ≤ 24 ∧ (∀ (j : Nat) p, x.phis[j]? = some p → PhiOk n vals p) ∧ (∀ (j : Nat) i, x.list[j]? = some i → placeOkV vals i = true) ∧ termOkV n vals x.term.k x.term.a x.term.t x.term.e = true

/-- Is a program of the right shape? -/
def FnShape (F : FnD) : Prop := 1 ≤ F.blocks.length ∧ F.blocks.length ≤ 16 ∧ 0 ≤ F.values ∧ F.values ≤ 80 ∧ ∀ (j : Nat) b, F.blocks[j]? = some b → BlockOk (F.blocks.length : Int) F.values b
end Go.Proofs.Ytgjojajodkagbaa
