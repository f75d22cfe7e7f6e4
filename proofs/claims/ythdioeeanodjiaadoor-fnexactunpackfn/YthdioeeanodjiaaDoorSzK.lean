/- The laws' measure of a program: where it does not fall below 0 no list of the program is long. -/
import Derived.Test.YthdioeeanodjiaaDoorToK
import Derived.Handy
namespace Go.Proofs.YthdioeeanodjiaaDoor
open Go.ChangeShapes Go.WideShapes Go.ChangeAt Go.RowKit
set_option linter.unusedVariables false

/-- A measure is returned; where it is not below 0, p. -/
def GivesSz (p : Prop) (w : World) (e : Ending) (w' : World) : Prop := ∃ r : Int, e = .returned (.int .i64 r) ∧ -1 ≤ r ∧ r ≤ 1048576 ∧ (0 ≤ r → p) ∧ Below w.heap.size w w'

end Go.Proofs.YthdioeeanodjiaaDoor
