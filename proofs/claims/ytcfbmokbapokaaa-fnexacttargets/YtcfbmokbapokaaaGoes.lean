/- Whether a block follows another one, and the list of those that follow: the program's goesTo and what Succs gathers. -/
import Derived.Test.YtcfbmokbapokaaaSeq
import Derived.Maps.AppendAt
namespace Go.Proofs.Ytcfbmokbapokaaa
open Go.ChangeShapes Go.WideShapes Go.ChangeAt Go.RowKit Go.Shelf
set_option linter.unusedVariables false
attribute [local go_sem] Oper.semAt_some

theorem keepsB_setCell {B b : Nat} (W : World) (v : Value) (h : b ≠ B) : KeepsB B W (W.setCell ⟨b, 0, none⟩ v) := Below.heap_setCell _ _ _ B (by intro e; exact h (by simpa using e.symm))

theorem succsV_small (k t e : Int) : (succsV k t e).length ≤ 2 := by
  unfold succsV
  split
  · simp
  · split
    · split <;> simp
    · simp

end Go.Proofs.Ytcfbmokbapokaaa
