/- Marking a program turns its own numbers alone. -/
import Derived.Test.YtebcocehdjoafaaDoorMark
namespace Go.Proofs.YtebcocehdjoafaaDoor
open Go.ChangeShapes Go.WideShapes Go.ChangeAt Go.RowKit
set_option linter.unusedVariables false

/-- Nothing there is frozen. -/
def Thaw (lo hi : Nat) (w : World) : Prop := ∀ p : Addr, lo ≤ p.block → p.block < hi → w.frozen? p = false
theorem Thaw.turn {lo hi : Nat} {w w' : World} (h : Thaw lo hi w) (t : Turns lo hi w w') : Thaw lo hi w' := fun p h1 h2 => (t.fz p).trans (h p h1 h2)
/-- So many marks at most were put. -/
def GivesMark (lo hi : Nat) (q c : Int) (w : World) (e : Ending) (w' : World) : Prop := ∃ z, e = .returned (.int .i64 z) ∧ q ≤ z ∧ z ≤ q + c ∧ Turns lo hi w w'

/-- A program was marked: what lies below lo and from hi on is as it was. -/
structure Marked (lo hi : Nat) (w w' : World) : Prop where
  bel : Below lo w w'
  above : ∀ k, hi ≤ k → k < w.heap.size → w'.heap[k]? = w.heap[k]?

end Go.Proofs.YtebcocehdjoafaaDoor
