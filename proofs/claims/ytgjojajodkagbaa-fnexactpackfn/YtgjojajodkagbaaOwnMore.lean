/- Lists of the call's own beside a program that is marked. -/
import Derived.Test.YtgjojajodkagbaaOwn
import Derived.Test.YtgjojajodkagbaaMark2
namespace Go.Proofs.Ytgjojajodkagbaa
open Go.ChangeShapes Go.WideShapes Go.ChangeAt Go.RowKit
set_option linter.unusedVariables false

theorem ownsRow_marked {w w' : World} {lo hi b e s : Nat} {v : Value} {k : Nat} {xs : List Value} (h : w.ownsRow b e s v k xs) (m : Marked lo hi w w') (hv : ∀ g, v.ownBlock = some g → g < lo ∨ hi ≤ g) : w'.ownsRow b e s v k xs := by
  obtain ⟨h0, h1⟩ := h
  refine ⟨h0, ?_⟩
  rcases h1 with h1 | ⟨g, cap, cur, rfl, hlo, hg, h2⟩
  · exact .inl h1
  · refine .inr ⟨g, cap, cur, rfl, hlo, ?_, h2⟩
    rcases hv g rfl with h3 | h3
    · exact (m.bel.block g h3).trans hg
    · exact (m.above g h3 (Array.getElem?_eq_some_iff.1 hg).1).trans hg
theorem OwnInts.marked {w w' : World} {lo hi b : Nat} {v : Value} {l : List Int} (h : OwnInts w b v l) (m : Marked lo hi w w') (hv : ∀ g, v.ownBlock = some g → g < lo ∨ hi ≤ g) : OwnInts w' b v l := ownsRow_marked h m hv
theorem OwnInts.lt {w : World} {b : Nat} {v : Value} {l : List Int} (h : OwnInts w b v l) : ∀ g, v.ownBlock = some g → b ≤ g ∧ g < w.heap.size := World.ownsRow.lt h
end Go.Proofs.Ytgjojajodkagbaa
