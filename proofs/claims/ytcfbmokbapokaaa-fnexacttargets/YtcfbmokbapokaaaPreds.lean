/- Preds, of the program and of the model: the blocks that come ahead, ascending. -/
import Derived.Test.YtcfbmokbapokaaaSSuccs
namespace Go.Proofs.Ytcfbmokbapokaaa
open Go.ChangeShapes Go.WideShapes Go.ChangeAt Go.RowKit Go.Shelf
set_option linter.unusedVariables false

/-- The block in which the list lies is none of another type. -/
theorem OwnInts.not_box {w : World} {lo : Nat} {v : Value} {l : List Int} (h : OwnInts w lo v l) {B : Nat} {c : Array Value} {t : TypeId} {z : Nat × Nat} (hB : w.heap[B]? = some (.cells c t z)) (ht : t ≠ 3) : some B ≠ v.ownBlock := by
  rcases h.2 with ⟨rfl, _⟩ | ⟨g, cap, cur, rfl, _, hgb, _⟩
  · simp [Value.ownBlock]
  · intro e'
    obtain rfl : B = g := by simpa [Value.ownBlock] using e'
    have := hB.symm.trans hgb
    simp at this
    exact ht this.2.1

theorem OwnInts.next {w : World} {lo : Nat} {v : Value} {l : List Int} {x : Int} (h : w.ownsRow lo 3 1 v (l.length + 1) (l.map (fun x => Value.int .i64 x) ++ [Value.int .i64 x])) : OwnInts w lo v (l ++ [x]) := by
  unfold OwnInts
  simpa using h
theorem OwnInts.grown {W w1 : World} {lo : Nat} {v : Value} {l : List Int} (h : OwnInts W lo v l) (hlo : lo ≤ W.heap.size) {o : Obj} (hg : (W.alloc o).grownBy w1 v.ownBlock) : Below lo W w1 := by
  refine ((Below.refl lo W).alloc hlo o).grown hg (by simp; omega) fun j ej => ?_
  rcases h.2 with ⟨rfl, _⟩ | ⟨g, cap, cur, rfl, hb, _, _⟩
  · simp [Value.ownBlock] at ej
  · obtain rfl : g = j := by simpa [Value.ownBlock] using ej
    exact hb

end Go.Proofs.Ytcfbmokbapokaaa
