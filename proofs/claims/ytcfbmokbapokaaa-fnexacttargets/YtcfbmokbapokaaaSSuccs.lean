/- The model's Succs: the blocks that follow, for every program and every number. -/
import Derived.Test.YtcfbmokbapokaaaSuccs
import Derived.Test.YtcfbmokbapokaaaShape8
namespace Go.Proofs.Ytcfbmokbapokaaa
open Go.ChangeShapes Go.WideShapes Go.ChangeAt Go.RowKit Go.Shelf
set_option linter.unusedVariables false

theorem ownInts_one {w : World} {x : Int} {g lo : Nat} (hg : w.heap.size = g) (hl : lo ≤ g) : OwnInts (w.alloc (.cells #[.int .i64 x] 3)) lo (.slice (some ⟨g, 0, none⟩) 1 1) [x] := by
  subst hg
  exact ⟨rfl, .inr ⟨w.heap.size, 1, #[.int .i64 x], rfl, hl, World.alloc_heap_new w _, Nat.le_refl _, by decide, rfl, rfl⟩⟩
theorem ownInts_two {w : World} {x y : Int} {g lo : Nat} (hg : w.heap.size = g) (hl : lo ≤ g) : OwnInts (w.alloc (.cells #[.int .i64 x, .int .i64 y] 3)) lo (.slice (some ⟨g, 0, none⟩) 2 2) [x, y] := by
  subst hg
  exact ⟨rfl, .inr ⟨w.heap.size, 2, #[.int .i64 x, .int .i64 y], rfl, hl, World.alloc_heap_new w _, Nat.le_refl _, by decide, rfl, rfl⟩⟩
theorem ownInts_nil {w : World} {g lo : Nat} (hg : w.heap.size = g) (hl : lo ≤ g) : OwnInts (w.alloc (.cells #[] 3)) lo (.slice (some ⟨g, 0, none⟩) 0 0) [] := by
  subst hg
  exact (ownInts_new w).low hl

/-- A program is written out. -/
theorem FnAt.out {w : World} {v : Value} {F : FnD} (h : FnAt w v F) {n : Nat} {vals : Int} (hn : F.blocks.length = n) (hv : F.values = vals) : ∃ ba bcap, v = .agg #[.slice ba n bcap, .int .i64 vals] := by
  obtain ⟨bv, rfl, a, cap, rfl, _⟩ := h
  exact ⟨a, cap, by rw [hn, hv]⟩

/-- There is such a block of what is right. -/
def RightAt (F : FnD) (b : Int) : Prop := FnShape F ∧ 0 ≤ b ∧ b < F.blocks.length

end Go.Proofs.Ytcfbmokbapokaaa
