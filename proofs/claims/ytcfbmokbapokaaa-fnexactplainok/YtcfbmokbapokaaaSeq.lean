/- The blocks that follow a block: the program's iterator by its contract, for every end of a block. -/
import Derived.Test.YtcfbmokbapokaaaDeep
import Derived.RangeFuncNested
import Derived.RangeFuncBound
import Derived.RangeFuncCalls
import Derived.RangeFuncLeaves
import Derived.Shelf.Abstract
import Derived.Shelf.RegionOpen
import Derived.WalkKit
import Derived.OwnWalkIn
import Derived.TacticsInMore
import Derived.LoopNIn
import Derived.LoopIn
namespace Go.Proofs.Ytcfbmokbapokaaa
open Go.ChangeShapes Go.WideShapes Go.ChangeAt Go.RowKit Go.Shelf
set_option linter.unusedVariables false
attribute [local go_sem] Oper.semAt_some

/-- The blocks that follow an end. -/
def succsV (k t e : Int) : List Int := if k = 1 then [t] else if k = 2 then (if e = t then [t] else [t, e]) else []
theorem succsV_jump (t e : Int) : succsV 1 t e = [t] := by simp [succsV]
theorem succsV_one {t e : Int} (h : e = t) : succsV 2 t e = [t] := by simp [succsV, h]
theorem succsV_two {t e : Int} (h : ¬ e = t) : succsV 2 t e = [t, e] := by simp [succsV, h]
theorem succsV_none {k t e : Int} (h1 : ¬ k = 1) (h2 : ¬ k = 2) : succsV k t e = [] := by simp [succsV, h1, h2]

/-- Block B lies as it lay. -/
def KeepsB (B : Nat) (W W' : World) : Prop := W'.heap[B]? = W.heap[B]?
theorem KeepsB.cell {B : Nat} {W W' : World} (h : KeepsB B W W') (j : Nat) : W'.cell? ⟨B, j, none⟩ = W.cell? ⟨B, j, none⟩ := World.cell?_of_block (w := W) h
theorem keepsB_t {B : Nat} {X Y Z : World} (h : KeepsB B X Y) (k : KeepsB B Y Z) : KeepsB B X Z := k.trans h
theorem keepsB_b {B : Nat} {w : World} (hB : B < w.heap.size) (W : World) (l : Nat) (o o' : Obj) (hl : w.heap.size ≤ l) (_ : W.heap[l]? = some o) (_ : o.isCells = false) (_ : o.isWalk = false) : KeepsB B W (W.putObj l o') := World.putObj_heap_other (by omega)

/-- The end of a block in a box. -/
def EndBox (W : World) (B : Nat) (k a t e : Int) : Prop := W.heap[B]? = some (.cells #[.int .i64 k, .int .i64 a, .int .i64 t, .int .i64 e] 42 (0, 0))
theorem EndBox.cells {W : World} {B : Nat} {k a t e : Int} (h : EndBox W B k a t e) : W.cell? ⟨B, 0, none⟩ = some (.int .i64 k) ∧ W.cell? ⟨B, 1, none⟩ = some (.int .i64 a) ∧ W.cell? ⟨B, 2, none⟩ = some (.int .i64 t) ∧ W.cell? ⟨B, 3, none⟩ = some (.int .i64 e) := by
  refine ⟨?_, ?_, ?_, ?_⟩ <;> simp [World.cell?, show W.heap[B]? = _ from h]
theorem EndBox.kept {W W' : World} {B : Nat} {k a t e : Int} (h : EndBox W B k a t e) (hk : KeepsB B W W') : EndBox W' B k a t e := hk.trans h
theorem EndBox.lt {W : World} {B : Nat} {k a t e : Int} (h : EndBox W B k a t e) : B < W.heap.size := (Array.getElem?_eq_some_iff.1 h).1
theorem EndBox.new (W : World) (k a t e : Int) : EndBox (W.alloc (.cells #[.int .i64 k, .int .i64 a, .int .i64 t, .int .i64 e] 42)) W.heap.size k a t e := World.alloc_heap_new W _
theorem EndBox.own {β : Type} (B : Nat) (k a t e : Int) : Own (fun (_ : β) W => EndBox W B k a t e) := fun s X Y row hs hg hr =>
  (hg.block B (EndBox.lt hs) (fun e' => by
    obtain ⟨o, ho, hc⟩ := hr B e'.symm
    rw [show X.heap[B]? = _ from hs] at ho; cases ho; cases hc)).trans hs
/-- A list of numbers does not lie there. -/
theorem EndBox.not_row {W : World} {B : Nat} {k a t e : Int} (h : EndBox W B k a t e) {base size n : Nat} {v : Value} {xs : List Value} (hr : W.ownsRow base 3 size v n xs) : some B ≠ v.ownBlock := by
  rcases hr.2 with ⟨rfl, _⟩ | ⟨g, cap, cur, rfl, _, hgb, _⟩
  · simp [Value.ownBlock]
  · intro e'
    obtain rfl : B = g := by simpa [Value.ownBlock] using e'
    have := (show W.heap[B]? = _ from h).symm.trans hgb
    simp at this

end Go.Proofs.Ytcfbmokbapokaaa
