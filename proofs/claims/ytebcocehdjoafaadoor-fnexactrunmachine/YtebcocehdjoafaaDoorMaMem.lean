/- A machine of the program in memory: its struct, what it reads, what was told. -/
import Derived.Test.YtebcocehdjoafaaDoorRunMem
import Derived.Test.YtebcocehdjoafaaDoorMaDef
namespace Go.Proofs.YtebcocehdjoafaaDoor
open Go.ChangeShapes Go.WideShapes Go.ChangeAt Go.RowKit Go.Shelf
set_option linter.unusedVariables false

/-- The cells of a machine. -/
structure MacCells (w : World) (M : Nat) (regs slots cells : Nat → Int) (fuel pc : Int) (over : Bool) (how en : Int) (rv tv : Value) : Prop where
  row : ∃ c, w.heap[M]? = some (.cells c 78 (0, 0))
  c0 : w.cell? ⟨M, 0, none⟩ = some rv
  c1 : w.cell? ⟨M, 1, none⟩ = some (.int .i64 fuel)
  cc : ∀ i, i < 8 → w.cell? ⟨M, 2 + i, none⟩ = some (.int .i64 (cells i))
  c10 : w.cell? ⟨M, 10, none⟩ = some tv
  c11 : w.cell? ⟨M, 11, none⟩ = some (.int .i64 pc)
  cr : ∀ i, i < 8 → w.cell? ⟨M, 12 + i, none⟩ = some (.int .i64 (regs i))
  cs : ∀ i, i < 40 → w.cell? ⟨M, 20 + i, none⟩ = some (.int .i64 (slots i))
  c60 : w.cell? ⟨M, 60, none⟩ = some (.bool over)
  c61 : w.cell? ⟨M, 61, none⟩ = some (.int .i64 how)
  c62 : w.cell? ⟨M, 62, none⟩ = some (.int .i64 en)
section
variable {w w' : World} {M : Nat} {regs slots cells : Nat → Int} {fuel pc : Int} {over : Bool} {how en : Int} {rv tv : Value}
theorem MacCells.lt (h : MacCells w M regs slots cells fuel pc over how en rv tv) : M < w.heap.size := by
  obtain ⟨c, hc⟩ := h.row
  exact (Array.getElem?_eq_some_iff.1 hc).1
theorem MacCells.moved (h : MacCells w M regs slots cells fuel pc over how en rv tv) (hr : w'.heap[M]? = w.heap[M]?) : MacCells w' M regs slots cells fuel pc over how en rv tv :=
  ⟨by rw [hr]; exact h.row, (cell_of_heap hr _).trans h.c0, (cell_of_heap hr _).trans h.c1, fun i hi => (cell_of_heap hr _).trans (h.cc i hi), (cell_of_heap hr _).trans h.c10, (cell_of_heap hr _).trans h.c11, fun i hi => (cell_of_heap hr _).trans (h.cr i hi), fun i hi => (cell_of_heap hr _).trans (h.cs i hi), (cell_of_heap hr _).trans h.c60, (cell_of_heap hr _).trans h.c61, (cell_of_heap hr _).trans h.c62⟩
theorem MacCells.later (h : MacCells w M regs slots cells fuel pc over how en rv tv) (hb : Below w.heap.size w w') : MacCells w' M regs slots cells fuel pc over how en rv tv := h.moved (hb.block _ h.lt)
theorem MacCells.setReg (h : MacCells w M regs slots cells fuel pc over how en rv tv) {d : Nat} (hd : d < 8) (x : Int) : MacCells (w.setCell ⟨M, 12 + d, none⟩ (.int .i64 x)) M (updN regs d x) slots cells fuel pc over how en rv tv := by
  refine ⟨rcells_set h.row, far_off h.c0 (by omega), far_off h.c1 (by omega), fun i hi => far_off (h.cc i hi) (by omega), far_off h.c10 (by omega), far_off h.c11 (by omega), fun i hi => ?_, fun i hi => far_off (h.cs i hi) (by omega), far_off h.c60 (by omega), far_off h.c61 (by omega), far_off h.c62 (by omega)⟩
  unfold updN
  by_cases e : i = d
  · subst e
    rw [if_pos rfl]
    exact World.cell?_setCell_same _ _ _ (h.cr i hi)
  · rw [if_neg e]
    exact far_off (h.cr i hi) (by omega)
theorem MacCells.setSlot (h : MacCells w M regs slots cells fuel pc over how en rv tv) {d : Nat} (hd : d < 40) (x : Int) : MacCells (w.setCell ⟨M, 20 + d, none⟩ (.int .i64 x)) M regs (updN slots d x) cells fuel pc over how en rv tv := by
  refine ⟨rcells_set h.row, far_off h.c0 (by omega), far_off h.c1 (by omega), fun i hi => far_off (h.cc i hi) (by omega), far_off h.c10 (by omega), far_off h.c11 (by omega), fun i hi => far_off (h.cr i hi) (by omega), fun i hi => ?_, far_off h.c60 (by omega), far_off h.c61 (by omega), far_off h.c62 (by omega)⟩
  unfold updN
  by_cases e : i = d
  · subst e
    rw [if_pos rfl]
    exact World.cell?_setCell_same _ _ _ (h.cs i hi)
  · rw [if_neg e]
    exact far_off (h.cs i hi) (by omega)
theorem MacCells.setCell (h : MacCells w M regs slots cells fuel pc over how en rv tv) {d : Nat} (hd : d < 8) (x : Int) : MacCells (w.setCell ⟨M, 2 + d, none⟩ (.int .i64 x)) M regs slots (updN cells d x) fuel pc over how en rv tv := by
  refine ⟨rcells_set h.row, far_off h.c0 (by omega), far_off h.c1 (by omega), fun i hi => ?_, far_off h.c10 (by omega), far_off h.c11 (by omega), fun i hi => far_off (h.cr i hi) (by omega), fun i hi => far_off (h.cs i hi) (by omega), far_off h.c60 (by omega), far_off h.c61 (by omega), far_off h.c62 (by omega)⟩
  unfold updN
  by_cases e : i = d
  · subst e
    rw [if_pos rfl]
    exact World.cell?_setCell_same _ _ _ (h.cc i hi)
  · rw [if_neg e]
    exact far_off (h.cc i hi) (by omega)
theorem MacCells.setReads (h : MacCells w M regs slots cells fuel pc over how en rv tv) (x : Value) : MacCells (w.setCell ⟨M, 0, none⟩ x) M regs slots cells fuel pc over how en x tv :=
  ⟨rcells_set h.row, World.cell?_setCell_same _ _ _ h.c0, far_off h.c1 (by omega), fun i hi => far_off (h.cc i hi) (by omega), far_off h.c10 (by omega), far_off h.c11 (by omega), fun i hi => far_off (h.cr i hi) (by omega), fun i hi => far_off (h.cs i hi) (by omega), far_off h.c60 (by omega), far_off h.c61 (by omega), far_off h.c62 (by omega)⟩
theorem MacCells.setFuel (h : MacCells w M regs slots cells fuel pc over how en rv tv) (x : Int) : MacCells (w.setCell ⟨M, 1, none⟩ (.int .i64 x)) M regs slots cells x pc over how en rv tv :=
  ⟨rcells_set h.row, far_off h.c0 (by omega), World.cell?_setCell_same _ _ _ h.c1, fun i hi => far_off (h.cc i hi) (by omega), far_off h.c10 (by omega), far_off h.c11 (by omega), fun i hi => far_off (h.cr i hi) (by omega), fun i hi => far_off (h.cs i hi) (by omega), far_off h.c60 (by omega), far_off h.c61 (by omega), far_off h.c62 (by omega)⟩
theorem MacCells.setTold (h : MacCells w M regs slots cells fuel pc over how en rv tv) (x : Value) : MacCells (w.setCell ⟨M, 10, none⟩ x) M regs slots cells fuel pc over how en rv x :=
  ⟨rcells_set h.row, far_off h.c0 (by omega), far_off h.c1 (by omega), fun i hi => far_off (h.cc i hi) (by omega), World.cell?_setCell_same _ _ _ h.c10, far_off h.c11 (by omega), fun i hi => far_off (h.cr i hi) (by omega), fun i hi => far_off (h.cs i hi) (by omega), far_off h.c60 (by omega), far_off h.c61 (by omega), far_off h.c62 (by omega)⟩
theorem MacCells.setPc (h : MacCells w M regs slots cells fuel pc over how en rv tv) (x : Int) : MacCells (w.setCell ⟨M, 11, none⟩ (.int .i64 x)) M regs slots cells fuel x over how en rv tv :=
  ⟨rcells_set h.row, far_off h.c0 (by omega), far_off h.c1 (by omega), fun i hi => far_off (h.cc i hi) (by omega), far_off h.c10 (by omega), World.cell?_setCell_same _ _ _ h.c11, fun i hi => far_off (h.cr i hi) (by omega), fun i hi => far_off (h.cs i hi) (by omega), far_off h.c60 (by omega), far_off h.c61 (by omega), far_off h.c62 (by omega)⟩
theorem MacCells.setOver (h : MacCells w M regs slots cells fuel pc over how en rv tv) (x : Bool) : MacCells (w.setCell ⟨M, 60, none⟩ (.bool x)) M regs slots cells fuel pc x how en rv tv :=
  ⟨rcells_set h.row, far_off h.c0 (by omega), far_off h.c1 (by omega), fun i hi => far_off (h.cc i hi) (by omega), far_off h.c10 (by omega), far_off h.c11 (by omega), fun i hi => far_off (h.cr i hi) (by omega), fun i hi => far_off (h.cs i hi) (by omega), World.cell?_setCell_same _ _ _ h.c60, far_off h.c61 (by omega), far_off h.c62 (by omega)⟩
theorem MacCells.setHow (h : MacCells w M regs slots cells fuel pc over how en rv tv) (x : Int) : MacCells (w.setCell ⟨M, 61, none⟩ (.int .i64 x)) M regs slots cells fuel pc over x en rv tv :=
  ⟨rcells_set h.row, far_off h.c0 (by omega), far_off h.c1 (by omega), fun i hi => far_off (h.cc i hi) (by omega), far_off h.c10 (by omega), far_off h.c11 (by omega), fun i hi => far_off (h.cr i hi) (by omega), fun i hi => far_off (h.cs i hi) (by omega), far_off h.c60 (by omega), World.cell?_setCell_same _ _ _ h.c61, far_off h.c62 (by omega)⟩
theorem MacCells.setEnd (h : MacCells w M regs slots cells fuel pc over how en rv tv) (x : Int) : MacCells (w.setCell ⟨M, 62, none⟩ (.int .i64 x)) M regs slots cells fuel pc over how x rv tv :=
  ⟨rcells_set h.row, far_off h.c0 (by omega), far_off h.c1 (by omega), fun i hi => far_off (h.cc i hi) (by omega), far_off h.c10 (by omega), far_off h.c11 (by omega), fun i hi => far_off (h.cr i hi) (by omega), fun i hi => far_off (h.cs i hi) (by omega), far_off h.c60 (by omega), far_off h.c61 (by omega), World.cell?_setCell_same _ _ _ h.c62⟩
end

/-- How a machine stands besides: its fuel, whether it is over, how, and the end. -/
structure MacE where
  fuel : Nat
  over : Bool
  how : Int
  en : Int

/-- A machine, with all that belongs to it. -/
structure MacAt (W0 w : World) (M : Nat) (m : MacS) (x : MacE) (rv tv : Value) : Prop where
  cells : MacCells w M m.regs m.slots m.cells (x.fuel : Int) (m.pc : Int) x.over x.how x.en rv tv
  reads : ReadsAt W0 rv m.reads
  told : OwnInts w W0.heap.size tv m.told
  below : Below W0.heap.size W0 w
  hM : W0.heap.size ≤ M
def MacIs (W0 w : World) (M : Nat) (m : MacS) (x : MacE) : Prop := ∃ rv tv, MacAt W0 w M m x rv tv
/-- A machine that has come to m. -/
def MacTo (W0 : World) (M : Nat) (w : World) (m : MacS) (x : MacE) (w' : World) : Prop := MacIs W0 w' M m x ∧ FrR M M w w'

section
variable {W0 w w' : World} {M : Nat} {m : MacS} {x : MacE} {rv tv : Value}
theorem MacAt.later (h : MacAt W0 w M m x rv tv) (hb : Below w.heap.size w w') : MacAt W0 w' M m x rv tv := ⟨h.cells.later hb, h.reads, h.told.keep hb, Bel.after h.below hb, h.hM⟩
theorem MacAt.drew (h : MacAt W0 w M m x rv tv) : MacAt W0 w.drew M m x rv tv := h.later (Below.refl _ _).drew
theorem MacIs.later (h : MacIs W0 w M m x) (hb : Below w.heap.size w w') : MacIs W0 w' M m x := by
  obtain ⟨rv, tv, h⟩ := h
  exact ⟨rv, tv, h.later hb⟩
theorem MacIs.lt (h : MacIs W0 w M m x) : M < w.heap.size := by
  obtain ⟨rv, tv, h⟩ := h
  exact h.cells.lt
theorem MacAt.frozen (h : MacAt W0 w M m x rv tv) (o : Nat) : w.frozen? ⟨M, o, none⟩ = false := frozen_of_cells h.cells.row o
theorem MacAt.setReg (h : MacAt W0 w M m x rv tv) {d : Nat} (hd : d < 8) (y : Int) : MacAt W0 (w.setCell ⟨M, 12 + d, none⟩ (.int .i64 y)) M { m with regs := updN m.regs d y } x rv tv :=
  ⟨h.cells.setReg hd y, h.reads, own_far h.told h.cells.row (by decide), h.below.setCell (p := ⟨M, 12 + d, none⟩) h.hM _, h.hM⟩
theorem MacAt.setSlot (h : MacAt W0 w M m x rv tv) {d : Nat} (hd : d < 40) (y : Int) : MacAt W0 (w.setCell ⟨M, 20 + d, none⟩ (.int .i64 y)) M { m with slots := updN m.slots d y } x rv tv :=
  ⟨h.cells.setSlot hd y, h.reads, own_far h.told h.cells.row (by decide), h.below.setCell (p := ⟨M, 20 + d, none⟩) h.hM _, h.hM⟩
theorem MacAt.setCell (h : MacAt W0 w M m x rv tv) {d : Nat} (hd : d < 8) (y : Int) : MacAt W0 (w.setCell ⟨M, 2 + d, none⟩ (.int .i64 y)) M { m with cells := updN m.cells d y } x rv tv :=
  ⟨h.cells.setCell hd y, h.reads, own_far h.told h.cells.row (by decide), h.below.setCell (p := ⟨M, 2 + d, none⟩) h.hM _, h.hM⟩
theorem MacAt.setFuel (h : MacAt W0 w M m x rv tv) (k : Nat) : MacAt W0 (w.setCell ⟨M, 1, none⟩ (.int .i64 (k : Int))) M m { x with fuel := k } rv tv :=
  ⟨h.cells.setFuel k, h.reads, own_far h.told h.cells.row (by decide), h.below.setCell (p := ⟨M, 1, none⟩) h.hM _, h.hM⟩
theorem MacAt.setPc (h : MacAt W0 w M m x rv tv) (k : Nat) : MacAt W0 (w.setCell ⟨M, 11, none⟩ (.int .i64 (k : Int))) M { m with pc := k } x rv tv :=
  ⟨h.cells.setPc k, h.reads, own_far h.told h.cells.row (by decide), h.below.setCell (p := ⟨M, 11, none⟩) h.hM _, h.hM⟩
theorem MacAt.setOver (h : MacAt W0 w M m x rv tv) (b : Bool) : MacAt W0 (w.setCell ⟨M, 60, none⟩ (.bool b)) M m { x with over := b } rv tv :=
  ⟨h.cells.setOver b, h.reads, own_far h.told h.cells.row (by decide), h.below.setCell (p := ⟨M, 60, none⟩) h.hM _, h.hM⟩
theorem MacAt.setHow (h : MacAt W0 w M m x rv tv) (y : Int) : MacAt W0 (w.setCell ⟨M, 61, none⟩ (.int .i64 y)) M m { x with how := y } rv tv :=
  ⟨h.cells.setHow y, h.reads, own_far h.told h.cells.row (by decide), h.below.setCell (p := ⟨M, 61, none⟩) h.hM _, h.hM⟩
theorem MacAt.setEnd (h : MacAt W0 w M m x rv tv) (y : Int) : MacAt W0 (w.setCell ⟨M, 62, none⟩ (.int .i64 y)) M m { x with en := y } rv tv :=
  ⟨h.cells.setEnd y, h.reads, own_far h.told h.cells.row (by decide), h.below.setCell (p := ⟨M, 62, none⟩) h.hM _, h.hM⟩
theorem MacAt.setReads (h : MacAt W0 w M m x rv tv) {y : Value} {l : List Int} (hx : ReadsAt W0 y l) : MacAt W0 (w.setCell ⟨M, 0, none⟩ y) M { m with reads := l } x y tv :=
  ⟨h.cells.setReads y, hx, own_far h.told h.cells.row (by decide), h.below.setCell (p := ⟨M, 0, none⟩) h.hM _, h.hM⟩
end
end Go.Proofs.YtebcocehdjoafaaDoor
