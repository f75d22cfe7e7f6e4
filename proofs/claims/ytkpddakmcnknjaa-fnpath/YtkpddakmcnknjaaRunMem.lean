/- A run of the program in memory: its struct, its place, what it reads, what was told, its way. -/
import Derived.Test.YtkpddakmcnknjaaRunDef
import Derived.Test.YtkpddakmcnknjaaPreds
import Derived.Test.YtkpddakmcnknjaaSets
import Derived.Test.YtkpddakmcnknjaaWord
import Derived.Deep.RegionHeld3
import Derived.Maps.AppendAt
namespace Go.Proofs.Ytkpddakmcnknjaa
open Go.ChangeShapes Go.WideShapes Go.ChangeAt Go.RowKit Go.Shelf
set_option linter.unusedVariables false

theorem cell_of_heap {w w' : World} {b : Nat} (h : w'.heap[b]? = w.heap[b]?) (o : Nat) : w'.cell? ⟨b, o, none⟩ = w.cell? ⟨b, o, none⟩ := by simp [World.cell?, h]
theorem frozen_of_cells {w : World} {b : Nat} {t : TypeId} (h : ∃ c, w.heap[b]? = some (.cells c t (0, 0))) (o : Nat) : w.frozen? ⟨b, o, none⟩ = false := by
  obtain ⟨c, h⟩ := h
  simp [World.frozen?, h]
theorem cells_set {w : World} {b o : Nat} {v : Value} {t : TypeId} (h : ∃ c, w.heap[b]? = some (.cells c t (0, 0))) : ∃ c, (w.setCell ⟨b, o, none⟩ v).heap[b]? = some (.cells c t (0, 0)) := by
  obtain ⟨c, h⟩ := h
  exact ⟨_, heap_setCell_same w b o c t v h⟩

/-- A list that is read from its front: it may be a part of another one. -/
def ReadsAt (w : World) (v : Value) (l : List Int) : Prop :=
  ∃ (a : Option Addr) (cap : Nat), v = .slice a l.length cap ∧ l.length ≤ cap ∧ cap ≤ 9223372036854775807 ∧ (0 < l.length → ∃ b off, a = some ⟨b, off, none⟩ ∧ ∀ i, i < l.length → w.cell? ⟨b, off + i, none⟩ = some (.int .i64 (l.getD i 0)))
theorem ReadsAt.keep {w w' : World} {v : Value} {l : List Int} (h : ReadsAt w v l) (hb : Below w.heap.size w w') : ReadsAt w' v l := by
  obtain ⟨a, cap, rfl, hm, hm2, hc⟩ := h
  refine ⟨a, cap, rfl, hm, hm2, fun hp => ?_⟩
  obtain ⟨b, off, rfl, hd⟩ := hc hp
  exact ⟨b, off, rfl, fun i hi => Bel.keeps hb (hd i hi)⟩

/-- The cells of a run and of its place. -/
structure RunCells (w : World) (R S : Nat) (bv : Value) (vals : Int) (vs cs : Nat → Int) (fuel fr pl : Int) (rv tv pv : Value) : Prop where
  row : ∃ c, w.heap[R]? = some (.cells c 65 (0, 0))
  srow : ∃ c, w.heap[S]? = some (.cells c 87 (0, 0))
  c0 : w.cell? ⟨R, 0, none⟩ = some rv
  c1 : w.cell? ⟨R, 1, none⟩ = some (.int .i64 fuel)
  cc : ∀ i, i < 8 → w.cell? ⟨R, 2 + i, none⟩ = some (.int .i64 (cs i))
  c10 : w.cell? ⟨R, 10, none⟩ = some tv
  c11 : w.cell? ⟨R, 11, none⟩ = some bv
  c12 : w.cell? ⟨R, 12, none⟩ = some (.int .i64 vals)
  c13 : w.cell? ⟨R, 13, none⟩ = some (.pointer (some ⟨S, 0, none⟩))
  cv : ∀ i, i < 80 → w.cell? ⟨R, 14 + i, none⟩ = some (.int .i64 (vs i))
  c94 : w.cell? ⟨R, 94, none⟩ = some pv
  s0 : w.cell? ⟨S, 0, none⟩ = some (.int .i64 fr)
  s1 : w.cell? ⟨S, 1, none⟩ = some (.int .i64 pl)
  ne : R ≠ S
section
variable {w w' : World} {R S : Nat} {bv : Value} {vals : Int} {vs cs : Nat → Int} {fuel fr pl : Int} {rv tv pv : Value}
theorem RunCells.lt (h : RunCells w R S bv vals vs cs fuel fr pl rv tv pv) : R < w.heap.size ∧ S < w.heap.size := by
  obtain ⟨c, hc⟩ := h.row
  obtain ⟨d, hd⟩ := h.srow
  exact ⟨(Array.getElem?_eq_some_iff.1 hc).1, (Array.getElem?_eq_some_iff.1 hd).1⟩
theorem RunCells.moved (h : RunCells w R S bv vals vs cs fuel fr pl rv tv pv) (hr : w'.heap[R]? = w.heap[R]?) (hs : w'.heap[S]? = w.heap[S]?) : RunCells w' R S bv vals vs cs fuel fr pl rv tv pv :=
  ⟨by rw [hr]; exact h.row, by rw [hs]; exact h.srow, (cell_of_heap hr _).trans h.c0, (cell_of_heap hr _).trans h.c1, fun i hi => (cell_of_heap hr _).trans (h.cc i hi), (cell_of_heap hr _).trans h.c10, (cell_of_heap hr _).trans h.c11, (cell_of_heap hr _).trans h.c12, (cell_of_heap hr _).trans h.c13, fun i hi => (cell_of_heap hr _).trans (h.cv i hi), (cell_of_heap hr _).trans h.c94, (cell_of_heap hs _).trans h.s0, (cell_of_heap hs _).trans h.s1, h.ne⟩
theorem RunCells.later (h : RunCells w R S bv vals vs cs fuel fr pl rv tv pv) (hb : Below w.heap.size w w') : RunCells w' R S bv vals vs cs fuel fr pl rv tv pv :=
  h.moved (hb.block _ h.lt.1) (hb.block _ h.lt.2)
theorem far_off {w : World} {R : Nat} {i o : Nat} {v x : Value} (h : w.cell? ⟨R, i, none⟩ = some x) (hne : i ≠ o) : (w.setCell ⟨R, o, none⟩ v).cell? ⟨R, i, none⟩ = some x := by
  rw [World.cell?_setCell_other _ _ _ _ (fun e => hne (by simpa using (congrArg Addr.off e).symm))]; exact h
theorem far_block {w : World} {R S : Nat} {i o : Nat} {v x : Value} (h : w.cell? ⟨S, i, none⟩ = some x) (hne : R ≠ S) : (w.setCell ⟨R, o, none⟩ v).cell? ⟨S, i, none⟩ = some x := by
  rw [World.cell?_setCell_other _ _ _ _ (fun e => hne (by simpa using congrArg Addr.block e))]; exact h
theorem RunCells.setVal (h : RunCells w R S bv vals vs cs fuel fr pl rv tv pv) {d : Nat} (hd : d < 80) (x : Int) : RunCells (w.setCell ⟨R, 14 + d, none⟩ (.int .i64 x)) R S bv vals (updN vs d x) cs fuel fr pl rv tv pv := by
  refine ⟨cells_set h.row, ?_, far_off h.c0 (by omega), far_off h.c1 (by omega), fun i hi => far_off (h.cc i hi) (by omega), far_off h.c10 (by omega), far_off h.c11 (by omega), far_off h.c12 (by omega), far_off h.c13 (by omega), fun i hi => ?_, far_off h.c94 (by omega), far_block h.s0 h.ne, far_block h.s1 h.ne, h.ne⟩
  · rw [heap_setCell_other _ _ _ _ (fun e => h.ne e.symm)]; exact h.srow
  · unfold updN
    by_cases e : i = d
    · subst e
      rw [if_pos rfl]
      exact World.cell?_setCell_same _ _ _ (h.cv i hi)
    · rw [if_neg e]
      exact far_off (h.cv i hi) (by omega)
theorem RunCells.setCell (h : RunCells w R S bv vals vs cs fuel fr pl rv tv pv) {d : Nat} (hd : d < 8) (x : Int) : RunCells (w.setCell ⟨R, 2 + d, none⟩ (.int .i64 x)) R S bv vals vs (updN cs d x) fuel fr pl rv tv pv := by
  refine ⟨cells_set h.row, ?_, far_off h.c0 (by omega), far_off h.c1 (by omega), fun i hi => ?_, far_off h.c10 (by omega), far_off h.c11 (by omega), far_off h.c12 (by omega), far_off h.c13 (by omega), fun i hi => far_off (h.cv i hi) (by omega), far_off h.c94 (by omega), far_block h.s0 h.ne, far_block h.s1 h.ne, h.ne⟩
  · rw [heap_setCell_other _ _ _ _ (fun e => h.ne e.symm)]; exact h.srow
  · unfold updN
    by_cases e : i = d
    · subst e
      rw [if_pos rfl]
      exact World.cell?_setCell_same _ _ _ (h.cc i hi)
    · rw [if_neg e]
      exact far_off (h.cc i hi) (by omega)
theorem RunCells.setFuel (h : RunCells w R S bv vals vs cs fuel fr pl rv tv pv) (x : Int) : RunCells (w.setCell ⟨R, 1, none⟩ (.int .i64 x)) R S bv vals vs cs x fr pl rv tv pv := by
  refine ⟨cells_set h.row, ?_, far_off h.c0 (by omega), World.cell?_setCell_same _ _ _ h.c1, fun i hi => far_off (h.cc i hi) (by omega), far_off h.c10 (by omega), far_off h.c11 (by omega), far_off h.c12 (by omega), far_off h.c13 (by omega), fun i hi => far_off (h.cv i hi) (by omega), far_off h.c94 (by omega), far_block h.s0 h.ne, far_block h.s1 h.ne, h.ne⟩
  rw [heap_setCell_other _ _ _ _ (fun e => h.ne e.symm)]; exact h.srow
theorem RunCells.setReads (h : RunCells w R S bv vals vs cs fuel fr pl rv tv pv) (x : Value) : RunCells (w.setCell ⟨R, 0, none⟩ x) R S bv vals vs cs fuel fr pl x tv pv := by
  refine ⟨cells_set h.row, ?_, World.cell?_setCell_same _ _ _ h.c0, far_off h.c1 (by omega), fun i hi => far_off (h.cc i hi) (by omega), far_off h.c10 (by omega), far_off h.c11 (by omega), far_off h.c12 (by omega), far_off h.c13 (by omega), fun i hi => far_off (h.cv i hi) (by omega), far_off h.c94 (by omega), far_block h.s0 h.ne, far_block h.s1 h.ne, h.ne⟩
  rw [heap_setCell_other _ _ _ _ (fun e => h.ne e.symm)]; exact h.srow
theorem RunCells.setTold (h : RunCells w R S bv vals vs cs fuel fr pl rv tv pv) (x : Value) : RunCells (w.setCell ⟨R, 10, none⟩ x) R S bv vals vs cs fuel fr pl rv x pv := by
  refine ⟨cells_set h.row, ?_, far_off h.c0 (by omega), far_off h.c1 (by omega), fun i hi => far_off (h.cc i hi) (by omega), World.cell?_setCell_same _ _ _ h.c10, far_off h.c11 (by omega), far_off h.c12 (by omega), far_off h.c13 (by omega), fun i hi => far_off (h.cv i hi) (by omega), far_off h.c94 (by omega), far_block h.s0 h.ne, far_block h.s1 h.ne, h.ne⟩
  rw [heap_setCell_other _ _ _ _ (fun e => h.ne e.symm)]; exact h.srow
theorem RunCells.setPath (h : RunCells w R S bv vals vs cs fuel fr pl rv tv pv) (x : Value) : RunCells (w.setCell ⟨R, 94, none⟩ x) R S bv vals vs cs fuel fr pl rv tv x := by
  refine ⟨cells_set h.row, ?_, far_off h.c0 (by omega), far_off h.c1 (by omega), fun i hi => far_off (h.cc i hi) (by omega), far_off h.c10 (by omega), far_off h.c11 (by omega), far_off h.c12 (by omega), far_off h.c13 (by omega), fun i hi => far_off (h.cv i hi) (by omega), World.cell?_setCell_same _ _ _ h.c94, far_block h.s0 h.ne, far_block h.s1 h.ne, h.ne⟩
  rw [heap_setCell_other _ _ _ _ (fun e => h.ne e.symm)]; exact h.srow
theorem RunCells.setFrom (h : RunCells w R S bv vals vs cs fuel fr pl rv tv pv) (x : Int) : RunCells (w.setCell ⟨S, 0, none⟩ (.int .i64 x)) R S bv vals vs cs fuel x pl rv tv pv := by
  have n : S ≠ R := fun e => h.ne e.symm
  refine ⟨?_, cells_set h.srow, far_block h.c0 n, far_block h.c1 n, fun i hi => far_block (h.cc i hi) n, far_block h.c10 n, far_block h.c11 n, far_block h.c12 n, far_block h.c13 n, fun i hi => far_block (h.cv i hi) n, far_block h.c94 n, World.cell?_setCell_same _ _ _ h.s0, far_off h.s1 (by omega), h.ne⟩
  rw [heap_setCell_other _ _ _ _ h.ne]; exact h.row
theorem RunCells.setPlace (h : RunCells w R S bv vals vs cs fuel fr pl rv tv pv) (x : Int) : RunCells (w.setCell ⟨S, 1, none⟩ (.int .i64 x)) R S bv vals vs cs fuel fr x rv tv pv := by
  have n : S ≠ R := fun e => h.ne e.symm
  refine ⟨?_, cells_set h.srow, far_block h.c0 n, far_block h.c1 n, fun i hi => far_block (h.cc i hi) n, far_block h.c10 n, far_block h.c11 n, far_block h.c12 n, far_block h.c13 n, fun i hi => far_block (h.cv i hi) n, far_block h.c94 n, far_off h.s0 (by omega), World.cell?_setCell_same _ _ _ h.s1, h.ne⟩
  rw [heap_setCell_other _ _ _ _ h.ne]; exact h.row
end

/-- A run, with all that belongs to it. -/
structure RunAt (W0 w : World) (R S : Nat) (bv : Value) (vals : Int) (s : RunS) (fr pl : Int) (rv tv pv : Value) : Prop where
  cells : RunCells w R S bv vals s.vals s.cells (s.fuel : Int) fr pl rv tv pv
  reads : ReadsAt W0 rv s.reads
  told : OwnInts w W0.heap.size tv s.told
  path : OwnInts w W0.heap.size pv s.path
  apart : ∀ g, tv.ownBlock = some g → pv.ownBlock = some g → False
  below : Below W0.heap.size W0 w
  hR : W0.heap.size ≤ R
  hS : W0.heap.size ≤ S
def RunIs (W0 w : World) (R S : Nat) (bv : Value) (vals : Int) (s : RunS) (fr pl : Int) : Prop := ∃ rv tv pv, RunAt W0 w R S bv vals s fr pl rv tv pv

section
variable {W0 w w' : World} {R S : Nat} {bv : Value} {vals : Int} {s : RunS} {fr pl : Int} {rv tv pv : Value}
theorem RunAt.later (h : RunAt W0 w R S bv vals s fr pl rv tv pv) (hb : Below w.heap.size w w') : RunAt W0 w' R S bv vals s fr pl rv tv pv :=
  ⟨h.cells.later hb, h.reads, h.told.keep hb, h.path.keep hb, h.apart, Bel.after h.below hb, h.hR, h.hS⟩
theorem own_far {w : World} {lo : Nat} {v : Value} {l : List Int} (h : OwnInts w lo v l) {b o : Nat} {x : Value} {t : TypeId} (hb : ∃ c, w.heap[b]? = some (.cells c t (0, 0))) (ht : t ≠ 3) : OwnInts (w.setCell ⟨b, o, none⟩ x) lo v l := by
  obtain ⟨c, hc⟩ := hb
  have hn := h.not_box hc ht
  obtain ⟨h0, h1⟩ := h
  refine ⟨h0, ?_⟩
  rcases h1 with h1 | ⟨g, cap, cur, rfl, hlo, hg, h2⟩
  · exact .inl h1
  · refine .inr ⟨g, cap, cur, rfl, hlo, ?_, h2⟩
    rw [heap_setCell_other _ _ _ _ (fun e => hn (by simp [Value.ownBlock]; exact e.symm))]
    exact hg
theorem RunAt.setVal (h : RunAt W0 w R S bv vals s fr pl rv tv pv) {d : Nat} (hd : d < 80) (x : Int) : RunAt W0 (w.setCell ⟨R, 14 + d, none⟩ (.int .i64 x)) R S bv vals { s with vals := updN s.vals d x } fr pl rv tv pv :=
  ⟨h.cells.setVal hd x, h.reads, own_far h.told h.cells.row (by decide), own_far h.path h.cells.row (by decide), h.apart, h.below.setCell (p := ⟨R, 14 + d, none⟩) h.hR _, h.hR, h.hS⟩
theorem RunAt.setCell (h : RunAt W0 w R S bv vals s fr pl rv tv pv) {d : Nat} (hd : d < 8) (x : Int) : RunAt W0 (w.setCell ⟨R, 2 + d, none⟩ (.int .i64 x)) R S bv vals { s with cells := updN s.cells d x } fr pl rv tv pv :=
  ⟨h.cells.setCell hd x, h.reads, own_far h.told h.cells.row (by decide), own_far h.path h.cells.row (by decide), h.apart, h.below.setCell (p := ⟨R, 2 + d, none⟩) h.hR _, h.hR, h.hS⟩
theorem RunAt.setFuel (h : RunAt W0 w R S bv vals s fr pl rv tv pv) (k : Nat) : RunAt W0 (w.setCell ⟨R, 1, none⟩ (.int .i64 (k : Int))) R S bv vals { s with fuel := k } fr pl rv tv pv :=
  ⟨h.cells.setFuel k, h.reads, own_far h.told h.cells.row (by decide), own_far h.path h.cells.row (by decide), h.apart, h.below.setCell (p := ⟨R, 1, none⟩) h.hR _, h.hR, h.hS⟩
theorem RunAt.setReads (h : RunAt W0 w R S bv vals s fr pl rv tv pv) {x : Value} {l : List Int} (hx : ReadsAt W0 x l) : RunAt W0 (w.setCell ⟨R, 0, none⟩ x) R S bv vals { s with reads := l } fr pl x tv pv :=
  ⟨h.cells.setReads x, hx, own_far h.told h.cells.row (by decide), own_far h.path h.cells.row (by decide), h.apart, h.below.setCell (p := ⟨R, 0, none⟩) h.hR _, h.hR, h.hS⟩
theorem RunAt.setFrom (h : RunAt W0 w R S bv vals s fr pl rv tv pv) (x : Int) : RunAt W0 (w.setCell ⟨S, 0, none⟩ (.int .i64 x)) R S bv vals s x pl rv tv pv :=
  ⟨h.cells.setFrom x, h.reads, own_far h.told h.cells.srow (by decide), own_far h.path h.cells.srow (by decide), h.apart, h.below.setCell (p := ⟨S, 0, none⟩) h.hS _, h.hR, h.hS⟩
theorem RunAt.setPlace (h : RunAt W0 w R S bv vals s fr pl rv tv pv) (x : Int) : RunAt W0 (w.setCell ⟨S, 1, none⟩ (.int .i64 x)) R S bv vals s fr x rv tv pv :=
  ⟨h.cells.setPlace x, h.reads, own_far h.told h.cells.srow (by decide), own_far h.path h.cells.srow (by decide), h.apart, h.below.setCell (p := ⟨S, 1, none⟩) h.hS _, h.hR, h.hS⟩
theorem RunAt.frozen (h : RunAt W0 w R S bv vals s fr pl rv tv pv) (o : Nat) : w.frozen? ⟨R, o, none⟩ = false := frozen_of_cells h.cells.row o
theorem RunAt.frozenS (h : RunAt W0 w R S bv vals s fr pl rv tv pv) (o : Nat) : w.frozen? ⟨S, o, none⟩ = false := frozen_of_cells h.cells.srow o
/-- What an append to the list tv leaves. -/
theorem grown_cells (h : RunAt W0 w R S bv vals s fr pl rv tv pv) {o : Obj} {wa : World} {v : Value} {l : List Int} (hv : OwnInts w W0.heap.size v l) (hg : (w.alloc o).grownBy wa v.ownBlock) : RunCells wa R S bv vals s.vals s.cells (s.fuel : Int) fr pl rv tv pv ∧ Below W0.heap.size W0 wa := by
  obtain ⟨c, hc⟩ := h.cells.row
  obtain ⟨d, hd⟩ := h.cells.srow
  have l1 := h.cells.lt.1
  have l2 := h.cells.lt.2
  refine ⟨h.cells.moved ?_ ?_, h.below.trans (hv.grown h.below.size hg)⟩
  · exact (hg.block R (by simp; omega) (hv.not_box hc (by decide))).trans (Below.heap_alloc _ _ _ l1)
  · exact (hg.block S (by simp; omega) (hv.not_box hd (by decide))).trans (Below.heap_alloc _ _ _ l2)
/-- The other list stays. -/
theorem grown_other {o : Obj} {wa : World} {v v2 : Value} {lo : Nat} {l2 : List Int} (h2 : OwnInts w lo v2 l2) (hg : (w.alloc o).grownBy wa v.ownBlock) (hap : ∀ g, v.ownBlock = some g → v2.ownBlock = some g → False) : OwnInts wa lo v2 l2 := by
  refine World.ownsRow.kept (World.ownsRow.alloc h2 _) hg ?_
  rcases h2.2 with ⟨rfl, _⟩ | ⟨g', cap, cur, rfl, _, hgb, _⟩
  · exact .inl rfl
  · exact .inr fun e => hap g' e.symm rfl
/-- No row of numbers. -/
def NoRow (o : Obj) : Prop := ∀ c z, o ≠ .cells c 3 z
/-- Nothing turned but the run, its place and rows of numbers. -/
structure FrR (R S : Nat) (w w' : World) : Prop where
  size : w.heap.size ≤ w'.heap.size
  block : ∀ k o, w.heap[k]? = some o → k ≠ R → k ≠ S → NoRow o → w'.heap[k]? = some o
theorem FrR.refl (R S : Nat) (w : World) : FrR R S w w := ⟨Nat.le_refl _, fun _ _ h _ _ _ => h⟩
theorem FrR.trans {R S : Nat} {a b c : World} (h : FrR R S a b) (k : FrR R S b c) : FrR R S a c :=
  ⟨Nat.le_trans h.size k.size, fun i o hi h1 h2 h3 => k.block i o (h.block i o hi h1 h2 h3) h1 h2 h3⟩
theorem FrR.ofBelow {R S : Nat} {a b : World} (h : Below a.heap.size a b) : FrR R S a b :=
  ⟨h.size, fun i o hi _ _ _ => (h.block i (Array.getElem?_eq_some_iff.1 hi).1).trans hi⟩
theorem FrR.setR (R S o : Nat) (v : Value) (w : World) : FrR R S w (w.setCell ⟨R, o, none⟩ v) :=
  ⟨by simp, fun i ob hi h1 _ _ => by rw [heap_setCell_other _ _ _ _ h1]; exact hi⟩
theorem FrR.setS (R S o : Nat) (v : Value) (w : World) : FrR R S w (w.setCell ⟨S, o, none⟩ v) :=
  ⟨by simp, fun i ob hi _ h2 _ => by rw [heap_setCell_other _ _ _ _ h2]; exact hi⟩
theorem FrR.drew (R S : Nat) (w : World) : FrR R S w w.drew := ⟨Nat.le_refl _, fun _ _ h _ _ _ => h⟩
theorem FrR.grown {R S lo : Nat} {w wa : World} {ob : Obj} {v : Value} {l : List Int} (hv : OwnInts w lo v l) (hg : (w.alloc ob).grownBy wa v.ownBlock) : FrR R S w wa := by
  refine ⟨Nat.le_trans (by simp) hg.size, fun i o hi _ _ h3 => ?_⟩
  have hlt := (Array.getElem?_eq_some_iff.1 hi).1
  refine (hg.block i (by simp; omega) ?_).trans ((Below.heap_alloc w _ i hlt).trans hi)
  intro e
  rcases hv.2 with ⟨rfl, _⟩ | ⟨g, cap, cur, rfl, _, hgb, _⟩
  · simp [Value.ownBlock] at e
  · obtain rfl : i = g := by simpa [Value.ownBlock] using e
    rw [hi] at hgb
    cases hgb
    exact h3 _ _ rfl
/-- A box of another type stays. -/
theorem FrR.box {R S : Nat} {w w' : World} (h : FrR R S w w') {B : Nat} {c : Array Value} {t : TypeId} {z : Nat × Nat} (hB : w.heap[B]? = some (.cells c t z)) (h1 : B ≠ R) (h2 : B ≠ S) (ht : t ≠ 3) : w'.heap[B]? = some (.cells c t z) :=
  h.block B _ hB h1 h2 (fun c' z' e => by cases e; exact ht rfl)
/-- A run that has come to s. -/
def RunTo (W0 : World) (R S : Nat) (bv : Value) (vals fr pl : Int) (w : World) (s : RunS) (w' : World) : Prop := RunIs W0 w' R S bv vals s fr pl ∧ FrR R S w w'
theorem RunAt.drew (h : RunAt W0 w R S bv vals s fr pl rv tv pv) : RunAt W0 w.drew R S bv vals s fr pl rv tv pv := h.later (Below.refl _ _).drew
theorem RunIs.later (h : RunIs W0 w R S bv vals s fr pl) (hb : Below w.heap.size w w') : RunIs W0 w' R S bv vals s fr pl := by
  obtain ⟨rv, tv, pv, h⟩ := h
  exact ⟨rv, tv, pv, h.later hb⟩
theorem RunIs.lt (h : RunIs W0 w R S bv vals s fr pl) : R < w.heap.size ∧ S < w.heap.size := by
  obtain ⟨rv, tv, pv, h⟩ := h
  exact h.cells.lt
theorem apart_new {w : World} {o : Obj} {lo : Nat} {v v' v2 : Value} {l2 : List Int} (h2 : OwnInts w lo v2 l2) (hap : ∀ g, v.ownBlock = some g → v2.ownBlock = some g → False) (hat : v'.ownBlock = v.ownBlock ∨ v'.ownBlock = some (w.alloc o).heap.size) : ∀ g, v'.ownBlock = some g → v2.ownBlock = some g → False := by
  intro g e1 e2
  rcases hat with e | e
  · exact hap g (e.symm.trans e1) e2
  · rw [e] at e1
    have hlt := (World.ownsRow.lt h2 g e2).2
    have : (w.alloc o).heap.size = g := by simpa using e1
    simp at this
    omega
end
end Go.Proofs.Ytkpddakmcnknjaa
