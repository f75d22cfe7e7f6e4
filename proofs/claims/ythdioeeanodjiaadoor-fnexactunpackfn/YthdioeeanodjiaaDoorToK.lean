/- The laws' own programs, copied into the program's types: the copy reads the same, in new memory. -/
import Derived.Test.YthdioeeanodjiaaDoorKBa
import Derived.Handy
import Derived.OwnWalk
import Derived.RowKit3
namespace Go.Proofs.YthdioeeanodjiaaDoor
open Go.ChangeShapes Go.WideShapes Go.ChangeAt Go.RowKit
set_option linter.unusedVariables false

/-- A row of m cells that can be written. -/
def RowOpen (w : World) (B m : Nat) : Prop := ∀ j, j < m → (∃ v, w.cell? ⟨B, j, none⟩ = some v) ∧ w.frozen? ⟨B, j, none⟩ = false

theorem RowOpen.keep {w w' : World} {B m : Nat} (h : RowOpen w B m) (hb : Below w.heap.size w w') : RowOpen w' B m := fun j hj => by
  obtain ⟨⟨v, hv⟩, hf⟩ := h j hj
  exact ⟨⟨v, Bel.keeps hb hv⟩, by rw [hb.frozen (p := ⟨B, j, none⟩) (World.block_lt_of_cell? w _ hv)]; exact hf⟩
theorem RowOpen.store {w : World} {B m : Nat} (h : RowOpen w B m) (o : Nat) (u : Value) : RowOpen (w.setCell ⟨B, o, none⟩ u) B m := fun j hj => by
  obtain ⟨⟨v, hv⟩, hf⟩ := h j hj
  refine ⟨?_, by simpa using hf⟩
  by_cases e : o = j
  · subst e
    exact ⟨u, World.cell?_setCell_same _ _ _ hv⟩
  · exact ⟨v, by rw [World.cell?_setCell_other _ _ _ _ (by intro h; exact e (by simpa using congrArg (fun (x : Addr) => x.off) h))]; exact hv⟩

theorem rowOpen_made (w : World) (z : Array Value) (m : Nat) (t : TypeId) : RowOpen (w.alloc (.cells (madeCells z m) t)) w.heap.size m := fun j hj => by
  have hs := size_madeCells z m
  refine ⟨⟨(madeCells z m)[j]'(by omega), ?_⟩, ?_⟩
  · rw [World.cell?_alloc_new]
    simp
  · simp

theorem make_of {P : Program} {t e : TypeId} {z : Value} {size bytes : Nat} (ht : P.underlying t = some (.slice e)) (hi : (P.info? e).map (fun i => (i.zero, i.size, i.bytes)) = some (some z, size, bytes)) (n : Nat) (hn : bytes * n ≤ 281474976710656) (hn2 : n ≤ 9223372036854775807) (w : World) :
    (Instr.makeSlice t (.int .i64 (n : Int)) (.int .i64 (n : Int))).run P w = .ok (.slice (some ⟨w.heap.size, 0, none⟩) n n) (w.alloc (.cells (madeCells z.cells (n * size)) e)) := by
  obtain ⟨i, h1, h2, h3, h4⟩ := info_parts hi
  have hb : ((i.bytes : Nat) : Int) * (n : Int) ≤ 281474976710656 := by
    rw [h4]
    have : ((bytes * n : Nat) : Int) ≤ 281474976710656 := by omega
    rwa [Int.natCast_mul] at this
  have h := run_make (P := P) w t e i z ht h1 h2 .i64 .i64 (n : Int) (n : Int) (by omega) (by omega) hb (by omega)
  simpa [h3] using h

theorem Bel.put {a w : World} {B : Nat} (h : Below B a w) (o : Nat) (u : Value) : Below B a (w.setCell ⟨B, o, none⟩ u) := h.setCell (Nat.le_refl B) u

/-- Nothing was frozen or thawed. -/
def FZ (w w' : World) : Prop := ∀ p : Addr, w'.frozen? p = w.frozen? p
theorem FZ.refl (w : World) : FZ w w := fun _ => rfl
theorem FZ.trans {a b c : World} (h : FZ a b) (k : FZ b c) : FZ a c := fun p => (k p).trans (h p)
theorem FZ.put {a w : World} (h : FZ a w) (q : Addr) (u : Value) : FZ a (w.setCell q u) := fun p => by rw [World.frozen?_setCell]; exact h p
theorem FZ.alloc {a w : World} (h : FZ a w) (c : Array Value) (t : TypeId) : FZ a (w.alloc (.cells c t)) := fun p => (frozen?_alloc_cells w c t p).trans (h p)
theorem FZ.new {w w' : World} (h : FZ w w') {p : Addr} (hp : w.heap.size ≤ p.block) : w'.frozen? p = false := by
  rw [h p]
  simp [World.frozen?, Array.getElem?_eq_none hp]

/-- A list is returned, in new memory. -/
def GivesList {α : Type} (w : World) (k : Nat) (E : World → Nat → Nat → α → Prop) (l : List α) (e : Ending) (w' : World) : Prop := ∃ v', e = .returned v' ∧ ListAt w.heap.size k E w' v' l ∧ Below w.heap.size w w' ∧ FZ w w'

/-- A cell aside from the one that is written. -/
theorem cell_aside {w : World} {b o o' : Nat} {u v : Value} (h : w.cell? ⟨b, o, none⟩ = some v) (ho : o' ≠ o) : (w.setCell ⟨b, o', none⟩ u).cell? ⟨b, o, none⟩ = some v := by
  rw [World.cell?_setCell_other _ _ _ _ (by intro h; exact ho (by simpa using congrArg (fun (x : Addr) => x.off) h))]
  exact h
theorem cell_there {w : World} {b o : Nat} {u v : Value} (h : w.cell? ⟨b, o, none⟩ = some v) : (w.setCell ⟨b, o, none⟩ u).cell? ⟨b, o, none⟩ = some u := World.cell?_setCell_same _ _ _ h

theorem ArmAt.store {w : World} {b o : Nat} {x : ArmD} (h : ArmAt w b o x) (o' : Nat) (u : Value) (ho : o' < o ∨ o + 2 ≤ o') : ArmAt (w.setCell ⟨b, o', none⟩ u) b o x :=
  ⟨cell_aside h.1 (by omega), cell_aside h.2 (by omega)⟩
theorem InsAt.store {w : World} {b o : Nat} {x : InsD} (h : InsAt w b o x) (o' : Nat) (u : Value) (ho : o' < o ∨ o + 5 ≤ o') : InsAt (w.setCell ⟨b, o', none⟩ u) b o x :=
  ⟨cell_aside h.1 (by omega), cell_aside h.2.1 (by omega), cell_aside h.2.2.1 (by omega), cell_aside h.2.2.2.1 (by omega), cell_aside h.2.2.2.2 (by omega)⟩
theorem PhiAt.store {lo : Nat} {w : World} {b o : Nat} {x : PhiD} (h : PhiAt lo w b o x) (hb : b < lo) (o' : Nat) (u : Value) (ho : o' < o ∨ o + 2 ≤ o') : PhiAt lo (w.setCell ⟨b, o', none⟩ u) b o x := by
  obtain ⟨h1, v, h2, h3⟩ := h
  exact ⟨cell_aside h1 (by omega), v, cell_aside h2 (by omega), arms_keep h3 (Keeps.setCell _ _ _ _ _ hb)⟩
theorem BlockAt.store {lo : Nat} {w : World} {b o : Nat} {x : BlockD} (h : BlockAt lo w b o x) (hb : b < lo) (o' : Nat) (u : Value) (ho : o' < o ∨ o + 6 ≤ o') : BlockAt lo (w.setCell ⟨b, o', none⟩ u) b o x := by
  obtain ⟨pv, lv, h1, h2, h3, h4, h5, h6, h7, h8⟩ := h
  exact ⟨pv, lv, cell_aside h1 (by omega), cell_aside h2 (by omega), cell_aside h3 (by omega), cell_aside h4 (by omega), cell_aside h5 (by omega), cell_aside h6 (by omega), phis_keep h7 (Keeps.setCell _ _ _ _ _ hb), places_keep h8 (Keeps.setCell _ _ _ _ _ hb)⟩
theorem PhiAt.next {lo : Nat} {w w' : World} {b o : Nat} {x : PhiD} (h : PhiAt lo w b o x) (hb : Below w.heap.size w w') : PhiAt lo w' b o x := by
  obtain ⟨h1, v, h2, h3⟩ := h
  exact ⟨Bel.keeps hb h1, v, Bel.keeps hb h2, arms_keep h3 (Keeps.of_below hb _)⟩
theorem BlockAt.next {lo : Nat} {w w' : World} {b o : Nat} {x : BlockD} (h : BlockAt lo w b o x) (hb : Below w.heap.size w w') : BlockAt lo w' b o x := by
  obtain ⟨pv, lv, h1, h2, h3, h4, h5, h6, h7, h8⟩ := h
  exact ⟨pv, lv, Bel.keeps hb h1, Bel.keeps hb h2, Bel.keeps hb h3, Bel.keeps hb h4, Bel.keeps hb h5, Bel.keeps hb h6, phis_keep h7 (Keeps.of_below hb _), places_keep h8 (Keeps.of_below hb _)⟩

theorem arm_put {w : World} {B o : Nat} {u0 u1 : Value} {x0 x1 : Int} (q0 : w.cell? ⟨B, o, none⟩ = some u0) (q1 : w.cell? ⟨B, o + 1, none⟩ = some u1) :
    ArmAt ((w.setCell ⟨B, o, none⟩ (.int .i64 x0)).setCell ⟨B, o + 1, none⟩ (.int .i64 x1)) B o ⟨x0, x1⟩ :=
  ⟨cell_aside (cell_there q0) (by omega), cell_there (cell_aside q1 (by omega))⟩
theorem ins_put {w : World} {B o : Nat} {u0 u1 u2 u3 u4 : Value} {x0 x1 x2 x3 x4 : Int} (q0 : w.cell? ⟨B, o, none⟩ = some u0) (q1 : w.cell? ⟨B, o + 1, none⟩ = some u1) (q2 : w.cell? ⟨B, o + 2, none⟩ = some u2) (q3 : w.cell? ⟨B, o + 3, none⟩ = some u3) (q4 : w.cell? ⟨B, o + 4, none⟩ = some u4) :
    InsAt (((((w.setCell ⟨B, o, none⟩ (.int .i64 x0)).setCell ⟨B, o + 1, none⟩ (.int .i64 x1)).setCell ⟨B, o + 2, none⟩ (.int .i64 x2)).setCell ⟨B, o + 3, none⟩ (.int .i64 x3)).setCell ⟨B, o + 4, none⟩ (.int .i64 x4)) B o ⟨x0, x1, x2, x3, x4⟩ :=
  ⟨cell_aside (cell_aside (cell_aside (cell_aside (cell_there q0) (by omega)) (by omega)) (by omega)) (by omega),
   cell_aside (cell_aside (cell_aside (cell_there (cell_aside q1 (by omega))) (by omega)) (by omega)) (by omega),
   cell_aside (cell_aside (cell_there (cell_aside (cell_aside q2 (by omega)) (by omega))) (by omega)) (by omega),
   cell_aside (cell_there (cell_aside (cell_aside (cell_aside q3 (by omega)) (by omega)) (by omega))) (by omega),
   cell_there (cell_aside (cell_aside (cell_aside (cell_aside q4 (by omega)) (by omega)) (by omega)) (by omega))⟩

theorem make_arms (n : Nat) (hn : n ≤ 1048576) (w : World) :
    (Instr.makeSlice 59 (.int .i64 (n : Int)) (.int .i64 (n : Int))).run Tryd.prog w = .ok (.slice (some ⟨w.heap.size, 0, none⟩) n n) (w.alloc (.cells (madeCells #[.int .i64 0, .int .i64 0] (n * 2)) 63)) :=
  make_of (z := .agg #[.int .i64 0, .int .i64 0]) (size := 2) (bytes := 16) Tryd.underlying59 (by kernel_rfl) n (by omega) (by omega) w

theorem make_places (n : Nat) (hn : n ≤ 1048576) (w : World) :
    (Instr.makeSlice 42 (.int .i64 (n : Int)) (.int .i64 (n : Int))).run Tryd.prog w = .ok (.slice (some ⟨w.heap.size, 0, none⟩) n n) (w.alloc (.cells (madeCells #[.int .i64 0, .int .i64 0, .int .i64 0, .int .i64 0, .int .i64 0] (n * 5)) 50)) :=
  make_of (z := .agg #[.int .i64 0, .int .i64 0, .int .i64 0, .int .i64 0, .int .i64 0]) (size := 5) (bytes := 40) Tryd.underlying42 (by kernel_rfl) n (by omega) (by omega) w

def PhiSmall (x : PhiD) : Prop := x.arms.length ≤ 1048576
def BlockSmall (x : BlockD) : Prop := x.phis.length ≤ 1048576 ∧ x.list.length ≤ 1048576 ∧ ∀ p ∈ x.phis, PhiSmall p
def FnSmall (F : FnD) : Prop := F.blocks.length ≤ 1048576 ∧ ∀ b ∈ F.blocks, BlockSmall b

def GivesPhi (w : World) (d : Int) (l : List ArmD) (e : Ending) (w' : World) : Prop := ∃ v', e = .returned (.agg #[.int .i64 d, v']) ∧ ListAt w.heap.size 2 ArmAt w' v' l ∧ Below w.heap.size w w' ∧ FZ w w'

theorem phi_put {w : World} {B o : Nat} {u0 u1 : Value} {x0 : Int} {v : Value} {l : List ArmD} (q0 : w.cell? ⟨B, o, none⟩ = some u0) (q1 : w.cell? ⟨B, o + 1, none⟩ = some u1) {lo : Nat} (hB : B < lo) (hl : ListAt lo 2 ArmAt w v l) :
    PhiAt lo ((w.setCell ⟨B, o, none⟩ (.int .i64 x0)).setCell ⟨B, o + 1, none⟩ v) B o ⟨x0, l⟩ :=
  ⟨cell_aside (cell_there q0) (by omega), v, cell_there (cell_aside q1 (by omega)), arms_keep hl ((Keeps.setCell _ _ _ _ _ hB).trans (Keeps.setCell _ _ _ _ _ hB))⟩

theorem make_phis (n : Nat) (hn : n ≤ 1048576) (w : World) :
    (Instr.makeSlice 41 (.int .i64 (n : Int)) (.int .i64 (n : Int))).run Tryd.prog w = .ok (.slice (some ⟨w.heap.size, 0, none⟩) n n) (w.alloc (.cells (madeCells #[.int .i64 0, .slice none 0 0] (n * 2)) 61)) :=
  make_of (z := .agg #[.int .i64 0, .slice none 0 0]) (size := 2) (bytes := 32) Tryd.underlying41 (by kernel_rfl) n (by omega) (by omega) w

def GivesBlock (w : World) (ps : List PhiD) (is : List InsD) (k a t o : Int) (e : Ending) (w' : World) : Prop :=
  ∃ pv lv, e = .returned (.agg #[pv, lv, .int .i64 k, .int .i64 a, .int .i64 t, .int .i64 o]) ∧ ListAt w.heap.size 2 (PhiAt w.heap.size) w' pv ps ∧ ListAt w.heap.size 5 InsAt w' lv is ∧ Below w.heap.size w w' ∧ FZ w w'

theorem block_put {w : World} {B o : Nat} {u0 u1 u2 u3 u4 u5 : Value} {x2 x3 x4 x5 : Int} {pv lv : Value} {ps : List PhiD} {is : List InsD} (q0 : w.cell? ⟨B, o, none⟩ = some u0) (q1 : w.cell? ⟨B, o + 1, none⟩ = some u1) (q2 : w.cell? ⟨B, o + 2, none⟩ = some u2) (q3 : w.cell? ⟨B, o + 3, none⟩ = some u3) (q4 : w.cell? ⟨B, o + 4, none⟩ = some u4) (q5 : w.cell? ⟨B, o + 5, none⟩ = some u5) {lo : Nat} (hB : B < lo) (hp : ListAt lo 2 (PhiAt lo) w pv ps) (hl : ListAt lo 5 InsAt w lv is) :
    BlockAt lo ((((((w.setCell ⟨B, o, none⟩ pv).setCell ⟨B, o + 1, none⟩ lv).setCell ⟨B, o + 2, none⟩ (.int .i64 x2)).setCell ⟨B, o + 3, none⟩ (.int .i64 x3)).setCell ⟨B, o + 4, none⟩ (.int .i64 x4)).setCell ⟨B, o + 5, none⟩ (.int .i64 x5)) B o ⟨ps, is, ⟨x2, x3, x4, x5⟩⟩ := by
  have KP : Keeps lo w ((((((w.setCell ⟨B, o, none⟩ pv).setCell ⟨B, o + 1, none⟩ lv).setCell ⟨B, o + 2, none⟩ (.int .i64 x2)).setCell ⟨B, o + 3, none⟩ (.int .i64 x3)).setCell ⟨B, o + 4, none⟩ (.int .i64 x4)).setCell ⟨B, o + 5, none⟩ (.int .i64 x5)) := by
    iterate 6 (refine Keeps.trans ?_ (Keeps.setCell _ _ _ _ _ hB))
    exact fun _ _ _ h => h
  refine ⟨pv, lv, ?_, ?_, ?_, ?_, ?_, ?_, phis_keep hp KP, places_keep hl KP⟩
  · exact cell_aside (cell_aside (cell_aside (cell_aside (cell_aside (cell_there q0) (by omega)) (by omega)) (by omega)) (by omega)) (by omega)
  · exact cell_aside (cell_aside (cell_aside (cell_aside (cell_there (cell_aside q1 (by omega))) (by omega)) (by omega)) (by omega)) (by omega)
  · exact cell_aside (cell_aside (cell_aside (cell_there (cell_aside (cell_aside q2 (by omega)) (by omega))) (by omega)) (by omega)) (by omega)
  · exact cell_aside (cell_aside (cell_there (cell_aside (cell_aside (cell_aside q3 (by omega)) (by omega)) (by omega))) (by omega)) (by omega)
  · exact cell_aside (cell_there (cell_aside (cell_aside (cell_aside (cell_aside q4 (by omega)) (by omega)) (by omega)) (by omega))) (by omega)
  · exact cell_there (cell_aside (cell_aside (cell_aside (cell_aside (cell_aside q5 (by omega)) (by omega)) (by omega)) (by omega)) (by omega))

theorem make_blocks (n : Nat) (hn : n ≤ 1048576) (w : World) :
    (Instr.makeSlice 24 (.int .i64 (n : Int)) (.int .i64 (n : Int))).run Tryd.prog w = .ok (.slice (some ⟨w.heap.size, 0, none⟩) n n) (w.alloc (.cells (madeCells #[.slice none 0 0, .slice none 0 0, .int .i64 0, .int .i64 0, .int .i64 0, .int .i64 0] (n * 6)) 46)) :=
  make_of (z := .agg #[.slice none 0 0, .slice none 0 0, .int .i64 0, .int .i64 0, .int .i64 0, .int .i64 0]) (size := 6) (bytes := 80) Tryd.underlying24 (by kernel_rfl) n (by omega) (by omega) w

def GivesFn (w : World) (F : FnD) (e : Ending) (w' : World) : Prop := ∃ v, e = .returned v ∧ FnAtLo w.heap.size w' v F ∧ Below w.heap.size w w' ∧ FZ w w'

end Go.Proofs.YthdioeeanodjiaaDoor
