/- The laws' own programs, copied into the program's types: the copy reads the same, in new memory. A program is marked: only its own cells turn, numbers into numbers. Marking a program turns its own numbers alone. The laws' measure of a program: where it does not fall below 0 no list of the program is long. Two programs that read alike are told alike. -/
import Derived.Test.YtjcocpdicogecaaGreatDoorKIns
import Derived.Handy
import Derived.OwnWalk
import Derived.RowKit3
import Derived.Deep.RegionWith
import Derived.BigRegion
import Derived.Deep.QuietTactic
import Derived.BigQuiet
namespace Go.Proofs.YtjcocpdicogecaaGreatDoor
open Go.ChangeShapes Go.WideShapes Go.ChangeAt Go.RowKit
set_option linter.unusedVariables false

/-- A row of m cells that can be written. -/
def RowOpen (w : World) (B m : Nat) : Prop := ∀ j, j < m → (∃ v, w.cell? ⟨B, j, none⟩ = some v) ∧ w.frozen? ⟨B, j, none⟩ = false

theorem RowOpen.keep {w w' : World} {B m : Nat} (h : RowOpen w B m) (hb : Below w.heap.size w w') : RowOpen w' B m := fun j hj => by
  obtain ⟨⟨v, hv⟩, hf⟩ := h j hj
  exact ⟨⟨v, Bel.keeps hb hv⟩, by rw [hb.frozen (p := ⟨B, j, none⟩) (World.block_lt_of_cell? w _ hv)]; exact hf⟩
theorem RowOpen.store {w : World} {B m : Nat} (h : RowOpen w B m) (o : Nat) (u : Value) : RowOpen (w.setCell ⟨B, o, none⟩ u) B m := fun j hj => by
  obtain ⟨⟨v, hv⟩, hf⟩ := h j hj
  refine ⟨?_, by simpa using hf⟩
  by_cases e : o = j
  · subst e
    exact ⟨u, World.cell?_setCell_same _ _ _ hv⟩
  · exact ⟨v, by rw [World.cell?_setCell_other _ _ _ _ (by intro h; exact e (by simpa using congrArg (fun (x : Addr) => x.off) h))]; exact hv⟩

theorem rowOpen_made (w : World) (z : Array Value) (m : Nat) (t : TypeId) : RowOpen (w.alloc (.cells (madeCells z m) t)) w.heap.size m := fun j hj => by
  have hs := size_madeCells z m
  refine ⟨⟨(madeCells z m)[j]'(by omega), ?_⟩, ?_⟩
  · rw [World.cell?_alloc_new]
    simp
  · simp

theorem make_of {P : Program} {t e : TypeId} {z : Value} {size bytes : Nat} (ht : P.underlying t = some (.slice e)) (hi : (P.info? e).map (fun i => (i.zero, i.size, i.bytes)) = some (some z, size, bytes)) (n : Nat) (hn : bytes * n ≤ 281474976710656) (hn2 : n ≤ 9223372036854775807) (w : World) :
    (Instr.makeSlice t (.int .i64 (n : Int)) (.int .i64 (n : Int))).run P w = .ok (.slice (some ⟨w.heap.size, 0, none⟩) n n) (w.alloc (.cells (madeCells z.cells (n * size)) e)) := by
  obtain ⟨i, h1, h2, h3, h4⟩ := info_parts hi
  have hb : ((i.bytes : Nat) : Int) * (n : Int) ≤ 281474976710656 := by
    rw [h4]
    have : ((bytes * n : Nat) : Int) ≤ 281474976710656 := by omega
    rwa [Int.natCast_mul] at this
  have h := run_make (P := P) w t e i z ht h1 h2 .i64 .i64 (n : Int) (n : Int) (by omega) (by omega) hb (by omega)
  simpa [h3] using h

theorem Bel.put {a w : World} {B : Nat} (h : Below B a w) (o : Nat) (u : Value) : Below B a (w.setCell ⟨B, o, none⟩ u) := h.setCell (Nat.le_refl B) u

/-- Nothing was frozen or thawed. -/
def FZ (w w' : World) : Prop := ∀ p : Addr, w'.frozen? p = w.frozen? p
theorem FZ.refl (w : World) : FZ w w := fun _ => rfl
theorem FZ.trans {a b c : World} (h : FZ a b) (k : FZ b c) : FZ a c := fun p => (k p).trans (h p)
theorem FZ.put {a w : World} (h : FZ a w) (q : Addr) (u : Value) : FZ a (w.setCell q u) := fun p => by rw [World.frozen?_setCell]; exact h p
theorem FZ.alloc {a w : World} (h : FZ a w) (c : Array Value) (t : TypeId) : FZ a (w.alloc (.cells c t)) := fun p => (frozen?_alloc_cells w c t p).trans (h p)
theorem FZ.new {w w' : World} (h : FZ w w') {p : Addr} (hp : w.heap.size ≤ p.block) : w'.frozen? p = false := by
  rw [h p]
  simp [World.frozen?, Array.getElem?_eq_none hp]

/-- A list is returned, in new memory. -/
def GivesList {α : Type} (w : World) (k : Nat) (E : World → Nat → Nat → α → Prop) (l : List α) (e : Ending) (w' : World) : Prop := ∃ v', e = .returned v' ∧ ListAt w.heap.size k E w' v' l ∧ Below w.heap.size w w' ∧ FZ w w'

/-- A cell aside from the one that is written. -/
theorem cell_aside {w : World} {b o o' : Nat} {u v : Value} (h : w.cell? ⟨b, o, none⟩ = some v) (ho : o' ≠ o) : (w.setCell ⟨b, o', none⟩ u).cell? ⟨b, o, none⟩ = some v := by
  rw [World.cell?_setCell_other _ _ _ _ (by intro h; exact ho (by simpa using congrArg (fun (x : Addr) => x.off) h))]
  exact h
theorem cell_there {w : World} {b o : Nat} {u v : Value} (h : w.cell? ⟨b, o, none⟩ = some v) : (w.setCell ⟨b, o, none⟩ u).cell? ⟨b, o, none⟩ = some u := World.cell?_setCell_same _ _ _ h

theorem ArmAt.store {w : World} {b o : Nat} {x : ArmD} (h : ArmAt w b o x) (o' : Nat) (u : Value) (ho : o' < o ∨ o + 2 ≤ o') : ArmAt (w.setCell ⟨b, o', none⟩ u) b o x :=
  ⟨cell_aside h.1 (by omega), cell_aside h.2 (by omega)⟩
theorem InsAt.store {w : World} {b o : Nat} {x : InsD} (h : InsAt w b o x) (o' : Nat) (u : Value) (ho : o' < o ∨ o + 5 ≤ o') : InsAt (w.setCell ⟨b, o', none⟩ u) b o x :=
  ⟨cell_aside h.1 (by omega), cell_aside h.2.1 (by omega), cell_aside h.2.2.1 (by omega), cell_aside h.2.2.2.1 (by omega), cell_aside h.2.2.2.2 (by omega)⟩
theorem PhiAt.store {lo : Nat} {w : World} {b o : Nat} {x : PhiD} (h : PhiAt lo w b o x) (hb : b < lo) (o' : Nat) (u : Value) (ho : o' < o ∨ o + 2 ≤ o') : PhiAt lo (w.setCell ⟨b, o', none⟩ u) b o x := by
  obtain ⟨h1, v, h2, h3⟩ := h
  exact ⟨cell_aside h1 (by omega), v, cell_aside h2 (by omega), arms_keep h3 (Keeps.setCell _ _ _ _ _ hb)⟩
theorem BlockAt.store {lo : Nat} {w : World} {b o : Nat} {x : BlockD} (h : BlockAt lo w b o x) (hb : b < lo) (o' : Nat) (u : Value) (ho : o' < o ∨ o + 6 ≤ o') : BlockAt lo (w.setCell ⟨b, o', none⟩ u) b o x := by
  obtain ⟨pv, lv, h1, h2, h3, h4, h5, h6, h7, h8⟩ := h
  exact ⟨pv, lv, cell_aside h1 (by omega), cell_aside h2 (by omega), cell_aside h3 (by omega), cell_aside h4 (by omega), cell_aside h5 (by omega), cell_aside h6 (by omega), phis_keep h7 (Keeps.setCell _ _ _ _ _ hb), places_keep h8 (Keeps.setCell _ _ _ _ _ hb)⟩
theorem PhiAt.next {lo : Nat} {w w' : World} {b o : Nat} {x : PhiD} (h : PhiAt lo w b o x) (hb : Below w.heap.size w w') : PhiAt lo w' b o x := by
  obtain ⟨h1, v, h2, h3⟩ := h
  exact ⟨Bel.keeps hb h1, v, Bel.keeps hb h2, arms_keep h3 (Keeps.of_below hb _)⟩
theorem BlockAt.next {lo : Nat} {w w' : World} {b o : Nat} {x : BlockD} (h : BlockAt lo w b o x) (hb : Below w.heap.size w w') : BlockAt lo w' b o x := by
  obtain ⟨pv, lv, h1, h2, h3, h4, h5, h6, h7, h8⟩ := h
  exact ⟨pv, lv, Bel.keeps hb h1, Bel.keeps hb h2, Bel.keeps hb h3, Bel.keeps hb h4, Bel.keeps hb h5, Bel.keeps hb h6, phis_keep h7 (Keeps.of_below hb _), places_keep h8 (Keeps.of_below hb _)⟩

theorem arm_put {w : World} {B o : Nat} {u0 u1 : Value} {x0 x1 : Int} (q0 : w.cell? ⟨B, o, none⟩ = some u0) (q1 : w.cell? ⟨B, o + 1, none⟩ = some u1) :
    ArmAt ((w.setCell ⟨B, o, none⟩ (.int .i64 x0)).setCell ⟨B, o + 1, none⟩ (.int .i64 x1)) B o ⟨x0, x1⟩ :=
  ⟨cell_aside (cell_there q0) (by omega), cell_there (cell_aside q1 (by omega))⟩
theorem ins_put {w : World} {B o : Nat} {u0 u1 u2 u3 u4 : Value} {x0 x1 x2 x3 x4 : Int} (q0 : w.cell? ⟨B, o, none⟩ = some u0) (q1 : w.cell? ⟨B, o + 1, none⟩ = some u1) (q2 : w.cell? ⟨B, o + 2, none⟩ = some u2) (q3 : w.cell? ⟨B, o + 3, none⟩ = some u3) (q4 : w.cell? ⟨B, o + 4, none⟩ = some u4) :
    InsAt (((((w.setCell ⟨B, o, none⟩ (.int .i64 x0)).setCell ⟨B, o + 1, none⟩ (.int .i64 x1)).setCell ⟨B, o + 2, none⟩ (.int .i64 x2)).setCell ⟨B, o + 3, none⟩ (.int .i64 x3)).setCell ⟨B, o + 4, none⟩ (.int .i64 x4)) B o ⟨x0, x1, x2, x3, x4⟩ :=
  ⟨cell_aside (cell_aside (cell_aside (cell_aside (cell_there q0) (by omega)) (by omega)) (by omega)) (by omega),
   cell_aside (cell_aside (cell_aside (cell_there (cell_aside q1 (by omega))) (by omega)) (by omega)) (by omega),
   cell_aside (cell_aside (cell_there (cell_aside (cell_aside q2 (by omega)) (by omega))) (by omega)) (by omega),
   cell_aside (cell_there (cell_aside (cell_aside (cell_aside q3 (by omega)) (by omega)) (by omega))) (by omega),
   cell_there (cell_aside (cell_aside (cell_aside (cell_aside q4 (by omega)) (by omega)) (by omega)) (by omega))⟩

def PhiSmall (x : PhiD) : Prop := x.arms.length ≤ 1048576
def BlockSmall (x : BlockD) : Prop := x.phis.length ≤ 1048576 ∧ x.list.length ≤ 1048576 ∧ ∀ p ∈ x.phis, PhiSmall p
def FnSmall (F : FnD) : Prop := F.blocks.length ≤ 1048576 ∧ ∀ b ∈ F.blocks, BlockSmall b

def GivesPhi (w : World) (d : Int) (l : List ArmD) (e : Ending) (w' : World) : Prop := ∃ v', e = .returned (.agg #[.int .i64 d, v']) ∧ ListAt w.heap.size 2 ArmAt w' v' l ∧ Below w.heap.size w w' ∧ FZ w w'

theorem phi_put {w : World} {B o : Nat} {u0 u1 : Value} {x0 : Int} {v : Value} {l : List ArmD} (q0 : w.cell? ⟨B, o, none⟩ = some u0) (q1 : w.cell? ⟨B, o + 1, none⟩ = some u1) {lo : Nat} (hB : B < lo) (hl : ListAt lo 2 ArmAt w v l) :
    PhiAt lo ((w.setCell ⟨B, o, none⟩ (.int .i64 x0)).setCell ⟨B, o + 1, none⟩ v) B o ⟨x0, l⟩ :=
  ⟨cell_aside (cell_there q0) (by omega), v, cell_there (cell_aside q1 (by omega)), arms_keep hl ((Keeps.setCell _ _ _ _ _ hB).trans (Keeps.setCell _ _ _ _ _ hB))⟩

def GivesBlock (w : World) (ps : List PhiD) (is : List InsD) (k a t o : Int) (e : Ending) (w' : World) : Prop :=
  ∃ pv lv, e = .returned (.agg #[pv, lv, .int .i64 k, .int .i64 a, .int .i64 t, .int .i64 o]) ∧ ListAt w.heap.size 2 (PhiAt w.heap.size) w' pv ps ∧ ListAt w.heap.size 5 InsAt w' lv is ∧ Below w.heap.size w w' ∧ FZ w w'

theorem block_put {w : World} {B o : Nat} {u0 u1 u2 u3 u4 u5 : Value} {x2 x3 x4 x5 : Int} {pv lv : Value} {ps : List PhiD} {is : List InsD} (q0 : w.cell? ⟨B, o, none⟩ = some u0) (q1 : w.cell? ⟨B, o + 1, none⟩ = some u1) (q2 : w.cell? ⟨B, o + 2, none⟩ = some u2) (q3 : w.cell? ⟨B, o + 3, none⟩ = some u3) (q4 : w.cell? ⟨B, o + 4, none⟩ = some u4) (q5 : w.cell? ⟨B, o + 5, none⟩ = some u5) {lo : Nat} (hB : B < lo) (hp : ListAt lo 2 (PhiAt lo) w pv ps) (hl : ListAt lo 5 InsAt w lv is) :
    BlockAt lo ((((((w.setCell ⟨B, o, none⟩ pv).setCell ⟨B, o + 1, none⟩ lv).setCell ⟨B, o + 2, none⟩ (.int .i64 x2)).setCell ⟨B, o + 3, none⟩ (.int .i64 x3)).setCell ⟨B, o + 4, none⟩ (.int .i64 x4)).setCell ⟨B, o + 5, none⟩ (.int .i64 x5)) B o ⟨ps, is, ⟨x2, x3, x4, x5⟩⟩ := by
  have KP : Keeps lo w ((((((w.setCell ⟨B, o, none⟩ pv).setCell ⟨B, o + 1, none⟩ lv).setCell ⟨B, o + 2, none⟩ (.int .i64 x2)).setCell ⟨B, o + 3, none⟩ (.int .i64 x3)).setCell ⟨B, o + 4, none⟩ (.int .i64 x4)).setCell ⟨B, o + 5, none⟩ (.int .i64 x5)) := by
    iterate 6 (refine Keeps.trans ?_ (Keeps.setCell _ _ _ _ _ hB))
    exact fun _ _ _ h => h
  refine ⟨pv, lv, ?_, ?_, ?_, ?_, ?_, ?_, phis_keep hp KP, places_keep hl KP⟩
  · exact cell_aside (cell_aside (cell_aside (cell_aside (cell_aside (cell_there q0) (by omega)) (by omega)) (by omega)) (by omega)) (by omega)
  · exact cell_aside (cell_aside (cell_aside (cell_aside (cell_there (cell_aside q1 (by omega))) (by omega)) (by omega)) (by omega)) (by omega)
  · exact cell_aside (cell_aside (cell_aside (cell_there (cell_aside (cell_aside q2 (by omega)) (by omega))) (by omega)) (by omega)) (by omega)
  · exact cell_aside (cell_aside (cell_there (cell_aside (cell_aside (cell_aside q3 (by omega)) (by omega)) (by omega))) (by omega)) (by omega)
  · exact cell_aside (cell_there (cell_aside (cell_aside (cell_aside (cell_aside q4 (by omega)) (by omega)) (by omega)) (by omega))) (by omega)
  · exact cell_there (cell_aside (cell_aside (cell_aside (cell_aside (cell_aside q5 (by omega)) (by omega)) (by omega)) (by omega)) (by omega))

def GivesFn (w : World) (F : FnD) (e : Ending) (w' : World) : Prop := ∃ v, e = .returned v ∧ FnAtLo w.heap.size w' v F ∧ Below w.heap.size w w' ∧ FZ w w'

end Go.Proofs.YtjcocpdicogecaaGreatDoor

namespace Go.Proofs.YtjcocpdicogecaaGreatDoor
open Go.ChangeShapes Go.WideShapes Go.ChangeAt Go.RowKit
set_option linter.unusedVariables false

/-- Numbers stay numbers, lists stay, nothing else turns: blocks from lo up to hi alone, nothing new. -/
structure Turns (lo hi : Nat) (w w' : World) : Prop where
  bel : Below lo w w'
  size : w'.heap.size = w.heap.size
  above : ∀ k, hi ≤ k → w'.heap[k]? = w.heap[k]?
  num : ∀ p z, w.cell? p = some (.int .i64 z) → ∃ z', w'.cell? p = some (.int .i64 z')
  list : ∀ p a n c, w.cell? p = some (.slice a n c) → w'.cell? p = some (.slice a n c)
  fz : FZ w w'

theorem Turns.refl (lo hi : Nat) (w : World) : Turns lo hi w w := ⟨Below.refl _ _, rfl, fun _ _ => rfl, fun _ z h => ⟨z, h⟩, fun _ _ _ _ h => h, FZ.refl _⟩
theorem Turns.trans {lo hi : Nat} {a b c : World} (h : Turns lo hi a b) (k : Turns lo hi b c) : Turns lo hi a c :=
  ⟨h.bel.trans k.bel, k.size.trans h.size, fun i hi' => (k.above i hi').trans (h.above i hi'), fun p z hz => by obtain ⟨z', hz'⟩ := h.num p z hz; exact k.num p z' hz', fun p x n y hl => k.list p x n y (h.list p x n y hl), h.fz.trans k.fz⟩
/-- A number is put where one was. -/
theorem Turns.put {lo hi : Nat} {a w : World} (h : Turns lo hi a w) {b o : Nat} {z : Int} (hc : w.cell? ⟨b, o, none⟩ = some (.int .i64 z)) (h1 : lo ≤ b) (h2 : b < hi) (x : Int) : Turns lo hi a (w.setCell ⟨b, o, none⟩ (.int .i64 x)) := by
  refine h.trans ⟨(Below.refl lo w).setCell (p := ⟨b, o, none⟩) h1 _, by simp [World.setCell], fun k hk => Below.heap_setCell _ _ _ _ (by show k ≠ b; omega), fun p z' hz => ?_, fun p a' n c hl => ?_, (FZ.refl w).put _ _⟩
  · by_cases e : p = ⟨b, o, none⟩
    · subst e
      exact ⟨x, World.cell?_setCell_same _ _ _ hc⟩
    · exact ⟨z', by rw [World.cell?_setCell_other _ _ _ _ (fun e' => e e'.symm)]; exact hz⟩
  · by_cases e : p = ⟨b, o, none⟩
    · subst e
      rw [hc] at hl
      cases hl
    · rw [World.cell?_setCell_other _ _ _ _ (fun e' => e e'.symm)]
      exact hl

/-- A list that can be marked: its elements, of k cells each, lie in one block from lo up to hi. -/
def MarkAt (lo hi k : Nat) (E : World → Nat → Nat → Prop) (w : World) (v : Value) (n : Nat) : Prop :=
  ∃ (a : Option Addr) (cap : Nat), v = .slice a n cap ∧ (0 < n → ∃ b off, a = some ⟨b, off, none⟩ ∧ lo ≤ b ∧ b < hi ∧ ∀ i, i < n → E w b (off + i * k))

theorem MarkAt.keep {lo hi k : Nat} {E : World → Nat → Nat → Prop} {w w' : World} {v : Value} {n : Nat} (h : MarkAt lo hi k E w v n) (hE : ∀ b o, E w b o → E w' b o) : MarkAt lo hi k E w' v n := by
  obtain ⟨a, cap, rfl, hc⟩ := h
  refine ⟨a, cap, rfl, fun hp => ?_⟩
  obtain ⟨b, off, rfl, h1, h2, hd⟩ := hc hp
  exact ⟨b, off, rfl, h1, h2, fun i hi => hE _ _ (hd i hi)⟩

def NumAt (w : World) (b o : Nat) : Prop := ∃ z, w.cell? ⟨b, o, none⟩ = some (.int .i64 z)
theorem NumAt.turn {lo hi : Nat} {w w' : World} (h : Turns lo hi w w') {b o : Nat} (hn : NumAt w b o) : NumAt w' b o := by
  obtain ⟨z, hz⟩ := hn
  exact h.num _ z hz
def ArmM (w : World) (b o : Nat) : Prop := NumAt w b o ∧ NumAt w b (o + 1)
def InsM (w : World) (b o : Nat) : Prop := NumAt w b o ∧ NumAt w b (o + 1) ∧ NumAt w b (o + 2) ∧ NumAt w b (o + 3) ∧ NumAt w b (o + 4)
def PhiM (lo hi : Nat) (w : World) (b o : Nat) : Prop := NumAt w b o ∧ ∃ v n, n ≤ 1048576 ∧ w.cell? ⟨b, o + 1, none⟩ = some v ∧ MarkAt lo hi 2 ArmM w v n
def BlockM (lo hi : Nat) (w : World) (b o : Nat) : Prop :=
  ∃ pv pn lv ln, pn ≤ 1048576 ∧ ln ≤ 1048576 ∧ w.cell? ⟨b, o, none⟩ = some pv ∧ w.cell? ⟨b, o + 1, none⟩ = some lv ∧ NumAt w b (o + 2) ∧ NumAt w b (o + 3) ∧ NumAt w b (o + 4) ∧ NumAt w b (o + 5) ∧
    MarkAt lo hi 2 (PhiM lo hi) w pv pn ∧ MarkAt lo hi 5 InsM w lv ln

theorem MarkAt.isSlice {lo hi k : Nat} {E : World → Nat → Nat → Prop} {w : World} {v : Value} {n : Nat} (h : MarkAt lo hi k E w v n) : ∃ a cap, v = .slice a n cap := by
  obtain ⟨a, cap, rfl, _⟩ := h
  exact ⟨a, cap, rfl⟩
theorem ArmM.turn {lo hi : Nat} {w w' : World} (h : Turns lo hi w w') {b o : Nat} (hn : ArmM w b o) : ArmM w' b o := ⟨hn.1.turn h, hn.2.turn h⟩
theorem InsM.turn {lo hi : Nat} {w w' : World} (h : Turns lo hi w w') {b o : Nat} (hn : InsM w b o) : InsM w' b o := ⟨hn.1.turn h, hn.2.1.turn h, hn.2.2.1.turn h, hn.2.2.2.1.turn h, hn.2.2.2.2.turn h⟩
theorem PhiM.turn {lo hi : Nat} {w w' : World} (h : Turns lo hi w w') {b o : Nat} (hn : PhiM lo hi w b o) : PhiM lo hi w' b o := by
  obtain ⟨h1, v, n, hn2, hv, hm⟩ := hn
  obtain ⟨a, cap, rfl⟩ := hm.isSlice
  exact ⟨h1.turn h, _, n, hn2, h.list _ _ _ _ hv, hm.keep fun _ _ hx => hx.turn h⟩
theorem BlockM.turn {lo hi : Nat} {w w' : World} (h : Turns lo hi w w') {b o : Nat} (hn : BlockM lo hi w b o) : BlockM lo hi w' b o := by
  obtain ⟨pv, pn, lv, ln, s1, s2, c0, c1, n2, n3, n4, n5, m1, m2⟩ := hn
  obtain ⟨a, cap, rfl⟩ := m1.isSlice
  obtain ⟨a2, cap2, rfl⟩ := m2.isSlice
  exact ⟨_, pn, _, ln, s1, s2, h.list _ _ _ _ c0, h.list _ _ _ _ c1, n2.turn h, n3.turn h, n4.turn h, n5.turn h, m1.keep fun _ _ hx => hx.turn h, m2.keep fun _ _ hx => hx.turn h⟩

/-! ### What was copied can be marked -/
theorem ListAt.markAt {α : Type} {lo k : Nat} {E : World → Nat → Nat → α → Prop} {M : World → Nat → Nat → Prop} {w : World} {v : Value} {l : List α} (h : ListAt lo k E w v l) (hb : ∀ b o x, E w b o x → b < w.heap.size) (hE : ∀ b o x, x ∈ l → E w b o x → M w b o) : MarkAt lo w.heap.size k M w v l.length := by
  obtain ⟨a, cap, rfl, hm, hc⟩ := h
  refine ⟨a, cap, rfl, fun hp => ?_⟩
  obtain ⟨b, off, rfl, h1, hd⟩ := hc hp
  refine ⟨b, off, rfl, h1, hb b _ _ (hd 0 _ (List.getElem?_eq_getElem hp)), fun i hi => hE _ _ _ (List.getElem_mem hi) (hd i _ (List.getElem?_eq_getElem hi))⟩
theorem ArmAt.lt {w : World} {b o : Nat} {x : ArmD} (h : ArmAt w b o x) : b < w.heap.size := World.block_lt_of_cell? w _ h.1
theorem InsAt.lt {w : World} {b o : Nat} {x : InsD} (h : InsAt w b o x) : b < w.heap.size := World.block_lt_of_cell? w _ h.1
theorem PhiAt.lt {lo : Nat} {w : World} {b o : Nat} {x : PhiD} (h : PhiAt lo w b o x) : b < w.heap.size := World.block_lt_of_cell? w _ h.1
theorem BlockAt.lt {lo : Nat} {w : World} {b o : Nat} {x : BlockD} (h : BlockAt lo w b o x) : b < w.heap.size := by
  obtain ⟨_, _, h1, _⟩ := h
  exact World.block_lt_of_cell? w _ h1
theorem ArmAt.m {w : World} {b o : Nat} {x : ArmD} (h : ArmAt w b o x) : ArmM w b o := ⟨⟨_, h.1⟩, ⟨_, h.2⟩⟩
theorem InsAt.m {w : World} {b o : Nat} {x : InsD} (h : InsAt w b o x) : InsM w b o := ⟨⟨_, h.1⟩, ⟨_, h.2.1⟩, ⟨_, h.2.2.1⟩, ⟨_, h.2.2.2.1⟩, ⟨_, h.2.2.2.2⟩⟩
theorem PhiAt.m {lo : Nat} {w : World} {b o : Nat} {x : PhiD} (h : PhiAt lo w b o x) (hs : PhiSmall x) : PhiM lo w.heap.size w b o := by
  obtain ⟨h1, v, h2, h3⟩ := h
  exact ⟨⟨_, h1⟩, v, _, hs, h2, h3.markAt (fun _ _ _ hx => hx.lt) (fun _ _ _ _ hx => hx.m)⟩
theorem BlockAt.m {lo : Nat} {w : World} {b o : Nat} {x : BlockD} (h : BlockAt lo w b o x) (hs : BlockSmall x) : BlockM lo w.heap.size w b o := by
  obtain ⟨pv, lv, h1, h2, h3, h4, h5, h6, h7, h8⟩ := h
  exact ⟨pv, _, lv, _, hs.1, hs.2.1, h1, h2, ⟨_, h3⟩, ⟨_, h4⟩, ⟨_, h5⟩, ⟨_, h6⟩, h7.markAt (fun _ _ _ hx => hx.lt) (fun _ _ x hm hx => hx.m (hs.2.2 x hm)), h8.markAt (fun _ _ _ hx => hx.lt) (fun _ _ _ _ hx => hx.m)⟩
/-- A program that can be marked. -/
def FnM (lo hi : Nat) (w : World) (v : Value) (n : Nat) (vals : Int) : Prop := ∃ bv, v = .agg #[bv, .int .i64 vals] ∧ MarkAt lo hi 6 (BlockM lo hi) w bv n
theorem FnAtLo.m {lo : Nat} {w : World} {v : Value} {F : FnD} (h : FnAtLo lo w v F) (hs : FnSmall F) : FnM lo w.heap.size w v F.blocks.length F.values := by
  obtain ⟨bv, rfl, hb⟩ := h
  exact ⟨bv, rfl, hb.markAt (fun _ _ _ hx => hx.lt) (fun _ _ x hm hx => hx.m (hs.2 x hm))⟩

/-! ### And still can, when the world has grown -/
theorem NumAt.later {w w' : World} (h : Below w.heap.size w w') {b o : Nat} (hn : NumAt w b o) : NumAt w' b o := by
  obtain ⟨z, hz⟩ := hn
  exact ⟨z, Bel.keeps h hz⟩
theorem ArmM.later {w w' : World} (h : Below w.heap.size w w') {b o : Nat} (hn : ArmM w b o) : ArmM w' b o := ⟨hn.1.later h, hn.2.later h⟩
theorem InsM.later {w w' : World} (h : Below w.heap.size w w') {b o : Nat} (hn : InsM w b o) : InsM w' b o := ⟨hn.1.later h, hn.2.1.later h, hn.2.2.1.later h, hn.2.2.2.1.later h, hn.2.2.2.2.later h⟩
theorem PhiM.later {lo hi : Nat} {w w' : World} (h : Below w.heap.size w w') {b o : Nat} (hn : PhiM lo hi w b o) : PhiM lo hi w' b o := by
  obtain ⟨h1, v, n, hn2, hv, hm⟩ := hn
  exact ⟨h1.later h, _, n, hn2, Bel.keeps h hv, hm.keep fun _ _ hx => hx.later h⟩
theorem BlockM.later {lo hi : Nat} {w w' : World} (h : Below w.heap.size w w') {b o : Nat} (hn : BlockM lo hi w b o) : BlockM lo hi w' b o := by
  obtain ⟨pv, pn, lv, ln, s1, s2, c0, c1, n2, n3, n4, n5, m1, m2⟩ := hn
  exact ⟨_, pn, _, ln, s1, s2, Bel.keeps h c0, Bel.keeps h c1, n2.later h, n3.later h, n4.later h, n5.later h, m1.keep fun _ _ hx => hx.later h, m2.keep fun _ _ hx => hx.later h⟩
theorem FnM.later {lo hi : Nat} {w w' : World} {v : Value} {n : Nat} {vals : Int} (hn : FnM lo hi w v n vals) (h : Below w.heap.size w w') : FnM lo hi w' v n vals := by
  obtain ⟨bv, rfl, hb⟩ := hn
  exact ⟨bv, rfl, hb.keep fun _ _ hx => hx.later h⟩
end Go.Proofs.YtjcocpdicogecaaGreatDoor

namespace Go.Proofs.YtjcocpdicogecaaGreatDoor
open Go.ChangeShapes Go.WideShapes Go.ChangeAt Go.RowKit
set_option linter.unusedVariables false

/-- Nothing there is frozen. -/
def Thaw (lo hi : Nat) (w : World) : Prop := ∀ p : Addr, lo ≤ p.block → p.block < hi → w.frozen? p = false
theorem Thaw.turn {lo hi : Nat} {w w' : World} (h : Thaw lo hi w) (t : Turns lo hi w w') : Thaw lo hi w' := fun p h1 h2 => (t.fz p).trans (h p h1 h2)
/-- So many marks at most were put. -/
def GivesMark (lo hi : Nat) (q c : Int) (w : World) (e : Ending) (w' : World) : Prop := ∃ z, e = .returned (.int .i64 z) ∧ q ≤ z ∧ z ≤ q + c ∧ Turns lo hi w w'

/-- A program was marked: what lies below lo and from hi on is as it was. -/
structure Marked (lo hi : Nat) (w w' : World) : Prop where
  bel : Below lo w w'
  above : ∀ k, hi ≤ k → k < w.heap.size → w'.heap[k]? = w.heap[k]?

end Go.Proofs.YtjcocpdicogecaaGreatDoor

namespace Go.Proofs.YtjcocpdicogecaaGreatDoor
open Go.ChangeShapes Go.WideShapes Go.ChangeAt Go.RowKit
set_option linter.unusedVariables false

/-- A measure is returned; where it is not below 0, p. -/
def GivesSz (p : Prop) (w : World) (e : Ending) (w' : World) : Prop := ∃ r : Int, e = .returned (.int .i64 r) ∧ -1 ≤ r ∧ r ≤ 1048576 ∧ (0 ≤ r → p) ∧ Below w.heap.size w w'

end Go.Proofs.YtjcocpdicogecaaGreatDoor

namespace Go.Proofs.YtjcocpdicogecaaGreatDoor
open Go.ChangeShapes Go.WideShapes Go.ChangeAt Go.RowKit
set_option linter.unusedVariables false

/-- True is returned; the world only grows. -/
def GivesTrue (w : World) (e : Ending) (w' : World) : Prop := e = .returned (.bool true) ∧ Below w.heap.size w w'

end Go.Proofs.YtjcocpdicogecaaGreatDoor
