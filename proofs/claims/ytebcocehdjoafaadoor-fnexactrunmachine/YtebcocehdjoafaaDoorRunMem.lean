/- What runs in memory want, for a seat without programs. -/
import Derived.Test.YtebcocehdjoafaaDoorRunDef
import Derived.Test.YtebcocehdjoafaaDoorOwnAt
import Derived.Test.YtebcocehdjoafaaDoorSets
import Derived.Test.YtebcocehdjoafaaDoorWord
import Derived.Deep.RegionHeld3
import Derived.Maps.AppendAt
import Derived.Shelf.Abstract
import Derived.Shelf.RegionOpen
namespace Go.Proofs.YtebcocehdjoafaaDoor
open Go.ChangeShapes Go.WideShapes Go.ChangeAt Go.RowKit Go.Shelf
set_option linter.unusedVariables false

theorem info_int : (Tryd.prog.info? 3).map (fun i => (i.zero, i.size, i.bytes)) = some (some (.int .i64 0), 1, 8) := by kernel_rfl

theorem ownInts_nil {w : World} {g lo : Nat} (hg : w.heap.size = g) (hl : lo ≤ g) : OwnInts (w.alloc (.cells #[] 3)) lo (.slice (some ⟨g, 0, none⟩) 0 0) [] := by
  subst hg
  exact (ownInts_new w).low hl

/-- The block in which the list lies is none of another type. -/
theorem OwnInts.not_box {w : World} {lo : Nat} {v : Value} {l : List Int} (h : OwnInts w lo v l) {B : Nat} {c : Array Value} {t : TypeId} {z : Nat × Nat} (hB : w.heap[B]? = some (.cells c t z)) (ht : t ≠ 3) : some B ≠ v.ownBlock := by
  rcases h.2 with ⟨rfl, _⟩ | ⟨g, cap, cur, rfl, _, hgb, _⟩
  · simp [Value.ownBlock]
  · intro e'
    obtain rfl : B = g := by simpa [Value.ownBlock] using e'
    have := hB.symm.trans hgb
    simp at this
    exact ht this.2.1

theorem OwnInts.next {w : World} {lo : Nat} {v : Value} {l : List Int} {x : Int} (h : w.ownsRow lo 3 1 v (l.length + 1) (l.map (fun x => Value.int .i64 x) ++ [Value.int .i64 x])) : OwnInts w lo v (l ++ [x]) := by
  unfold OwnInts
  simpa using h

theorem OwnInts.grown {W w1 : World} {lo : Nat} {v : Value} {l : List Int} (h : OwnInts W lo v l) (hlo : lo ≤ W.heap.size) {o : Obj} (hg : (W.alloc o).grownBy w1 v.ownBlock) : Below lo W w1 := by
  refine ((Below.refl lo W).alloc hlo o).grown hg (by simp; omega) fun j ej => ?_
  rcases h.2 with ⟨rfl, _⟩ | ⟨g, cap, cur, rfl, hb, _, _⟩
  · simp [Value.ownBlock] at ej
  · obtain rfl : g = j := by simpa [Value.ownBlock] using ej
    exact hb

theorem rcells_set {w : World} {b o : Nat} {v : Value} {t : TypeId} (h : ∃ c, w.heap[b]? = some (.cells c t (0, 0))) : ∃ c, (w.setCell ⟨b, o, none⟩ v).heap[b]? = some (.cells c t (0, 0)) := by
  obtain ⟨c, h⟩ := h
  exact ⟨_, heap_setCell_same w b o c t v h⟩

/-- A list that is read from its front: it may be a part of another one. -/
def ReadsAt (w : World) (v : Value) (l : List Int) : Prop :=
  ∃ (a : Option Addr) (cap : Nat), v = .slice a l.length cap ∧ l.length ≤ cap ∧ cap ≤ 9223372036854775807 ∧ (0 < l.length → ∃ b off, a = some ⟨b, off, none⟩ ∧ ∀ i, i < l.length → w.cell? ⟨b, off + i, none⟩ = some (.int .i64 (l.getD i 0)))

theorem ReadsAt.keep {w w' : World} {v : Value} {l : List Int} (h : ReadsAt w v l) (hb : Below w.heap.size w w') : ReadsAt w' v l := by
  obtain ⟨a, cap, rfl, hm, hm2, hc⟩ := h
  refine ⟨a, cap, rfl, hm, hm2, fun hp => ?_⟩
  obtain ⟨b, off, rfl, hd⟩ := hc hp
  exact ⟨b, off, rfl, fun i hi => Bel.keeps hb (hd i hi)⟩

theorem far_off {w : World} {R : Nat} {i o : Nat} {v x : Value} (h : w.cell? ⟨R, i, none⟩ = some x) (hne : i ≠ o) : (w.setCell ⟨R, o, none⟩ v).cell? ⟨R, i, none⟩ = some x := by
  rw [World.cell?_setCell_other _ _ _ _ (fun e => hne (by simpa using (congrArg Addr.off e).symm))]; exact h

theorem far_block {w : World} {R S : Nat} {i o : Nat} {v x : Value} (h : w.cell? ⟨S, i, none⟩ = some x) (hne : R ≠ S) : (w.setCell ⟨R, o, none⟩ v).cell? ⟨S, i, none⟩ = some x := by
  rw [World.cell?_setCell_other _ _ _ _ (fun e => hne (by simpa using congrArg Addr.block e))]; exact h

section
variable {W0 w w' : World} {R S : Nat}
theorem own_far {w : World} {lo : Nat} {v : Value} {l : List Int} (h : OwnInts w lo v l) {b o : Nat} {x : Value} {t : TypeId} (hb : ∃ c, w.heap[b]? = some (.cells c t (0, 0))) (ht : t ≠ 3) : OwnInts (w.setCell ⟨b, o, none⟩ x) lo v l := by
  obtain ⟨c, hc⟩ := hb
  have hn := h.not_box hc ht
  obtain ⟨h0, h1⟩ := h
  refine ⟨h0, ?_⟩
  rcases h1 with h1 | ⟨g, cap, cur, rfl, hlo, hg, h2⟩
  · exact .inl h1
  · refine .inr ⟨g, cap, cur, rfl, hlo, ?_, h2⟩
    rw [heap_setCell_other _ _ _ _ (fun e => hn (by simp [Value.ownBlock]; exact e.symm))]
    exact hg

/-- The other list stays. -/
theorem grown_other {o : Obj} {wa : World} {v v2 : Value} {lo : Nat} {l2 : List Int} (h2 : OwnInts w lo v2 l2) (hg : (w.alloc o).grownBy wa v.ownBlock) (hap : ∀ g, v.ownBlock = some g → v2.ownBlock = some g → False) : OwnInts wa lo v2 l2 := by
  refine World.ownsRow.kept (World.ownsRow.alloc h2 _) hg ?_
  rcases h2.2 with ⟨rfl, _⟩ | ⟨g', cap, cur, rfl, _, hgb, _⟩
  · exact .inl rfl
  · exact .inr fun e => hap g' e.symm rfl

/-- No row of numbers. -/
def NoRow (o : Obj) : Prop := ∀ c z, o ≠ .cells c 3 z

/-- Nothing turned but the run, its place and rows of numbers. -/
structure FrR (R S : Nat) (w w' : World) : Prop where
  size : w.heap.size ≤ w'.heap.size
  block : ∀ k o, w.heap[k]? = some o → k ≠ R → k ≠ S → NoRow o → w'.heap[k]? = some o

theorem FrR.refl (R S : Nat) (w : World) : FrR R S w w := ⟨Nat.le_refl _, fun _ _ h _ _ _ => h⟩

theorem FrR.trans {R S : Nat} {a b c : World} (h : FrR R S a b) (k : FrR R S b c) : FrR R S a c :=
  ⟨Nat.le_trans h.size k.size, fun i o hi h1 h2 h3 => k.block i o (h.block i o hi h1 h2 h3) h1 h2 h3⟩

theorem FrR.ofBelow {R S : Nat} {a b : World} (h : Below a.heap.size a b) : FrR R S a b :=
  ⟨h.size, fun i o hi _ _ _ => (h.block i (Array.getElem?_eq_some_iff.1 hi).1).trans hi⟩

theorem FrR.setR (R S o : Nat) (v : Value) (w : World) : FrR R S w (w.setCell ⟨R, o, none⟩ v) :=
  ⟨by simp, fun i ob hi h1 _ _ => by rw [heap_setCell_other _ _ _ _ h1]; exact hi⟩

theorem FrR.setS (R S o : Nat) (v : Value) (w : World) : FrR R S w (w.setCell ⟨S, o, none⟩ v) :=
  ⟨by simp, fun i ob hi _ h2 _ => by rw [heap_setCell_other _ _ _ _ h2]; exact hi⟩

theorem FrR.drew (R S : Nat) (w : World) : FrR R S w w.drew := ⟨Nat.le_refl _, fun _ _ h _ _ _ => h⟩

theorem FrR.grown {R S lo : Nat} {w wa : World} {ob : Obj} {v : Value} {l : List Int} (hv : OwnInts w lo v l) (hg : (w.alloc ob).grownBy wa v.ownBlock) : FrR R S w wa := by
  refine ⟨Nat.le_trans (by simp) hg.size, fun i o hi _ _ h3 => ?_⟩
  have hlt := (Array.getElem?_eq_some_iff.1 hi).1
  refine (hg.block i (by simp; omega) ?_).trans ((Below.heap_alloc w _ i hlt).trans hi)
  intro e
  rcases hv.2 with ⟨rfl, _⟩ | ⟨g, cap, cur, rfl, _, hgb, _⟩
  · simp [Value.ownBlock] at e
  · obtain rfl : i = g := by simpa [Value.ownBlock] using e
    rw [hi] at hgb
    cases hgb
    exact h3 _ _ rfl

/-- A box of another type stays. -/
theorem FrR.box {R S : Nat} {w w' : World} (h : FrR R S w w') {B : Nat} {c : Array Value} {t : TypeId} {z : Nat × Nat} (hB : w.heap[B]? = some (.cells c t z)) (h1 : B ≠ R) (h2 : B ≠ S) (ht : t ≠ 3) : w'.heap[B]? = some (.cells c t z) :=
  h.block B _ hB h1 h2 (fun c' z' e => by cases e; exact ht rfl)

theorem apart_new {w : World} {o : Obj} {lo : Nat} {v v' v2 : Value} {l2 : List Int} (h2 : OwnInts w lo v2 l2) (hap : ∀ g, v.ownBlock = some g → v2.ownBlock = some g → False) (hat : v'.ownBlock = v.ownBlock ∨ v'.ownBlock = some (w.alloc o).heap.size) : ∀ g, v'.ownBlock = some g → v2.ownBlock = some g → False := by
  intro g e1 e2
  rcases hat with e | e
  · exact hap g (e.symm.trans e1) e2
  · rw [e] at e1
    have hlt := (World.ownsRow.lt h2 g e2).2
    have : (w.alloc o).heap.size = g := by simpa using e1
    simp at this
    omega

end
end Go.Proofs.YtebcocehdjoafaaDoor
