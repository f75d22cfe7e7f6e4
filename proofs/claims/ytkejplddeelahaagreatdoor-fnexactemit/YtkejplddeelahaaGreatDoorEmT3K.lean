/- Code from homes: the program's Emit. -/
import Derived.Test.YtkejplddeelahaaGreatDoorEmT2K
import Derived.Test.YtkejplddeelahaaGreatDoorEmtMatK
import Derived.Test.YtkejplddeelahaaGreatDoorKWalk
import Derived.Test.YtkejplddeelahaaGreatDoorKEdge
import Derived.Test.YtkejplddeelahaaGreatDoorKMake
namespace Go.Proofs.YtkejplddeelahaaGreatDoor
open Go.ChangeShapes Go.WideShapes Go.ChangeAt Go.RowKit
set_option linter.unusedVariables false

theorem codeTo_pos {F : FnD} (h : FnShape F) {k : Nat} (hk : 0 < k) (hk2 : k ≤ (orderOf F).length) : 0 < (codeTo F (orderOf F) k).length := by
  obtain ⟨j, rfl⟩ : ∃ j, k = j + 1 := ⟨k - 1, by omega⟩
  have e : (orderOf F)[j]? = some (orderOf F)[j] := List.getElem?_eq_getElem (by omega)
  have hb := order_in h _ (List.getElem_mem (l := orderOf F) (n := j) (by omega))
  have e2 : F.blocks[((orderOf F)[j]).toNat]? = some (F.blocks[((orderOf F)[j]).toNat]'(by omega)) := List.getElem?_eq_getElem _
  rw [codeTo_next e e2, List.length_append]
  unfold blockL
  rw [List.length_append]
  have := termL_pos (F.blocks[((orderOf F)[j]).toNat]'(by omega)).term
  omega
theorem rawE_pos {F : FnD} (h : FnShape F) : 0 < (rawE F).length := codeTo_pos h (order_first h).2 (Nat.le_refl _)
def GivesEmit (w : World) (l : List InsD) (ok : Bool) (e : Ending) (w' : World) : Prop := ∃ v, e = .returned (.tuple #[v, .bool ok]) ∧ OwnSteps w' w.heap.size v l ∧ Below w.heap.size w w'
theorem emitB_yes {F : FnD} (h1 : FnPlain F) (h2 : F.values ≤ 40) (h3 : machineOkB (codeE F) = true) : emitB F = true := by
  unfold emitB
  exact @decide_eq_true _ (Classical.propDecidable _) ⟨h1, h2, h3⟩
theorem emitB_no {F : FnD} (h : ¬ (FnPlain F ∧ F.values ≤ 40 ∧ machineOkB (codeE F) = true)) : emitB F = false := by
  unfold emitB
  exact @decide_eq_false _ (Classical.propDecidable _) h
theorem emitOf_yes {F : FnD} (h : emitB F = true) : emitOf F = codeE F := if_pos h
theorem emitOf_no {F : FnD} (h : emitB F = false) : emitOf F = [] := by unfold emitOf; rw [h]; rfl
theorem numC_set (n : Nat) (f : Nat → Int) (b : Nat) (z : Int) : (numC n f).setIfInBounds b (.int .i64 z) = numC n (updN f b z) := by
  unfold numC
  rw [List.setIfInBounds_toArray]
  congr 1
  apply List.ext_getElem
  · simp
  · intro i h1 h2
    rw [List.getElem_set]
    by_cases e : b = i
    · subst e; simp [updN]
    · rw [if_neg e]; simp [updN, show ¬ i = b from fun x => e x.symm]
/-- While code is put: the emitter, the program's box, where blocks begin, the order. -/
structure EmSt (w0 w : World) (E B X : Nat) (u v : Value) (l : List InsD) (o : List Int) (bg : Nat → Int) (bv : Value) (vals : Int) : Prop where
  em : EmIs w0.heap.size w E v l
  bel : Below w0.heap.size w0 w
  fb : w.heap[X]? = some (.cells #[bv, .int .i64 vals] 26 (0, 0))
  beg : w.heap[B]? = some (.cells (numC 16 bg) 67 (0, 0))
  ord : OwnInts w w0.heap.size u o
  nE : B ≠ E ∧ X ≠ E ∧ X ≠ B ∧ w0.heap.size ≤ B
  nv : some B ≠ v.ownBlock ∧ some X ≠ v.ownBlock
  nu : u.ownBlock ≠ some E ∧ u.ownBlock ≠ some B ∧ ∀ g, u.ownBlock = some g → some g ≠ v.ownBlock
theorem OwnInts.sameB {w w' : World} {lo : Nat} {u : Value} {o : List Int} (h : OwnInts w lo u o) (hs : ∀ g, u.ownBlock = some g → w'.heap[g]? = w.heap[g]?) : OwnInts w' lo u o := by
  obtain ⟨h0, h1⟩ := h
  refine ⟨h0, ?_⟩
  rcases h1 with h1 | ⟨g, cap, cur, rfl, hlo, hg, h2⟩
  · exact .inl h1
  · exact .inr ⟨g, cap, cur, rfl, hlo, (hs g rfl).trans hg, h2⟩
section
variable {w0 w w' : World} {E B X : Nat} {u v v' : Value} {l l' : List InsD} {o : List Int} {bg : Nat → Int} {bv : Value} {vals : Int}
theorem EmSt.to (h : EmSt w0 w E B X u v l o bg bv vals) (he : EmIs w0.heap.size w' E v' l') (ht : EmTo w0.heap.size E w v w' v') : EmSt w0 w' E B X u v' l' o bg bv vals := by
  obtain ⟨hX1, hX2, _⟩ := ht.box (Array.getElem?_eq_some_iff.1 h.fb).1 h.nE.2.1 h.nv.2
  obtain ⟨hB1, hB2, _⟩ := ht.box (Array.getElem?_eq_some_iff.1 h.beg).1 h.nE.1 h.nv.1
  have hu : ∀ g, u.ownBlock = some g → w'.heap[g]? = w.heap[g]? ∧ some g ≠ v'.ownBlock := fun g hg => by
    obtain ⟨a, b, _⟩ := ht.box ((World.ownsRow.lt h.ord g hg).2) (fun e => h.nu.1 (by rw [hg, e])) (h.nu.2.2 g hg)
    exact ⟨a, b⟩
  exact ⟨he, h.bel.trans ht.bel, hX1.trans h.fb, hB1.trans h.beg, h.ord.sameB (fun g hg => (hu g hg).1), h.nE, ⟨hB2, hX2⟩, ⟨h.nu.1, h.nu.2.1, fun g hg => (hu g hg).2⟩⟩
theorem EmSt.grow (h : EmSt w0 w E B X u v l o bg bv vals) (hb : Below w.heap.size w w') : EmSt w0 w' E B X u v l o bg bv vals := h.to (h.em.grow hb) (EmTo.grow v hb h.bel.size)
theorem EmSt.begin (h : EmSt w0 w E B X u v l o bg bv vals) {b : Nat} (hb : b < 16) (z : Int) : EmSt w0 (w.setCell ⟨B, b, none⟩ (.int .i64 z)) E B X u v l o (updN bg b z) bv vals := by
  have hoth : ∀ g, g ≠ B → (w.setCell ⟨B, b, none⟩ (.int .i64 z)).heap[g]? = w.heap[g]? := fun g hg => Below.heap_setCell _ _ _ g hg
  refine ⟨⟨(hoth E (fun e => h.nE.1 e.symm)).trans h.em.box, ?_, h.em.lo⟩, h.bel.setCell (p := ⟨B, b, none⟩) h.nE.2.2.2 _, (hoth X h.nE.2.2.1).trans h.fb, ?_, h.ord.sameB (fun g hg => hoth g (fun e => h.nu.2.1 (by rw [hg, e]))), h.nE, h.nv, h.nu⟩
  · obtain ⟨h0, h1⟩ := h.em.own
    refine ⟨h0, ?_⟩
    rcases h1 with h1 | ⟨g, cap, cur, e, hlo, hg, h2⟩
    · exact .inl h1
    · exact .inr ⟨g, cap, cur, e, hlo, (hoth g (fun ee => h.nv.1 (by rw [e, ← ee]; rfl))).trans hg, h2⟩
  · have h9 := h.beg
    rw [heap_setCell_same _ _ _ _ _ _ h9, numC_set]
end
end Go.Proofs.YtkejplddeelahaaGreatDoor
