/- The model's Order: those that are reached, as they are left last. -/
import Derived.Test.YtkolfddajcmnaaaLeft
import Derived.Test.YtkolfddajcmnaaaTo
import Derived.Laws.OwnMore
namespace Go.Proofs.Ytkolfddajcmnaaa
open Go.ChangeShapes Go.WideShapes Go.ChangeAt Go.RowKit Go.Shelf
set_option linter.unusedVariables false

theorem made_seen (n : Nat) : madeCells #[.bool false] n = seenCells n [] := by
  apply Array.toList_inj.1
  rw [toList_madeCells_one]
  simp [seenCells]
  exact (List.eq_replicate_iff.2 ⟨by simp, by simp⟩).symm

theorem make_bools (n : Nat) (hn : n ≤ 1048576) (w : World) :
    (Instr.makeSlice 43 (.int .i64 (n : Int)) (.int .i64 (n : Int))).run Try.prog w = .ok (.slice (some ⟨w.heap.size, 0, none⟩) n n) (w.alloc (.cells (madeCells #[.bool false] n) 4)) :=
  by
  have h := make_of (z := .bool false) (size := 1) (bytes := 1) Try.underlying43 (by kernel_rfl) n (by omega) (by omega) w
  rw [Nat.mul_one] at h
  exact h

theorem seen_new {w : World} {n g : Nat} (hg : w.heap.size = g) : SeenRow (w.alloc (.cells (madeCells #[.bool false] n) 4)) g n [] := by
  subst hg
  rw [made_seen]
  exact World.alloc_heap_new w _

theorem SeenRow.store {w : World} {g n : Nat} {seen seen' : List Nat} (h : SeenRow w g n seen) (b : Nat) (v : Bool) (hm : ∀ i, i < n → decide (i ∈ seen') = if i = b then v else decide (i ∈ seen)) : SeenRow (w.setCell ⟨g, b, none⟩ (.bool v)) g n seen' := by
  obtain ⟨hlt, hk⟩ := Array.getElem?_eq_some_iff.1 h
  show (w.heap.modify g _)[g]? = _
  rw [Array.getElem?_eq_getElem (by rw [Array.size_modify]; exact hlt), Array.getElem_modify_self, hk]
  have e : (seenCells n seen).setIfInBounds b (.bool v) = seenCells n seen' := by
    apply Array.ext
    · simp [seenCells]
    · intro i h1 h2
      have hi : i < n := by simpa [seenCells] using h1
      rw [Array.getElem_setIfInBounds (by simpa [seenCells] using hi)]
      have h3 := hm i hi
      have e1 : (seenCells n seen')[i] = .bool (decide (i ∈ seen')) := by simp [seenCells]
      have e2 : (seenCells n seen)[i]'(by simpa [seenCells] using hi) = .bool (decide (i ∈ seen)) := by simp [seenCells]
      rw [e1, e2, h3]
      by_cases e : b = i
      · subst e
        simp
      · have e3 : ¬ i = b := fun h => e h.symm
        simp [e, e3]
  simp [e]
theorem SeenRow.congr {w : World} {g n : Nat} {a b : List Nat} (h : SeenRow w g n a) (hm : ∀ i, i < n → (i ∈ a ↔ i ∈ b)) : SeenRow w g n b := by
  have e : seenCells n a = seenCells n b := by
    unfold seenCells
    congr 1
    apply List.map_congr_left
    intro i hi
    have := hm i (by simpa using hi)
    simp [this]
  unfold SeenRow at h ⊢
  rw [h, e]

theorem SeenRow.drew {w : World} {g n : Nat} {seen : List Nat} (h : SeenRow w g n seen) : SeenRow w.drew g n seen := h
theorem OwnInts.drew {w : World} {lo : Nat} {v : Value} {l : List Int} (h : OwnInts w lo v l) : OwnInts w.drew lo v l := h
theorem drop_rev2 {L : List Int} {j : Nat} (h : j < L.length) : (L.drop j).reverse = (L.drop (j + 1)).reverse ++ [L.getD j 0] := by
  rw [List.drop_eq_getElem_cons h, List.reverse_cons]
  simp [List.getD, h]
theorem drop_rev {L : List Int} {k : Nat} (hk : k < L.length) : (L.drop (L.length - (k + 1))).reverse = (L.drop (L.length - k)).reverse ++ [L.getD (L.length - (k + 1)) 0] := by
  have h : L.length - (k + 1) < L.length := by omega
  rw [List.drop_eq_getElem_cons h, List.reverse_cons]
  have e : L.length - (k + 1) + 1 = L.length - k := by omega
  rw [e]
  simp [List.getD, h]

theorem l3Left_zero (F : FnD) (v : Value) (W0 : World) (n : Nat) (hF : FnAt W0 v F) (hS : FnShape F) (hN : F.blocks.length = n) (ov : Value) (w : World) (g : Nat) (h0 : 0 < n) (h16 : n ≤ 16)
    (hB : Below W0.heap.size W0 w) (hg : W0.heap.size ≤ g) (hs : SeenRow w g n []) (ho : OwnInts w W0.heap.size ov []) :
    Calls Try.prog 67 #[v, .int .i64 0, .slice (some ⟨g, 0, none⟩) n n, ov] w fun e w' => GivesLeft W0.heap.size g n W0 ov (wayOf F) w e w' := by
  have h := l3Left_any F v W0 n hF hS hN n 0 ([], []) ov w g hB hg hs ho h0 (by simp) (by rw [unseen_nil]; omega) (by rw [unseen_nil]; simp; omega) ⟨by simp, by simp⟩
  have e : leave (succsN F) n 0 ([], []) = wayOf F := by rw [← hN]; exact (rfl : wayOf F = wayOf F)
  rw [e] at h
  exact h

end Go.Proofs.Ytkolfddajcmnaaa
