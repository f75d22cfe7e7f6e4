/- Lists of numbers of the call's own, number by number. -/
import Derived.Test.YtebcocehdjoafaaDoorRunDef
import Derived.Test.YtebcocehdjoafaaDoorOwn
import Derived.Deep.OwnRows
namespace Go.Proofs.YtebcocehdjoafaaDoor
open Go.ChangeShapes Go.WideShapes Go.ChangeAt Go.RowKit
set_option linter.unusedVariables false

theorem cell_of_heap {w w' : World} {b : Nat} (h : w'.heap[b]? = w.heap[b]?) (o : Nat) : w'.cell? ⟨b, o, none⟩ = w.cell? ⟨b, o, none⟩ := by simp [World.cell?, h]
theorem frozen_of_cells {w : World} {b : Nat} {t : TypeId} (h : ∃ c, w.heap[b]? = some (.cells c t (0, 0))) (o : Nat) : w.frozen? ⟨b, o, none⟩ = false := by
  obtain ⟨c, h⟩ := h
  simp [World.frozen?, h]
/-- The first n of f. -/
def listN (n : Nat) (f : Nat → Int) : List Int := (List.range n).map f
theorem listN_len (n : Nat) (f : Nat → Int) : (listN n f).length = n := by simp [listN]
theorem listN_at (n : Nat) (f : Nat → Int) {i : Nat} (h : i < n) : (listN n f).getD i 0 = f i := by simp [listN, List.getD, h]
theorem listN_set (n : Nat) (f : Nat → Int) (d : Nat) (x : Int) : (listN n f).set d x = listN n (updN f d x) := by
  apply List.ext_getElem?
  intro i
  by_cases hi : i < n
  · by_cases e : d = i
    · subst e
      simp [listN, updN, hi]
    · have e2 : ¬ i = d := fun h => e h.symm
      simp [listN, updN, hi, e, e2]
  · rw [List.getElem?_eq_none (by simp [listN]; omega), List.getElem?_eq_none (by simp [listN]; omega)]

theorem OwnInts.heapOf {w : World} {lo g n cap : Nat} {l : List Int} (h : OwnInts w lo (.slice (some ⟨g, 0, none⟩) n cap) l) : ∃ c, w.heap[g]? = some (.cells c 3 (0, 0)) := by
  rcases h.2 with ⟨h0, _⟩ | ⟨g', cap', cur, h0, _, hg, _⟩
  · cases h0
  · cases h0
    exact ⟨cur, hg⟩
theorem OwnInts.len {w : World} {lo g n cap : Nat} {l : List Int} (h : OwnInts w lo (.slice (some ⟨g, 0, none⟩) n cap) l) : n = l.length := by
  rcases h.2 with ⟨h0, _⟩ | ⟨g', cap', cur, h0, _, hg, _⟩
  · cases h0
  · cases h0
    rfl
theorem OwnInts.setAt {w : World} {lo g n cap : Nat} {l : List Int} (h : OwnInts w lo (.slice (some ⟨g, 0, none⟩) n cap) l) {d : Nat} (hd : d < n) (x : Int) : OwnInts (w.setCell ⟨g, d, none⟩ (.int .i64 x)) lo (.slice (some ⟨g, 0, none⟩) n cap) (l.set d x) := by
  have hn := h.len
  rcases h with ⟨h00, h⟩
  rcases h with ⟨h0, _⟩ | ⟨g', cap', cur, h0, hlo, hg, h1, h2, h3, h4⟩
  · cases h0
  · cases h0
    refine ⟨by simp, .inr ⟨g, cap, cur.setIfInBounds d (.int .i64 x), by simp, hlo, heap_setCell_same _ _ _ _ _ _ hg, by simpa using h1, by simpa using h2, by simpa using h3, ?_⟩⟩
    have e : (cur.setIfInBounds d (Value.int .i64 x)).toList = cur.toList.set d (.int .i64 x) := by simp
    rw [e, List.length_set, List.take_set, h4, List.map_set]
theorem OwnInts.apartSet {w : World} {lo : Nat} {v : Value} {l : List Int} (h : OwnInts w lo v l) {g d : Nat} (hg : v.ownBlock ≠ some g) (x : Value) : OwnInts (w.setCell ⟨g, d, none⟩ x) lo v l := by
  obtain ⟨h0, h1⟩ := h
  refine ⟨h0, ?_⟩
  rcases h1 with h1 | ⟨g', cap, cur, rfl, hlo, hh, h2⟩
  · exact .inl h1
  · refine .inr ⟨g', cap, cur, rfl, hlo, ?_, h2⟩
    rw [heap_setCell_other _ _ _ _ (fun e => hg (by simp [Value.ownBlock]; exact e))]
    exact hh
theorem OwnInts.cellAt {w : World} {lo g n cap : Nat} {l : List Int} (h : OwnInts w lo (.slice (some ⟨g, 0, none⟩) n cap) l) {i : Nat} (hi : i < n) : w.cell? ⟨g, i, none⟩ = some (.int .i64 (l.getD i 0)) := by
  have hn := h.len
  obtain ⟨a, c, e, hc⟩ := h.row
  obtain ⟨g', e2, _, _, h1, _⟩ := hc (by omega)
  subst e2
  simp at e
  obtain ⟨rfl, _, _⟩ := e
  exact h1 i (by omega)

theorem make_ints (n : Nat) (hn : n ≤ 1048576) (w : World) : (Instr.makeSlice 39 (.int .i64 (n : Int)) (.int .i64 (n : Int))).run Tryd.prog w = .ok (.slice (some ⟨w.heap.size, 0, none⟩) n n) (w.alloc (.cells (madeCells #[.int .i64 0] n) 3)) :=
  run_make_row' 39 3 (.int .i64 0) 8 Tryd.underlying39 (by kernel_rfl) rfl .i64 .i64 n (by omega) (by omega) w
theorem own_made {w : World} {lo : Nat} (n : Nat) (hn : n ≤ 1048576) (hlo : lo ≤ w.heap.size) : OwnInts (w.alloc (.cells (madeCells #[.int .i64 0] n) 3)) lo (.slice (some ⟨w.heap.size, 0, none⟩) n n) (listN n (fun _ => 0)) := by
  have hm : n ≤ maxLen := by have : 1048576 ≤ maxLen := by decide
                             omega
  refine ⟨by simp [listN_len], .inr ⟨w.heap.size, n, madeCells #[.int .i64 0] n, by rw [listN_len], hlo, World.alloc_heap_new w _, by rw [listN_len]; exact Nat.le_refl _, hm, by simp [size_madeCells], ?_⟩⟩
  rw [toList_madeCells_one, listN_len]
  simp [listN]
  exact (List.eq_replicate_iff.2 ⟨by simp, by simp⟩).symm
end Go.Proofs.YtebcocehdjoafaaDoor
