/- Rows of flags: which values are in a list; put, taken out, copied. -/
import Derived.Test.YtjfogpbhacadbaaLiveMathK
import Derived.Test.YtjfogpbhacadbaaBoolsK
import Derived.Test.YtjfogpbhacadbaaKTo
import Derived.ArgAppend
import Derived.Lib.AppendZeros
namespace Go.Proofs.Ytjfogpbhacadbaa
open Go.ChangeShapes Go.WideShapes Go.ChangeAt Go.RowKit
set_option linter.unusedVariables false

def bitsOf (V : Nat) (l : List Int) : List Bool := (List.range V).map (fun (j : Nat) => decide ((j : Int) ∈ l))
theorem bits_len (V : Nat) (l : List Int) : (bitsOf V l).length = V := by simp [bitsOf]
theorem bits_at {V : Nat} (l : List Int) {j : Nat} (h : j < V) : (bitsOf V l)[j]? = some (decide ((j : Int) ∈ l)) := by simp [bitsOf, h]
theorem bits_getD {V : Nat} (l : List Int) {j : Nat} (h : j < V) : (bitsOf V l).getD j false = decide ((j : Int) ∈ l) := by simp [bitsOf, h]
theorem bits_congr {V : Nat} {l m : List Int} (h : ∀ j : Nat, j < V → ((j : Int) ∈ l ↔ (j : Int) ∈ m)) : bitsOf V l = bitsOf V m := by
  unfold bitsOf
  apply List.map_congr_left
  intro j hj
  simp [h j (List.mem_range.1 hj)]
theorem bits_set {V : Nat} {l m : List Int} {d : Nat} {x : Bool} (hd : d < V) (h : ∀ j : Nat, j < V → ((j : Int) ∈ m ↔ if j = d then x = true else (j : Int) ∈ l)) : (bitsOf V l).set d x = bitsOf V m := by
  apply List.ext_getElem?
  intro j
  rw [List.getElem?_set]
  by_cases hj : j < V
  · rw [bits_at m hj]
    by_cases e : d = j
    · subst e
      have := h d hj
      rw [if_pos rfl] at this
      rw [if_pos rfl, if_pos (by rw [bits_len]; exact hj)]
      cases x <;> simp [this]
    · have := h j hj
      rw [if_neg (fun e2 => e e2.symm)] at this
      rw [if_neg e, bits_at l hj]
      simp [this]
  · have h1 : (bitsOf V m)[j]? = none := List.getElem?_eq_none (by rw [bits_len]; omega)
    have h2 : (bitsOf V l)[j]? = none := List.getElem?_eq_none (by rw [bits_len]; omega)
    rw [h1, if_neg (by omega), h2]
theorem cinfo_bool : (Try.prog.info? 4).map (fun i => (i.zero, i.size, i.bytes)) = some (some (.bool false), 1, 1) := by kernel_rfl
theorem OwnBools.cells {w : World} {lo g n cap : Nat} {l : List Bool} (h : OwnBools w lo (.slice (some ⟨g, 0, none⟩) n cap) l) : l.length = n ∧ lo ≤ g ∧ (∃ cur, w.heap[g]? = some (.cells cur 4 (0, 0))) ∧ n ≤ 9223372036854775807 ∧ (∀ j, j < n → w.cell? ⟨g, j, none⟩ = some (.bool (l.getD j false))) ∧ ∀ j, w.frozen? ⟨g, j, none⟩ = false := by
  rcases h with ⟨_, ⟨h0, _⟩ | ⟨g', cap', cur, hv, hlo, hg, h1, h2, h3, h4⟩⟩
  · cases h0
  · simp at hv
    obtain ⟨rfl, rfl, rfl⟩ := hv
    refine ⟨rfl, hlo, ⟨cur, hg⟩, by unfold maxLen at h2; omega, fun j hj => ?_, fun j => by simp [World.frozen?, hg]⟩
    have e := congrArg (fun m => m[j]?) h4
    rw [Nat.mul_one, List.getElem?_take, if_pos hj, List.getElem?_map] at e
    have hjc : j < cur.size := by omega
    simp [hjc, hj] at e
    simp [World.cell?, hg, hjc, e, hj]
theorem OwnBools.setAt {w : World} {lo g n cap : Nat} {l : List Bool} (h : OwnBools w lo (.slice (some ⟨g, 0, none⟩) n cap) l) {d : Nat} (hd : d < n) (x : Bool) : OwnBools (w.setCell ⟨g, d, none⟩ (.bool x)) lo (.slice (some ⟨g, 0, none⟩) n cap) (l.set d x) := by
  rcases h with ⟨_, ⟨h0, _⟩ | ⟨g', cap', cur, hv, hlo, hg, h1, h2, h3, h4⟩⟩
  · cases h0
  · simp at hv
    obtain ⟨rfl, rfl, rfl⟩ := hv
    obtain ⟨hl, hk⟩ := Array.getElem?_eq_some_iff.1 hg
    have hb : (w.setCell ⟨g, d, none⟩ (.bool x)).heap[g]? = some (.cells (cur.setIfInBounds d (.bool x)) 4 (0, 0)) := by
      show (w.heap.modify g _)[g]? = _
      rw [Array.getElem?_eq_getElem (by rw [Array.size_modify]; exact hl), Array.getElem_modify_self, hk]
      rfl
    refine ⟨by simp, .inr ⟨g, cap, _, by simp, hlo, hb, by simpa using h1, h2, by simpa using h3, ?_⟩⟩
    rw [List.length_set, Array.toList_setIfInBounds, List.map_set, ← h4, Nat.mul_one, List.take_set]
theorem BoolsAt.shape {w : World} {v : Value} {l : List Bool} (h : BoolsAt w v l) : ∃ a cap, v = .slice a l.length cap := by
  obtain ⟨a, cap, e, _⟩ := h
  exact ⟨a, cap, e⟩

set_option maxRecDepth 100000 in
theorem add_bools (g lo : Nat) (v : Value) (l : List Bool) (w : World) (h : BoolsAt w v l) (hn : l.length ≤ 1048576) (hg : OwnBools w lo (.slice (some ⟨g, 0, none⟩) 0 0) []) (hlo : lo ≤ w.heap.size) (ty : TypeId) :
    ∃ v' w', (Builtin.append_ #[35, 35] ty #[.slice (some ⟨g, 0, none⟩) 0 0, v]).run Try.prog w = .ok v' w' ∧ (∃ g' cap', v' = .slice (some ⟨g', 0, none⟩) l.length cap') ∧ OwnBools w' lo v' l ∧ Below w.heap.size w w' := by
  obtain ⟨a, cap, rfl, hm, hc⟩ := h
  obtain ⟨i0, hi, hz0, hz1, hz2⟩ := info_parts cinfo_bool
  by_cases h0 : l.length = 0
  · refine ⟨.slice (some ⟨g, 0, none⟩) 0 0, w, ?_, ⟨_, _, by rw [h0]⟩, ?_, Below.refl _ _⟩
    · rw [h0]
      cases a with
      | none => simp [Builtin.append_, run_underlying Try.underlying35, sizeOf, typeInfo, hi, Builtin.lenOf, Builtin.firstCells, go_sem]
      | some ad => simp [Builtin.append_, run_underlying Try.underlying35, sizeOf, typeInfo, hi, Builtin.lenOf, Builtin.firstCells, go_sem]
    · rw [List.length_eq_zero_iff.1 h0]
      exact hg
  · have hmx : 2000000 ≤ maxLen := by decide
    obtain ⟨b, off, rfl, hE⟩ := hc (by omega)
    obtain ⟨v', w', hrun, hown, hgr⟩ := run_append_arg_grows (P := Try.prog) w 35 ty 4 i0 (.bool false) 1 1 Try.underlying35 hi hz0 hz1 hz2 rfl (by decide) ⟨g, 0, none⟩ 0 0 [] rfl (fun j u h => by simp at h) ⟨b, off, none⟩ l.length cap (l.map (fun x => Value.bool x)) (by simp) (fun j u hu => by
      have hj : j < l.length := by
        rcases Nat.lt_or_ge j l.length with h | h
        · exact h
        · rw [List.getElem?_eq_none (by simpa using h)] at hu; cases hu
      rw [Addr.add_lit, hE j hj, ← hu]
      simp [hj]) (by omega) (by omega) (by omega)
    rw [Nat.zero_add, List.nil_append] at hown
    have hb : Below w.heap.size w w' := (Below.refl w.heap.size w).grown hgr (Nat.le_refl _) (fun j ej => by cases ej)
    have hO : OwnBools w' lo v' l := OwnBools.low (show OwnBools w' w.heap.size v' l from hown) hlo
    refine ⟨v', w', hrun, ?_, hO, hb⟩
    rcases hO.2 with ⟨rfl, h2⟩ | ⟨g2, c2, _, rfl, _⟩
    · exact absurd h2 h0
    · exact ⟨_, _, rfl⟩
theorem make_bools (n : Nat) (hn : n ≤ 1048576) (w : World) :
    (Instr.makeSlice 35 (.int .i64 (n : Int)) (.int .i64 (n : Int))).run Try.prog w = .ok (.slice (some ⟨w.heap.size, 0, none⟩) n n) (w.alloc (.cells (madeCells #[.bool false] n) 4)) := by
  have h := make_of (z := .bool false) (size := 1) (bytes := 1) Try.underlying35 (by kernel_rfl) n (by omega) (by omega) w
  rw [Nat.mul_one] at h
  exact h
theorem ownBools_made (n lo : Nat) (hn : n ≤ 1048576) (w : World) (hlo : lo ≤ w.heap.size) : OwnBools (w.alloc (.cells (madeCells #[.bool false] n) 4)) lo (.slice (some ⟨w.heap.size, 0, none⟩) n n) (bitsOf n []) := by
  have hmx : 2000000 ≤ maxLen := by decide
  refine ⟨by simp, .inr ⟨w.heap.size, n, _, by rw [bits_len], hlo, World.alloc_heap_new w _, by rw [bits_len]; exact Nat.le_refl _, by omega, ?_, ?_⟩⟩
  · rw [← Array.length_toList, toList_madeCells_one]; simp
  · rw [toList_madeCells_one, bits_len, Nat.mul_one]
    apply List.ext_getElem?
    intro j
    by_cases hj : j < n
    · simp [bitsOf, hj]
    · simp [bitsOf, hj]
end Go.Proofs.Ytjfogpbhacadbaa
