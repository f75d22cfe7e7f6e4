/- Which values are needed: of plain programs; the model's list of a row of flags. -/
import Derived.Test.YtjfogpbhacadbaaLSpEK
import Derived.Test.YtjfogpbhacadbaaLNewK
import Derived.Test.YtjfogpbhacadbaaKPlain
namespace Go.Proofs.Ytjfogpbhacadbaa
open Go.ChangeShapes Go.WideShapes Go.ChangeAt Go.RowKit Go.Shelf
set_option linter.unusedVariables false

theorem shape_uses {V : Int} {y : InsD} (h : placeOkV V y = true) : (∀ v ∈ usesV y.op y.a y.b, 0 ≤ v ∧ v < V) ∧ ((1 ≤ y.op ∧ y.op ≤ 10) ∨ y.op = 20 ∨ y.op = 21 ∨ y.op = 25 ∨ y.op = 24 → 0 ≤ y.d ∧ y.d < V) ∧ ((1 ≤ y.op ∧ y.op ≤ 10) ∨ (20 ≤ y.op ∧ y.op ≤ 25)) := by
  unfold placeOkV insOkV at h
  have hv := @valIn_iff V
  split at h
  · rename_i h1
    simp only [Bool.and_eq_true, hv] at h
    refine ⟨fun v hx => ?_, fun _ => h.1.1.1, .inl h1⟩
    simp [usesV, h1] at hx
    rcases hx with rfl | rfl
    · exact h.1.1.2
    · exact h.1.2
  · rename_i h1
    split at h
    · rename_i h2
      simp only [Bool.and_eq_true, hv] at h
      refine ⟨fun v hx => ?_, fun _ => h.1.1, .inr (by omega)⟩
      simp [usesV, h2] at hx
    · split at h
      · rename_i h2 h3
        simp only [Bool.and_eq_true, hv] at h
        refine ⟨fun v hx => ?_, fun _ => h.1.1.1, .inr (by omega)⟩
        have : usesV y.op y.a y.b = [y.a] := by rcases h3 with h3 | h3 <;> simp [usesV, h3]
        rw [this] at hx
        simp at hx
        rw [hx]
        exact h.1.1.2
      · split at h
        · rename_i h2 h3 h4
          simp only [Bool.and_eq_true, hv] at h
          refine ⟨fun v hx => ?_, fun e => absurd e (by omega), .inr (by omega)⟩
          simp [usesV, h4] at hx
          rcases hx with rfl | rfl
          · exact h.1.1.1
          · exact h.1.1.2
        · split at h
          · rename_i h2 h3 h4 h5
            simp only [Bool.and_eq_true, hv] at h
            refine ⟨fun v hx => ?_, fun e => absurd e (by omega), .inr (by omega)⟩
            simp [usesV, h5] at hx
            rw [hx]
            exact h.1.1.1
          · split at h
            · rename_i h2 h3 h4 h5 h6
              simp only [Bool.and_eq_true, hv] at h
              refine ⟨fun v hx => ?_, fun _ => h.1.1.1, .inr (by omega)⟩
              simp [usesV, h6] at hx
            · cases h
theorem shape_ends {B V : Int} {x : BlockD} (h : termOkV B V x.term.k x.term.a x.term.t x.term.e = true) : ∀ v ∈ endsV x.term.k x.term.a, 0 ≤ v ∧ v < V := by
  unfold termOkV at h
  have hv := @valIn_iff V
  intro v hx
  split at h
  · rename_i h1
    simp [endsV, h1] at hx
  · split at h
    · rename_i h1 h2
      simp only [Bool.and_eq_true] at h
      simp [endsV, h2] at hx
      rw [hx]
      exact hv.1 h.2
    · split at h
      · rename_i h1 h2 h3
        simp only [Bool.and_eq_true] at h
        simp [endsV, h3] at hx
        rw [hx]
        exact hv.1 h.1.1
      · cases h

theorem plainV_of {F : FnD} (h : FnPlain F) : ∃ n V, PlainV F n V := by
  obtain ⟨⟨h1, h2, h3, h4, h5⟩, _⟩ := h
  refine ⟨F.blocks.length, F.values.toNat, rfl, h1, h2, by omega, by omega, fun j s hs => succs_in ⟨h1, h2, h3, h4, h5⟩ j s hs, fun j x hx z hz => ?_, fun j x hx y hy => ?_⟩
  · have := shape_ends (FnShape.term ⟨h1, h2, h3, h4, h5⟩ hx) z hz
    omega
  · obtain ⟨i, hi⟩ := List.mem_iff_getElem?.1 hy
    have hp := (h5 j x hx)
    have hy2 : placeOkV F.values y = true := hp.2.2.2.1 i y hi
    obtain ⟨q1, q2, q3⟩ := shape_uses hy2
    refine ⟨fun z hz => by have := q1 z hz; omega, ?_⟩
    unfold insDefV
    by_cases e : makesV y.op = true
    · rw [if_pos e]
      have e2 : (1 ≤ y.op ∧ y.op ≤ 10) ∨ y.op = 20 ∨ y.op = 21 ∨ y.op = 24 ∨ y.op = 25 := by simpa [makesV] using e
      have := q2 (by omega)
      exact .inr (by omega)
    · rw [if_neg e]; exact .inl rfl
theorem PlainV.takes {F : FnD} {n V : Nat} (h : PlainV F n V) (j : Nat) (x : BlockD) (hx : F.blocks[j]? = some x) : Takes80 x :=
  ⟨fun y hy z hz => by have := (h.uses j x hx y hy).1 z hz; have := h.v80; omega, fun z hz => by have := h.ends j x hx z hz; have := h.v80; omega⟩
theorem liveV {F : FnD} {n V : Nat} (h : PlainV F n V) (b : Nat) : ∀ z ∈ liveL F b, z < (V : Int) := fun z hz => by
  have hl := ((liveL_mem F b z).1 hz).1
  have := hl (fun i => (liveL F i).filter (fun z => decide (z < (V : Int)))) (fun i u hu => ?_)
  · simpa using (List.mem_filter.1 this).2
  · have h1 : ∀ c, ∀ q ∈ (liveL F c).filter (fun z => decide (z < (V : Int))), q < (V : Int) := fun c q hq => by simpa using (List.mem_filter.1 hq).2
    refine List.mem_filter.2 ⟨?_, by simpa using h.inV h1 i u hu⟩
    have h2 := inF_mono F (i := fun i => (liveL F i).filter (fun z => decide (z < (V : Int)))) (j := liveL F) (fun c q hq => (List.mem_filter.1 hq).1) i u hu
    rw [liveL_mem]
    exact ⟨fun C hC => hC i u (inF_mono F (fun c q hq => ((liveL_mem F c q).1 hq).1 C hC) i u h2), (inF_ok F (liveL F) i).2 u h2⟩
/-- The values of a row of flags, ascending. -/
def upL (V : Nat) (l : List Int) (k : Nat) : List Int := ((List.range k).map (fun (j : Nat) => (j : Int))).filter (fun z => decide (z ∈ l))
theorem upL_next (V : Nat) (l : List Int) (k : Nat) : upL V l (k + 1) = upL V l k ++ (if (k : Int) ∈ l then [(k : Int)] else []) := by
  unfold upL
  rw [List.range_succ, List.map_append, List.filter_append]
  by_cases h : (k : Int) ∈ l <;> simp [h]
theorem upL_len (V : Nat) (l : List Int) (k : Nat) : (upL V l k).length ≤ k := by
  unfold upL
  refine Nat.le_trans (List.length_filter_le _ _) (by simp)
theorem upL_eq {V : Nat} {l : List Int} (ha : Asc l) (h8 : In80 l) (hV : ∀ z ∈ l, z < (V : Int)) : upL V l V = l := by
  refine asc_ext ?_ ha (fun z => ?_)
  · unfold upL Asc
    refine List.Pairwise.filter _ ?_
    rw [List.pairwise_map]
    exact List.pairwise_lt_range.imp (fun h => by omega)
  · unfold upL
    rw [List.mem_filter]
    simp only [List.mem_map, List.mem_range, decide_eq_true_eq]
    exact ⟨fun h => h.2, fun h => ⟨⟨z.toNat, by have := hV z h; have := h8 z h; omega, by have := h8 z h; omega⟩, h⟩⟩

end Go.Proofs.Ytjfogpbhacadbaa
