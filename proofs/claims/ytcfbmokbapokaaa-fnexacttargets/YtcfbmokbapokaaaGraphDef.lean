/- The way between blocks, as mathematics: who follows, who comes ahead. -/
import Derived.Test.YtcfbmokbapokaaaShapeDef
import Derived.Test.YtcfbmokbapokaaaSeq
import Derived.Test.YtcfbmokbapokaaaOwn
namespace Go.Proofs.Ytcfbmokbapokaaa
open Go.ChangeShapes Go.WideShapes Go.ChangeAt Go.RowKit Go.Shelf
set_option linter.unusedVariables false

def succsT (t : TermD) : List Int := succsV t.k t.t t.e
/-- The blocks that follow the block number b, of what is right. -/
def succsN (F : FnD) (b : Nat) : List Int := match F.blocks[b]? with | some x => succsT x.term | none => []
theorem succsN_at {F : FnD} {b : Nat} {x : BlockD} (h : F.blocks[b]? = some x) : succsN F b = succsT x.term := by simp [succsN, h]
open Classical in
/-- Succs, as the document says it. -/
noncomputable def succsOf (F : FnD) (b : Int) : List Int := if FnShape F ∧ 0 ≤ b ∧ b < F.blocks.length then succsN F b.toNat else []
theorem succsOf_yes {F : FnD} {b : Int} (h : FnShape F) (h0 : 0 ≤ b) (h1 : b < F.blocks.length) : succsOf F b = succsN F b.toNat := if_pos ⟨h, h0, h1⟩
theorem succsOf_no {F : FnD} {b : Int} (h : ¬ (FnShape F ∧ 0 ≤ b ∧ b < F.blocks.length)) : succsOf F b = [] := if_neg h

/-- The first k blocks of those of whose Succs b is one, ascending. -/
def predsUp (F : FnD) (b : Int) (k : Nat) : List Int := ((List.range k).filter (fun p => decide (b ∈ succsN F p))).map (fun (p : Nat) => (p : Int))
def predsN (F : FnD) (b : Int) : List Int := predsUp F b F.blocks.length
theorem predsUp_zero (F : FnD) (b : Int) : predsUp F b 0 = [] := rfl
theorem predsUp_yes {F : FnD} {b : Int} {k : Nat} (h : b ∈ succsN F k) : predsUp F b (k + 1) = predsUp F b k ++ [(k : Int)] := by simp [predsUp, List.range_succ, h]
theorem predsUp_not {F : FnD} {b : Int} {k : Nat} (h : ¬ b ∈ succsN F k) : predsUp F b (k + 1) = predsUp F b k := by simp [predsUp, List.range_succ, h]
theorem predsUp_len (F : FnD) (b : Int) (k : Nat) : (predsUp F b k).length ≤ k := by
  unfold predsUp
  rw [List.length_map]
  exact Nat.le_trans (List.length_filter_le _ _) (by simp)
open Classical in
noncomputable def predsOf (F : FnD) (b : Int) : List Int := if FnShape F ∧ 0 ≤ b ∧ b < F.blocks.length then predsN F b else []
theorem predsOf_yes {F : FnD} {b : Int} (h : FnShape F) (h0 : 0 ≤ b) (h1 : b < F.blocks.length) : predsOf F b = predsN F b := if_pos ⟨h, h0, h1⟩
theorem predsOf_no {F : FnD} {b : Int} (h : ¬ (FnShape F ∧ 0 ≤ b ∧ b < F.blocks.length)) : predsOf F b = [] := if_neg h

/-- A block of what is right, as it lies. -/
theorem FnShape.term {F : FnD} (h : FnShape F) {j : Nat} {x : BlockD} (hx : F.blocks[j]? = some x) : termOkV (F.blocks.length : Int) F.values x.term.k x.term.a x.term.t x.term.e = true := (h.2.2.2.2 j x hx).2.2.2.2
theorem succs_in {F : FnD} (h : FnShape F) (j : Nat) : ∀ s ∈ succsN F j, 0 ≤ s ∧ s < F.blocks.length := by
  intro s hs
  unfold succsN at hs
  split at hs
  · rename_i x hx
    have ht := h.term hx
    unfold termOkV at ht
    unfold succsT succsV at hs
    by_cases h1 : x.term.k = 1
    · simp [h1, valIn] at ht hs
      subst hs
      exact ht.1.1
    · by_cases h2 : x.term.k = 2
      · simp [h2, valIn] at ht
        rw [if_neg h1, if_pos h2] at hs
        have hm : s = x.term.t ∨ s = x.term.e := by
          split at hs
          · simp at hs; exact .inl hs
          · simpa using hs
        rcases hm with rfl | rfl
        · exact ht.1.1
        · exact ht.1.2
      · simp [h1, h2] at hs
  · simp at hs
theorem succsV_small2 (k t e : Int) : (succsV k t e).length ≤ 2 := by
  unfold succsV
  split
  · simp
  · split
    · split <;> simp
    · simp
theorem succsN_small (F : FnD) (b : Nat) : (succsN F b).length ≤ 2 := by
  unfold succsN
  split
  · exact succsV_small2 _ _ _
  · simp
theorem succsOf_small (F : FnD) (b : Int) : (succsOf F b).length ≤ 100 := by
  unfold succsOf
  split
  · exact Nat.le_trans (succsN_small _ _) (by omega)
  · simp
theorem predsOf_small (F : FnD) (b : Int) : (predsOf F b).length ≤ 100 := by
  unfold predsOf
  split
  · rename_i h
    exact Nat.le_trans (predsUp_len _ _ _) (by have := h.1.2.1; omega)
  · simp

end Go.Proofs.Ytcfbmokbapokaaa
