/- The way between blocks, as mathematics: who follows, who comes ahead. The program's Succs: the blocks that follow, for every program and every number. The model's Succs: the blocks that follow, for every program and every number. -/
import Derived.Test.YtjfogpbhacadbaaKSh1
import Derived.Test.YtjfogpbhacadbaaKSeq
import Derived.Test.YtjfogpbhacadbaaKSh5
import Derived.Maps.AppendAt
import Derived.Test.YtjfogpbhacadbaaKSh8
namespace Go.Proofs.Ytjfogpbhacadbaa
open Go.ChangeShapes Go.WideShapes Go.ChangeAt Go.RowKit Go.Shelf
set_option linter.unusedVariables false

def succsT (t : TermD) : List Int := succsV t.k t.t t.e
/-- The blocks that follow the block number b, of what is right. -/
def succsN (F : FnD) (b : Nat) : List Int := match F.blocks[b]? with | some x => succsT x.term | none => []
theorem succsN_at {F : FnD} {b : Nat} {x : BlockD} (h : F.blocks[b]? = some x) : succsN F b = succsT x.term := by simp [succsN, h]
open Classical in
/-- Succs, as the document says it. -/
noncomputable def succsOf (F : FnD) (b : Int) : List Int := if FnShape F ∧ 0 ≤ b ∧ b < F.blocks.length then succsN F b.toNat else []
theorem succsOf_yes {F : FnD} {b : Int} (h : FnShape F) (h0 : 0 ≤ b) (h1 : b < F.blocks.length) : succsOf F b = succsN F b.toNat := if_pos ⟨h, h0, h1⟩
theorem succsOf_no {F : FnD} {b : Int} (h : ¬ (FnShape F ∧ 0 ≤ b ∧ b < F.blocks.length)) : succsOf F b = [] := if_neg h

/-- The first k blocks of those of whose Succs b is one, ascending. -/
def predsUp (F : FnD) (b : Int) (k : Nat) : List Int := ((List.range k).filter (fun p => decide (b ∈ succsN F p))).map (fun (p : Nat) => (p : Int))
def predsN (F : FnD) (b : Int) : List Int := predsUp F b F.blocks.length
theorem predsUp_zero (F : FnD) (b : Int) : predsUp F b 0 = [] := rfl
theorem predsUp_yes {F : FnD} {b : Int} {k : Nat} (h : b ∈ succsN F k) : predsUp F b (k + 1) = predsUp F b k ++ [(k : Int)] := by simp [predsUp, List.range_succ, h]
theorem predsUp_not {F : FnD} {b : Int} {k : Nat} (h : ¬ b ∈ succsN F k) : predsUp F b (k + 1) = predsUp F b k := by simp [predsUp, List.range_succ, h]
theorem predsUp_len (F : FnD) (b : Int) (k : Nat) : (predsUp F b k).length ≤ k := by
  unfold predsUp
  rw [List.length_map]
  exact Nat.le_trans (List.length_filter_le _ _) (by simp)
open Classical in
noncomputable def predsOf (F : FnD) (b : Int) : List Int := if FnShape F ∧ 0 ≤ b ∧ b < F.blocks.length then predsN F b else []
theorem predsOf_yes {F : FnD} {b : Int} (h : FnShape F) (h0 : 0 ≤ b) (h1 : b < F.blocks.length) : predsOf F b = predsN F b := if_pos ⟨h, h0, h1⟩
theorem predsOf_no {F : FnD} {b : Int} (h : ¬ (FnShape F ∧ 0 ≤ b ∧ b < F.blocks.length)) : predsOf F b = [] := if_neg h

/-- A block of what is right, as it lies. -/
theorem FnShape.term {F : FnD} (h : FnShape F) {j : Nat} {x : BlockD} (hx : F.blocks[j]? = some x) : termOkV (F.blocks.length : Int) F.values x.term.k x.term.a x.term.t x.term.e = true := (h.2.2.2.2 j x hx).2.2.2.2
theorem succs_in {F : FnD} (h : FnShape F) (j : Nat) : ∀ s ∈ succsN F j, 0 ≤ s ∧ s < F.blocks.length := by
  intro s hs
  unfold succsN at hs
  split at hs
  · rename_i x hx
    have ht := h.term hx
    unfold termOkV at ht
    unfold succsT succsV at hs
    by_cases h1 : x.term.k = 1
    · simp [h1, valIn] at ht hs
      subst hs
      exact ht.1.1
    · by_cases h2 : x.term.k = 2
      · simp [h2, valIn] at ht
        rw [if_neg h1, if_pos h2] at hs
        have hm : s = x.term.t ∨ s = x.term.e := by
          split at hs
          · simp at hs; exact .inl hs
          · simpa using hs
        rcases hm with rfl | rfl
        · exact ht.1.1
        · exact ht.1.2
      · simp [h1, h2] at hs
  · simp at hs
theorem succsV_small2 (k t e : Int) : (succsV k t e).length ≤ 2 := by
  unfold succsV
  split
  · simp
  · split
    · split <;> simp
    · simp
theorem succsN_small (F : FnD) (b : Nat) : (succsN F b).length ≤ 2 := by
  unfold succsN
  split
  · exact succsV_small2 _ _ _
  · simp
theorem succsOf_small (F : FnD) (b : Int) : (succsOf F b).length ≤ 100 := by
  unfold succsOf
  split
  · exact Nat.le_trans (succsN_small _ _) (by omega)
  · simp
theorem predsOf_small (F : FnD) (b : Int) : (predsOf F b).length ≤ 100 := by
  unfold predsOf
  split
  · rename_i h
    exact Nat.le_trans (predsUp_len _ _ _) (by have := h.1.2.1; omega)
  · simp

end Go.Proofs.Ytjfogpbhacadbaa

namespace Go.Proofs.Ytjfogpbhacadbaa
open Go.ChangeShapes Go.WideShapes Go.ChangeAt Go.RowKit Go.Shelf
set_option linter.unusedVariables false
attribute [local go_sem] Oper.semAt_some

theorem info_int : (Try.prog.info? 3).map (fun i => (i.zero, i.size, i.bytes)) = some (some (.int .i64 0), 1, 8) := by kernel_rfl

/-- The end of a block of a program, as it lies. -/
theorem FnAt.end {w : World} {ba : Option Addr} {n bcap : Nat} {vals : Int} {F : FnD} (h : FnAt w (.agg #[.slice ba n bcap, .int .i64 vals]) F) {j : Nat} (hj : j < n) :
    ∃ bb off x, ba = some ⟨bb, off, none⟩ ∧ F.blocks[j]? = some x ∧ w.cell? ⟨bb, off + j * 6 + 2, none⟩ = some (.int .i64 x.term.k) ∧ w.cell? ⟨bb, off + j * 6 + 3, none⟩ = some (.int .i64 x.term.a) ∧ w.cell? ⟨bb, off + j * 6 + 4, none⟩ = some (.int .i64 x.term.t) ∧ w.cell? ⟨bb, off + j * 6 + 5, none⟩ = some (.int .i64 x.term.e) := by
  obtain ⟨bv, hv, a, cap, rfl, hm, hc⟩ := h
  simp at hv
  obtain ⟨⟨rfl, rfl, rfl⟩, _⟩ := hv
  obtain ⟨bb, off, rfl, _, hd⟩ := hc (by omega)
  have hx : F.blocks[j]? = some F.blocks[j] := List.getElem?_eq_getElem hj
  obtain ⟨pv, lv, _, _, h1, h2, h3, h4, _⟩ := hd j _ hx
  exact ⟨bb, off, _, rfl, hx, h1, h2, h3, h4⟩

end Go.Proofs.Ytjfogpbhacadbaa

namespace Go.Proofs.Ytjfogpbhacadbaa
open Go.ChangeShapes Go.WideShapes Go.ChangeAt Go.RowKit Go.Shelf
set_option linter.unusedVariables false

theorem ownInts_one {w : World} {x : Int} {g lo : Nat} (hg : w.heap.size = g) (hl : lo ≤ g) : OwnInts (w.alloc (.cells #[.int .i64 x] 3)) lo (.slice (some ⟨g, 0, none⟩) 1 1) [x] := by
  subst hg
  exact ⟨rfl, .inr ⟨w.heap.size, 1, #[.int .i64 x], rfl, hl, World.alloc_heap_new w _, Nat.le_refl _, by decide, rfl, rfl⟩⟩
theorem ownInts_two {w : World} {x y : Int} {g lo : Nat} (hg : w.heap.size = g) (hl : lo ≤ g) : OwnInts (w.alloc (.cells #[.int .i64 x, .int .i64 y] 3)) lo (.slice (some ⟨g, 0, none⟩) 2 2) [x, y] := by
  subst hg
  exact ⟨rfl, .inr ⟨w.heap.size, 2, #[.int .i64 x, .int .i64 y], rfl, hl, World.alloc_heap_new w _, Nat.le_refl _, by decide, rfl, rfl⟩⟩
theorem ownInts_nil {w : World} {g lo : Nat} (hg : w.heap.size = g) (hl : lo ≤ g) : OwnInts (w.alloc (.cells #[] 3)) lo (.slice (some ⟨g, 0, none⟩) 0 0) [] := by
  subst hg
  exact (ownInts_new w).low hl

/-- A program is written out. -/
theorem FnAt.out {w : World} {v : Value} {F : FnD} (h : FnAt w v F) {n : Nat} {vals : Int} (hn : F.blocks.length = n) (hv : F.values = vals) : ∃ ba bcap, v = .agg #[.slice ba n bcap, .int .i64 vals] := by
  obtain ⟨bv, rfl, a, cap, rfl, _⟩ := h
  exact ⟨a, cap, by rw [hn, hv]⟩

set_option maxHeartbeats 1000000 in
theorem l3Succs_any (v : Value) (F : FnD) (bn : Nat) (w : World) (hF : FnAt w v F) (hb : bn < F.blocks.length) :
    Calls Try.prog 78 #[v, .int .i64 (bn : Int)] w fun e w' => GivesOwn w (succsN F bn) e w' := by
  obtain ⟨n, HN⟩ : ∃ n, Hid (F.blocks.length = n) := ⟨_, rfl⟩
  obtain ⟨vals, HV⟩ : ∃ x, Hid (F.values = x) := ⟨_, rfl⟩
  obtain ⟨ba, bcap, rfl⟩ := hF.out HN.out HV.out
  rw [HN.out] at hb
  obtain ⟨bb, off, x, rfl, hx, t0, t1, t2, t3⟩ := hF.end hb
  have hbb : bb < w.heap.size := World.block_lt_of_cell? w _ t0
  rw [succsN_at hx]
  obtain ⟨xp, xl, xk, xa, xt, xe⟩ := x
  dsimp only at t0 t1 t2 t3
  show Calls _ _ _ _ fun e w' => GivesOwn w (succsV xk xt xe) e w'
  clear hx hF
  have hbi : (bn : Int) < (n : Int) := by omega
  by_cases h1 : xk = 1
  · subst h1
    rw [succsV_jump]
    go_enter Try.func78, Try.ntmps78
    go_wp2
    go_ret
    exact ⟨_, rfl, ownInts_one (by simp) (by omega), by repeat (first | exact Below.refl _ _ | apply Below.drew | refine Below.alloc ?_ (by simp <;> omega) _ | refine Below.setCell ?_ (by simp <;> omega) _)⟩
  · have g1 : (xk == 1) = false := by simp [h1]
    by_cases h2 : xk = 2
    · subst h2
      by_cases het : xe = xt
      · subst het
        rw [succsV_one rfl]
        go_enter Try.func78, Try.ntmps78
        go_wp2
        go_ret
        exact ⟨_, rfl, ownInts_one (by simp) (by omega), by repeat (first | exact Below.refl _ _ | apply Below.drew | refine Below.alloc ?_ (by simp <;> omega) _ | refine Below.setCell ?_ (by simp <;> omega) _)⟩
      · rw [succsV_two het]
        have g3 : (xt == xe) = false := by simp; exact fun h => het h.symm
        go_enter Try.func78, Try.ntmps78
        go_wp2
        go_ret
        exact ⟨_, rfl, ownInts_two (by simp) (by omega), by repeat (first | exact Below.refl _ _ | apply Below.drew | refine Below.alloc ?_ (by simp <;> omega) _ | refine Below.setCell ?_ (by simp <;> omega) _)⟩
    · have g2 : (xk == 2) = false := by simp [h2]
      rw [succsV_none h1 h2]
      go_enter Try.func78, Try.ntmps78
      go_wp2
      go_ret
      exact ⟨_, rfl, ownInts_nil (by simp) (by omega), by repeat (first | exact Below.refl _ _ | apply Below.drew | refine Below.alloc ?_ (by simp <;> omega) _ | refine Below.setCell ?_ (by simp <;> omega) _)⟩

/-- There is such a block of what is right. -/
def RightAt (F : FnD) (b : Int) : Prop := FnShape F ∧ 0 ≤ b ∧ b < F.blocks.length

end Go.Proofs.Ytjfogpbhacadbaa
