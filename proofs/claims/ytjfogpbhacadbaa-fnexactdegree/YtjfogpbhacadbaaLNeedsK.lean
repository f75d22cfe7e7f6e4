/- The program's needs in memory: a set for the beginning and one for the end of each block. -/
import Derived.Test.YtjfogpbhacadbaaLBackwK
import Derived.Test.YtjfogpbhacadbaaLiveMathK
namespace Go.Proofs.Ytjfogpbhacadbaa
open Go.ChangeShapes Go.WideShapes Go.ChangeAt Go.RowKit Go.Shelf
set_option linter.unusedVariables false

def nilV : Value := .slice none 0 0
/-- The header of a set: of the beginning (true) or the end of block i. -/
def hdr (us vs : Array Value) (k : Bool) (i : Nat) : Value := if k then us.getD i nilV else vs.getD i nilV
structure NeedsAt (w : World) (lo gI gO n : Nat) (us vs : Array Value) (ins outs : Nat → List Int) : Prop where
  boxI : w.heap[gI]? = some (.cells us 74 (0, 0))
  boxO : w.heap[gO]? = some (.cells vs 74 (0, 0))
  sizeI : us.size = n
  sizeO : vs.size = n
  lowI : lo ≤ gI
  lowO : lo ≤ gO
  ne : gI ≠ gO
  rowI : ∀ i, i < n → OwnInts w lo (us.getD i nilV) (ins i)
  rowO : ∀ i, i < n → OwnInts w lo (vs.getD i nilV) (outs i)
  apart : ∀ (k k' : Bool) (i i' : Nat), i < n → i' < n → (k, i) ≠ (k', i') → ∀ b, (hdr us vs k i).ownBlock = some b → (hdr us vs k' i').ownBlock ≠ some b
theorem NeedsAt.row {w : World} {lo gI gO n : Nat} {us vs : Array Value} {ins outs : Nat → List Int} (h : NeedsAt w lo gI gO n us vs ins outs) (k : Bool) {i : Nat} (hi : i < n) : OwnInts w lo (hdr us vs k i) (if k then ins i else outs i) := by
  cases k
  · exact h.rowO i hi
  · exact h.rowI i hi
theorem NeedsAt.ltI {w : World} {lo gI gO n : Nat} {us vs : Array Value} {ins outs : Nat → List Int} (h : NeedsAt w lo gI gO n us vs ins outs) : gI < w.heap.size := (Array.getElem?_eq_some_iff.1 h.boxI).1
theorem NeedsAt.ltO {w : World} {lo gI gO n : Nat} {us vs : Array Value} {ins outs : Nat → List Int} (h : NeedsAt w lo gI gO n us vs ins outs) : gO < w.heap.size := (Array.getElem?_eq_some_iff.1 h.boxO).1
theorem NeedsAt.notI {w : World} {lo gI gO n : Nat} {us vs : Array Value} {ins outs : Nat → List Int} (h : NeedsAt w lo gI gO n us vs ins outs) (k : Bool) {i : Nat} (hi : i < n) : some gI ≠ (hdr us vs k i).ownBlock := not_own (h.row k hi) h.boxI (by decide)
theorem NeedsAt.notO {w : World} {lo gI gO n : Nat} {us vs : Array Value} {ins outs : Nat → List Int} (h : NeedsAt w lo gI gO n us vs ins outs) (k : Bool) {i : Nat} (hi : i < n) : some gO ≠ (hdr us vs k i).ownBlock := not_own (h.row k hi) h.boxO (by decide)
theorem NeedsAt.lt {w : World} {lo gI gO n : Nat} {us vs : Array Value} {ins outs : Nat → List Int} (h : NeedsAt w lo gI gO n us vs ins outs) (k : Bool) {i : Nat} (hi : i < n) {b : Nat} (hb : (hdr us vs k i).ownBlock = some b) : lo ≤ b ∧ b < w.heap.size := (h.row k hi).lt b hb
theorem OwnInts.sameB {w w' : World} {lo : Nat} {v : Value} {l : List Int} (h : OwnInts w lo v l) (hs : ∀ b, v.ownBlock = some b → w'.heap[b]? = w.heap[b]?) : OwnInts w' lo v l := by
  rcases h with ⟨h0, h1 | ⟨g', cap, cur, rfl, h2, h3, h4⟩⟩
  · exact ⟨h0, .inl h1⟩
  · exact ⟨h0, .inr ⟨g', cap, cur, rfl, h2, (hs g' rfl).trans h3, h4⟩⟩
theorem NeedsAt.same {w w' : World} {lo gI gO n : Nat} {us vs : Array Value} {ins outs : Nat → List Int} (h : NeedsAt w lo gI gO n us vs ins outs) (hI : w'.heap[gI]? = w.heap[gI]?) (hO : w'.heap[gO]? = w.heap[gO]?) (hs : ∀ k i b, i < n → (hdr us vs k i).ownBlock = some b → w'.heap[b]? = w.heap[b]?) : NeedsAt w' lo gI gO n us vs ins outs :=
  ⟨hI.trans h.boxI, hO.trans h.boxO, h.sizeI, h.sizeO, h.lowI, h.lowO, h.ne, fun i hi => (h.rowI i hi).sameB (fun b hb => hs true i b hi hb), fun i hi => (h.rowO i hi).sameB (fun b hb => hs false i b hi hb), h.apart⟩
theorem NeedsAt.keep {w w' : World} {lo gI gO n : Nat} {us vs : Array Value} {ins outs : Nat → List Int} (h : NeedsAt w lo gI gO n us vs ins outs) (hb : Below w.heap.size w w') : NeedsAt w' lo gI gO n us vs ins outs :=
  h.same (hb.block _ h.ltI) (hb.block _ h.ltO) (fun k i b hi e => hb.block b (h.lt k hi e).2)
theorem NeedsAt.grownN {w w' : World} {lo gI gO n : Nat} {us vs : Array Value} {ins outs : Nat → List Int} {row : Option Nat} (h : NeedsAt w lo gI gO n us vs ins outs) (hg : w.grownBy w' row) (hr : ∀ r, row = some r → ∃ o : Obj, w.heap[r]? = some o ∧ o.isCells = false) : NeedsAt w' lo gI gO n us vs ins outs := by
  refine h.same ((box_grownN h.boxI hg hr).trans h.boxI.symm) ((box_grownN h.boxO hg hr).trans h.boxO.symm) (fun k i b hi e => ?_)
  obtain ⟨c, hc⟩ := (h.row k hi).block e
  exact (box_grownN hc hg hr).trans hc.symm
theorem getD_put2 {us : Array Value} {b i : Nat} {v : Value} (hb : b < us.size) : (us.setIfInBounds b v).getD i nilV = if i = b then v else us.getD i nilV := by
  by_cases e : i = b
  · subst e
    simp [Array.getD, hb]
  · have e2 : ¬ b = i := fun h => e h.symm
    by_cases hi : i < us.size
    · simp [Array.getD, hi, e, e2]
    · simp [Array.getD, hi, e]
theorem hdr_putO {us vs : Array Value} {b : Nat} {v : Value} (hb : b < vs.size) (k : Bool) (i : Nat) : hdr us (vs.setIfInBounds b v) k i = if k = false ∧ i = b then v else hdr us vs k i := by
  cases k
  · simp [hdr, getD_put2 hb]
  · simp [hdr]
theorem hdr_putI {us vs : Array Value} {b : Nat} {v : Value} (hb : b < us.size) (k : Bool) (i : Nat) : hdr (us.setIfInBounds b v) vs k i = if k = true ∧ i = b then v else hdr us vs k i := by
  cases k
  · simp [hdr]
  · simp [hdr, getD_put2 hb]
/-- A set of an end has turned. -/
theorem NeedsAt.putO {w w' : World} {lo gI gO n : Nat} {us vs : Array Value} {ins outs : Nat → List Int} (h : NeedsAt w lo gI gO n us vs ins outs) {b : Nat} (hb : b < n) {sv' : Value} {l' : List Int} (ht : SetTurn w w' gO b (vs.getD b nilV).ownBlock sv') (hr : OwnInts w' lo sv' l') (ho : sv'.ownBlock = (vs.getD b nilV).ownBlock ∨ ∀ k, sv'.ownBlock = some k → w.heap.size ≤ k) :
    NeedsAt w' lo gI gO n us (vs.setIfInBounds b sv') ins (updL outs b l') := by
  have hbs : b < vs.size := by rw [h.sizeO]; exact hb
  have hap : ∀ (k : Bool) (i : Nat), i < n → ¬ (k = false ∧ i = b) → ∀ c, (hdr us vs k i).ownBlock = some c → sv'.ownBlock ≠ some c ∧ w'.heap[c]? = w.heap[c]? := fun k i hi hne c hc => by
    have h1 : (hdr us vs false b).ownBlock ≠ some c := h.apart k false i b hi hb (fun e => hne (by cases e; exact ⟨rfl, rfl⟩)) c hc
    have hlt := (h.lt k hi hc).2
    refine ⟨fun e => ?_, ht.block c hlt (fun e => h.notO k hi (by rw [hc, e])) (fun e => h1 e.symm)⟩
    rcases ho with e2 | e2
    · exact h1 (e2.symm.trans e)
    · have := e2 c e; omega
  refine ⟨(ht.block gI h.ltI h.ne (fun e => h.notI false hb e)).trans h.boxI, ht.box _ _ _ h.boxO, h.sizeI, by simp [h.sizeO], h.lowI, h.lowO, h.ne, fun i hi => ?_, fun i hi => ?_, fun k k' i i' hi hi' hne c hc => ?_⟩
  · exact (h.rowI i hi).sameB (fun c hc => (hap true i hi (fun e => by cases e.1) c hc).2)
  · rw [getD_put2 hbs]
    unfold updL
    by_cases e : i = b
    · rw [if_pos e, if_pos e]; exact hr
    · rw [if_neg e, if_neg e]; exact (h.rowO i hi).sameB (fun c hc => (hap false i hi (fun e2 => e e2.2) c hc).2)
  · rw [hdr_putO hbs] at hc ⊢
    by_cases e1 : k = false ∧ i = b
    · rw [if_pos e1] at hc
      have e2 : ¬ (k' = false ∧ i' = b) := fun e2 => hne (by rw [e1.1, e1.2, e2.1, e2.2])
      rw [if_neg e2]
      intro e3
      exact (hap k' i' hi' e2 c e3).1 hc
    · rw [if_neg e1] at hc
      by_cases e2 : k' = false ∧ i' = b
      · rw [if_pos e2]
        exact (hap k i hi e1 c hc).1
      · rw [if_neg e2]
        exact h.apart k k' i i' hi hi' hne c hc
/-- The set of a beginning is put anew. -/
theorem NeedsAt.putI {w w' : World} {lo gI gO n : Nat} {us vs : Array Value} {ins outs : Nat → List Int} (h : NeedsAt w lo gI gO n us vs ins outs) {b : Nat} (hb : b < n) {sv' : Value} {l' : List Int} (hk : ∀ k, k < w.heap.size → k ≠ gI → w'.heap[k]? = w.heap[k]?) (hx : w'.heap[gI]? = some (.cells (us.setIfInBounds b sv') 74 (0, 0))) (hr : OwnInts w' lo sv' l') (ho : ∀ k, sv'.ownBlock = some k → w.heap.size ≤ k) :
    NeedsAt w' lo gI gO n (us.setIfInBounds b sv') vs (updL ins b l') outs := by
  have hbs : b < us.size := by rw [h.sizeI]; exact hb
  have hap : ∀ (k : Bool) (i : Nat), i < n → ∀ c, (hdr us vs k i).ownBlock = some c → sv'.ownBlock ≠ some c ∧ w'.heap[c]? = w.heap[c]? := fun k i hi c hc => by
    have hlt := (h.lt k hi hc).2
    exact ⟨fun e => by have := ho c e; omega, hk c hlt (fun e => h.notI k hi (by rw [hc, e]))⟩
  refine ⟨hx, (hk gO h.ltO (fun e => h.ne e.symm)).trans h.boxO, by simp [h.sizeI], h.sizeO, h.lowI, h.lowO, h.ne, fun i hi => ?_, fun i hi => ?_, fun k k' i i' hi hi' hne c hc => ?_⟩
  · rw [getD_put2 hbs]
    unfold updL
    by_cases e : i = b
    · rw [if_pos e, if_pos e]; exact hr
    · rw [if_neg e, if_neg e]; exact (h.rowI i hi).sameB (fun c hc => (hap true i hi c hc).2)
  · exact (h.rowO i hi).sameB (fun c hc => (hap false i hi c hc).2)
  · rw [hdr_putI hbs] at hc ⊢
    by_cases e1 : k = true ∧ i = b
    · rw [if_pos e1] at hc
      have e2 : ¬ (k' = true ∧ i' = b) := fun e2 => hne (by rw [e1.1, e1.2, e2.1, e2.2])
      rw [if_neg e2]
      intro e3
      exact (hap k' i' hi' c e3).1 hc
    · rw [if_neg e1] at hc
      by_cases e2 : k' = true ∧ i' = b
      · rw [if_pos e2]
        exact (hap k i hi c hc).1
      · rw [if_neg e2]
        exact h.apart k k' i i' hi hi' hne c hc
theorem NeedsAt.setO {w : World} {lo gI gO n : Nat} {us vs : Array Value} {ins outs : Nat → List Int} (h : NeedsAt w lo gI gO n us vs ins outs) {b : Nat} (hb : b < n) : SetIn w lo gO b (vs.getD b nilV) (outs b) := by
  have hbs : b < vs.size := by rw [h.sizeO]; exact hb
  refine ⟨by simp [World.cell?, h.boxO, Array.getD, hbs], by simp [World.frozen?, h.boxO], h.rowO b hb, fun e => h.notO false hb e.symm⟩
theorem NeedsAt.cellI {w : World} {lo gI gO n : Nat} {us vs : Array Value} {ins outs : Nat → List Int} (h : NeedsAt w lo gI gO n us vs ins outs) {b : Nat} (hb : b < n) : w.cell? ⟨gI, b, none⟩ = some (us.getD b nilV) ∧ w.frozen? ⟨gI, b, none⟩ = false := by
  have hbs : b < us.size := by rw [h.sizeI]; exact hb
  exact ⟨by simp [World.cell?, h.boxI, Array.getD, hbs], by simp [World.frozen?, h.boxI]⟩
end Go.Proofs.Ytjfogpbhacadbaa
