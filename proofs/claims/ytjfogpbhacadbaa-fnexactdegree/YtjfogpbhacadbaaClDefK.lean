/- Who is in whose way, as mathematics. -/
import Derived.Test.YtjfogpbhacadbaaLPlainK
import Derived.Test.YtjfogpbhacadbaaClHitK
namespace Go.Proofs.Ytjfogpbhacadbaa
open Go.ChangeShapes Go.WideShapes Go.ChangeAt Go.RowKit Go.Shelf
set_option linter.unusedVariables false

/-- Both ways round. -/
def Way (F : FnD) (P : Nat → Nat → Prop) (a b : Int) : Prop := ∃ k j x y, P k j ∧ F.blocks[k]? = some x ∧ x.list[j]? = some y ∧ Meets y (atS x (outF F (liveL F) k) (j + 1)) a b
theorem Way.symm {F : FnD} {P : Nat → Nat → Prop} {a b : Int} (h : Way F P a b) : Way F P b a := by
  obtain ⟨k, j, x, y, h1, h2, h3, h4⟩ := h
  exact ⟨k, j, x, y, h1, h2, h3, h4.symm⟩
theorem Way.ne {F : FnD} {P : Nat → Nat → Prop} {a b : Int} (h : Way F P a b) : a ≠ b := by
  obtain ⟨k, j, x, y, h1, h2, h3, h4⟩ := h
  exact h4.ne
theorem Way.congr {F : FnD} {P Q : Nat → Nat → Prop} (h : ∀ k j, (∃ x y, F.blocks[k]? = some x ∧ x.list[j]? = some y) → (P k j ↔ Q k j)) (a b : Int) : Way F P a b ↔ Way F Q a b := by
  constructor
  · rintro ⟨k, j, x, y, h1, h2, h3, h4⟩
    exact ⟨k, j, x, y, (h k j ⟨x, y, h2, h3⟩).1 h1, h2, h3, h4⟩
  · rintro ⟨k, j, x, y, h1, h2, h3, h4⟩
    exact ⟨k, j, x, y, (h k j ⟨x, y, h2, h3⟩).2 h1, h2, h3, h4⟩
theorem PlainV.defs {F : FnD} {n V : Nat} (h : PlainV F n V) {k j : Nat} {x : BlockD} {y : InsD} (hx : F.blocks[k]? = some x) (hy : x.list[j]? = some y) : insDefV y.op y.d = -1 ∨ (0 ≤ insDefV y.op y.d ∧ insDefV y.op y.d < V) := (h.uses k x hx y (List.mem_of_getElem? hy)).2
theorem meets_in {F : FnD} {n V : Nat} (hp : PlainV F n V) {k j : Nat} {x : BlockD} {y : InsD} (h2 : F.blocks[k]? = some x) (h3 : x.list[j]? = some y) {a b : Int} (h4 : Meets y (atS x (outF F (liveL F) k) (j + 1)) a b) : (0 ≤ a ∧ a < V) ∧ (0 ≤ b ∧ b < V) := by
  have hd := hp.defs h2 h3
  have hv : ∀ z ∈ atS x (outF F (liveL F) k) (j + 1), 0 ≤ z ∧ z < V := fun z hz => ⟨((atS_ok _ _ _).2 z hz).1, hp.atV h2 (outV (F := F) (liveV hp) k) (j + 1) z hz⟩
  rcases h4 with h | h
  · have := hv _ h.2.2.1
    have h1 := h.1
    have h0 := h.2.1
    refine ⟨?_, this⟩
    omega
  · have := hv _ h.2.2.1
    have h1 := h.1
    have h0 := h.2.1
    refine ⟨this, ?_⟩
    omega
theorem Way.in {F : FnD} {n V : Nat} (hp : PlainV F n V) {P : Nat → Nat → Prop} {a b : Int} (h : Way F P a b) : (0 ≤ a ∧ a < V) ∧ (0 ≤ b ∧ b < V) := by
  obtain ⟨k, j, x, y, h1, h2, h3, h4⟩ := h
  exact meets_in hp h2 h3 h4
/-- The places of the blocks up to k, and of block k up to i; or from i on. -/
def UpTo (k i : Nat) (b j : Nat) : Prop := b < k ∨ (b = k ∧ j < i)
def DownTo (k i : Nat) (b j : Nat) : Prop := b < k ∨ (b = k ∧ i ≤ j)
theorem way_add {F : FnD} {P Q : Nat → Nat → Prop} {k i : Nat} {x : BlockD} {y : InsD} (hx : F.blocks[k]? = some x) (hy : x.list[i]? = some y) (h : ∀ b j, Q b j ↔ P b j ∨ (b = k ∧ j = i)) (a c : Int) : Way F Q a c ↔ Way F P a c ∨ Meets y (atS x (outF F (liveL F) k) (i + 1)) a c := by
  constructor
  · rintro ⟨b, j, x', y', h1, h2, h3, h4⟩
    rcases (h b j).1 h1 with h1 | ⟨rfl, rfl⟩
    · exact .inl ⟨b, j, x', y', h1, h2, h3, h4⟩
    · rw [hx] at h2
      cases h2
      rw [hy] at h3
      cases h3
      exact .inr h4
  · rintro (⟨b, j, x', y', h1, h2, h3, h4⟩ | h4)
    · exact ⟨b, j, x', y', (h b j).2 (.inl h1), h2, h3, h4⟩
    · exact ⟨k, i, x, y, (h k i).2 (.inr ⟨rfl, rfl⟩), hx, hy, h4⟩
theorem way_up {F : FnD} {k i : Nat} {x : BlockD} {y : InsD} (hx : F.blocks[k]? = some x) (hy : x.list[i]? = some y) (a c : Int) : Way F (UpTo k (i + 1)) a c ↔ Way F (UpTo k i) a c ∨ Meets y (atS x (outF F (liveL F) k) (i + 1)) a c :=
  way_add hx hy (fun b j => by unfold UpTo; omega) a c
theorem way_down {F : FnD} {k i : Nat} {x : BlockD} {y : InsD} (hx : F.blocks[k]? = some x) (hy : x.list[i]? = some y) (a c : Int) : Way F (DownTo k i) a c ↔ Way F (DownTo k (i + 1)) a c ∨ Meets y (atS x (outF F (liveL F) k) (i + 1)) a c :=
  way_add hx hy (fun b j => by unfold DownTo; omega) a c
theorem place_lt {F : FnD} {k j : Nat} {x0 : BlockD} (hx : F.blocks[k]? = some x0) : (∃ x y, F.blocks[k]? = some x ∧ x.list[j]? = some y) → j < x0.list.length := fun ⟨x, y, h1, h2⟩ => by
  rw [hx] at h1
  cases h1
  exact (List.getElem?_eq_some_iff.1 h2).1
theorem way_block {F : FnD} {k : Nat} {x : BlockD} (hx : F.blocks[k]? = some x) (a c : Int) : Way F (UpTo k x.list.length) a c ↔ Way F (UpTo (k + 1) 0) a c :=
  Way.congr (fun b j hj => by
    unfold UpTo
    by_cases e : b = k
    · subst e
      have := place_lt hx hj
      omega
    · omega) a c
theorem way_top {F : FnD} {k : Nat} {x : BlockD} (hx : F.blocks[k]? = some x) (a c : Int) : Way F (DownTo k x.list.length) a c ↔ Way F (UpTo k 0) a c :=
  Way.congr (fun b j hj => by
    unfold UpTo DownTo
    by_cases e : b = k
    · subst e
      have := place_lt hx hj
      omega
    · omega) a c
theorem way_bottom {F : FnD} {k : Nat} (a c : Int) : Way F (DownTo k 0) a c ↔ Way F (UpTo (k + 1) 0) a c :=
  Way.congr (fun b j hj => by unfold UpTo DownTo; omega) a c
theorem way_none {F : FnD} (a c : Int) : ¬ Way F (UpTo 0 0) a c := fun ⟨k, j, x, y, h1, _⟩ => by
  unfold UpTo at h1
  omega
/-- Who is in whose way. -/
def Clsh (F : FnD) (a c : Int) : Prop := Way F (fun _ _ => True) a c
theorem way_all {F : FnD} {n : Nat} (hn : F.blocks.length = n) (a c : Int) : Way F (UpTo n 0) a c ↔ Clsh F a c :=
  Way.congr (fun b j hj => by
    obtain ⟨x, y, h1, _⟩ := hj
    have := (List.getElem?_eq_some_iff.1 h1).1
    unfold UpTo
    simp
    omega) a c
/-- The row of a: all below 80 that it clashes with. -/
noncomputable def setL (S : Int → Int → Prop) (a : Nat) : List Int := open Classical in ((List.range 80).map (fun (j : Nat) => (j : Int))).filter (fun v => decide (S a v))
theorem setL_mem {S : Int → Int → Prop} {a : Nat} {v : Int} : v ∈ setL S a ↔ S a v ∧ 0 ≤ v ∧ v < 80 := by
  unfold setL
  rw [List.mem_filter]
  simp only [List.mem_map, List.mem_range, decide_eq_true_eq]
  constructor
  · rintro ⟨⟨j, hj, rfl⟩, h⟩
    exact ⟨h, by omega, by omega⟩
  · rintro ⟨h, h0, h1⟩
    exact ⟨⟨v.toNat, by omega, by omega⟩, h⟩
theorem setL_congr {S T : Int → Int → Prop} (h : ∀ a c, S a c ↔ T a c) : setL S = setL T := by
  have : S = T := by
    funext a c
    exact propext (h a c)
  rw [this]
/-- How many are true. -/
def degN (l : List Int) (k : Nat) : Nat := ((List.range k).filter (fun (j : Nat) => decide ((j : Int) ∈ l))).length
theorem degN_next (l : List Int) (k : Nat) : degN l (k + 1) = degN l k + (if (k : Int) ∈ l then 1 else 0) := by
  unfold degN
  rw [List.range_succ, List.filter_append]
  by_cases h : (k : Int) ∈ l <;> simp [h]
theorem degN_le (l : List Int) (k : Nat) : degN l k ≤ k := by
  unfold degN
  exact Nat.le_trans (List.length_filter_le _ _) (by simp)
open Classical in
noncomputable def clashesOf (F : FnD) : List (List Bool) := if FnPlain F then (List.range F.values.toNat).map (fun a => bitsOf F.values.toNat (setL (Clsh F) a)) else []
open Classical in
noncomputable def clashOf (F : FnD) (a b : Int) : Bool := decide (FnPlain F ∧ Clsh F a b)
open Classical in
noncomputable def degreeOf (F : FnD) (v : Int) : Int := if FnPlain F ∧ 0 ≤ v ∧ v < F.values then (degN (setL (Clsh F) v.toNat) F.values.toNat : Nat) else -1
theorem clashesOf_no {F : FnD} (h : ¬ FnPlain F) : clashesOf F = [] := by unfold clashesOf; rw [if_neg h]
theorem clashesOf_yes {F : FnD} {n V : Nat} (h : FnPlain F) (hp : PlainV F n V) : clashesOf F = (List.range V).map (fun a => bitsOf V (setL (Clsh F) a)) := by
  unfold clashesOf
  rw [if_pos h, show F.values.toNat = V by have := hp.vals; omega]
theorem clashes_len (F : FnD) : (clashesOf F).length ≤ 100 := by
  by_cases h : FnPlain F
  · obtain ⟨n, V, hp⟩ := plainV_of h
    rw [clashesOf_yes h hp]
    have := hp.v80
    simp
    omega
  · rw [clashesOf_no h]; simp
theorem clashOf_no {F : FnD} {a b : Int} (h : ¬ (FnPlain F ∧ Clsh F a b)) : clashOf F a b = false := by unfold clashOf; simp [h]
theorem clashOf_eq {F : FnD} (h : FnPlain F) (a b : Int) : (clashOf F a b = true ↔ Clsh F a b) := by unfold clashOf; simp [h]
theorem degreeOf_no {F : FnD} {v : Int} (h : ¬ (FnPlain F ∧ 0 ≤ v ∧ v < F.values)) : degreeOf F v = -1 := by unfold degreeOf; rw [if_neg h]
theorem degreeOf_yes {F : FnD} {n V v : Nat} (h : FnPlain F) (hp : PlainV F n V) (hv : v < V) : degreeOf F v = (degN (setL (Clsh F) v) V : Nat) := by
  have e := hp.vals
  unfold degreeOf
  rw [if_pos ⟨h, by omega, by omega⟩, show F.values.toNat = V by omega, Int.toNat_natCast]
end Go.Proofs.Ytjfogpbhacadbaa
