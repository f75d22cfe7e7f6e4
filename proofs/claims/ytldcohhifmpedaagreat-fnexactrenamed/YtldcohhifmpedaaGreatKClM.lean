/- What is made at a place is in the way of what is needed behind it. Who is in whose way, as mathematics. A matrix of flags whose rows are written in place. -/
import Derived.Test.YtldcohhifmpedaaGreatLSetAK
import Derived.Test.YtldcohhifmpedaaGreatKIns
import Derived.Test.YtldcohhifmpedaaGreatKSeq
import Derived.Test.YtldcohhifmpedaaGreatLPlainK
namespace Go.Proofs.YtldcohhifmpedaaGreat
set_option linter.unusedVariables false

def HitBy (y : InsD) (l : List Int) (d v : Int) : Prop := insDefV y.op y.d = d ∧ 0 ≤ d ∧ v ∈ l ∧ v ≠ d ∧ ¬ (y.op = 25 ∧ v = y.a)
def Meets (y : InsD) (l : List Int) (a b : Int) : Prop := HitBy y l a b ∨ HitBy y l b a
theorem HitBy.ne {y : InsD} {l : List Int} {d v : Int} (h : HitBy y l d v) : d ≠ v := fun e => h.2.2.2.1 e.symm
theorem Meets.symm {y : InsD} {l : List Int} {a b : Int} (h : Meets y l a b) : Meets y l b a := Or.symm h
theorem Meets.ne {y : InsD} {l : List Int} {a b : Int} (h : Meets y l a b) : a ≠ b := h.elim HitBy.ne (fun k e => k.ne e.symm)
theorem Meets.mono {y : InsD} {l m : List Int} {a b : Int} (h : Meets y l a b) (hl : ∀ z ∈ l, z ∈ m) : Meets y m a b := h.imp (fun h => ⟨h.1, h.2.1, hl _ h.2.2.1, h.2.2.2⟩) (fun h => ⟨h.1, h.2.1, hl _ h.2.2.1, h.2.2.2⟩)
theorem Meets.none {y : InsD} {l : List Int} {a b : Int} (hd : insDefV y.op y.d < 0) : ¬ Meets y l a b := fun h => h.elim (fun h => by have := h.1; have := h.2.1; omega) (fun h => by have := h.1; have := h.2.1; omega)
theorem meets_lt {y : InsD} {l : List Int} {v : Int} (a c : Int) : Meets y (l.filter (fun z => decide (z < v + 1))) a c ↔ Meets y (l.filter (fun z => decide (z < v))) a c ∨ (HitBy y l a c ∧ c = v) ∨ (HitBy y l c a ∧ a = v) := by
  have key : ∀ a c : Int, HitBy y (l.filter (fun z => decide (z < v + 1))) a c ↔ HitBy y (l.filter (fun z => decide (z < v))) a c ∨ (HitBy y l a c ∧ c = v) := fun a c => by
    unfold HitBy
    simp only [List.mem_filter, decide_eq_true_eq]
    constructor
    · rintro ⟨h1, h2, ⟨h3, h3'⟩, h4⟩
      by_cases e : c = v
      · exact .inr ⟨⟨h1, h2, h3, h4⟩, e⟩
      · exact .inl ⟨h1, h2, ⟨h3, by omega⟩, h4⟩
    · rintro (⟨h1, h2, ⟨h3, h3'⟩, h4⟩ | ⟨⟨h1, h2, h3, h4⟩, e⟩)
      · exact ⟨h1, h2, ⟨h3, by omega⟩, h4⟩
      · exact ⟨h1, h2, ⟨h3, by omega⟩, h4⟩
  unfold Meets
  rw [key a c, key c a]
  constructor
  · rintro ((h | h) | (h | h))
    · exact .inl (.inl h)
    · exact .inr (.inl h)
    · exact .inl (.inr h)
    · exact .inr (.inr h)
  · rintro ((h | h) | (h | h))
    · exact .inl (.inl h)
    · exact .inr (.inl h)
    · exact .inl (.inr h)
    · exact .inr (.inr h)
theorem meets_skip {y : InsD} {l : List Int} {v : Int} (h : ¬ HitBy y l (insDefV y.op y.d) v) (a c : Int) : Meets y (l.filter (fun z => decide (z < v + 1))) a c ↔ Meets y (l.filter (fun z => decide (z < v))) a c := by
  rw [meets_lt]
  constructor
  · rintro (h1 | ⟨h1, rfl⟩ | ⟨h1, rfl⟩)
    · exact h1
    · exact absurd (by rw [h1.1]; exact h1) h
    · exact absurd (by rw [h1.1]; exact h1) h
  · exact .inl
theorem meets_hit {y : InsD} {l : List Int} {d v : Int} (h : HitBy y l d v) (a c : Int) : Meets y (l.filter (fun z => decide (z < v + 1))) a c ↔ Meets y (l.filter (fun z => decide (z < v))) a c ∨ (a = d ∧ c = v) ∨ (a = v ∧ c = d) := by
  rw [meets_lt]
  constructor
  · rintro (h1 | ⟨h1, h2⟩ | ⟨h1, h2⟩)
    · exact .inl h1
    · exact .inr (.inl ⟨h1.1.symm.trans h.1, h2⟩)
    · exact .inr (.inr ⟨h2, h1.1.symm.trans h.1⟩)
  · rintro (h1 | ⟨rfl, rfl⟩ | ⟨rfl, rfl⟩)
    · exact .inl h1
    · exact .inr (.inl ⟨h, rfl⟩)
    · exact .inr (.inr ⟨h, rfl⟩)
theorem meets_one {y : InsD} {d v : Int} (h : HitBy y [v] d v) (a c : Int) : Meets y [v] a c ↔ (a = d ∧ c = v) ∨ (a = v ∧ c = d) := by
  constructor
  · rintro (h1 | h1)
    · exact .inl ⟨h1.1.symm.trans h.1, by simpa using h1.2.2.1⟩
    · exact .inr ⟨by simpa using h1.2.2.1, h1.1.symm.trans h.1⟩
  · rintro (⟨rfl, rfl⟩ | ⟨rfl, rfl⟩)
    · exact .inl h
    · exact .inr h
theorem meets_not {y : InsD} {v : Int} (h : ¬ HitBy y [v] (insDefV y.op y.d) v) (a c : Int) : ¬ Meets y [v] a c := by
  rintro (h1 | h1)
  · have e : c = v := by simpa using h1.2.2.1
    subst e
    exact h (by rw [h1.1]; exact h1)
  · have e : a = v := by simpa using h1.2.2.1
    subst e
    exact h (by rw [h1.1]; exact h1)
theorem meets_take {y : InsD} {l : List Int} {k : Nat} {v : Int} (hk : l[k]? = some v) (a c : Int) : Meets y (l.take (k + 1)) a c ↔ Meets y (l.take k) a c ∨ Meets y [v] a c := by
  have e : l.take (k + 1) = l.take k ++ [v] := by rw [List.take_add_one, hk]; rfl
  rw [e]
  unfold Meets HitBy
  simp only [List.mem_append]
  constructor
  · rintro (⟨h1, h2, h3 | h3, h4⟩ | ⟨h1, h2, h3 | h3, h4⟩)
    · exact .inl (.inl ⟨h1, h2, h3, h4⟩)
    · exact .inr (.inl ⟨h1, h2, h3, h4⟩)
    · exact .inl (.inr ⟨h1, h2, h3, h4⟩)
    · exact .inr (.inr ⟨h1, h2, h3, h4⟩)
  · rintro ((⟨h1, h2, h3, h4⟩ | ⟨h1, h2, h3, h4⟩) | (⟨h1, h2, h3, h4⟩ | ⟨h1, h2, h3, h4⟩))
    · exact .inl ⟨h1, h2, .inl h3, h4⟩
    · exact .inr ⟨h1, h2, .inl h3, h4⟩
    · exact .inl ⟨h1, h2, .inr h3, h4⟩
    · exact .inr ⟨h1, h2, .inr h3, h4⟩
theorem meets_nil {y : InsD} (a c : Int) : ¬ Meets y [] a c := fun h => h.elim (fun h => by cases h.2.2.1) (fun h => by cases h.2.2.1)
end Go.Proofs.YtldcohhifmpedaaGreat

namespace Go.Proofs.YtldcohhifmpedaaGreat
open Go.ChangeShapes Go.WideShapes Go.ChangeAt Go.RowKit Go.Shelf
set_option linter.unusedVariables false

/-- Both ways round. -/
def Way (F : FnD) (P : Nat → Nat → Prop) (a b : Int) : Prop := ∃ k j x y, P k j ∧ F.blocks[k]? = some x ∧ x.list[j]? = some y ∧ Meets y (atS x (outF F (liveL F) k) (j + 1)) a b
theorem Way.symm {F : FnD} {P : Nat → Nat → Prop} {a b : Int} (h : Way F P a b) : Way F P b a := by
  obtain ⟨k, j, x, y, h1, h2, h3, h4⟩ := h
  exact ⟨k, j, x, y, h1, h2, h3, h4.symm⟩
theorem Way.ne {F : FnD} {P : Nat → Nat → Prop} {a b : Int} (h : Way F P a b) : a ≠ b := by
  obtain ⟨k, j, x, y, h1, h2, h3, h4⟩ := h
  exact h4.ne
theorem Way.congr {F : FnD} {P Q : Nat → Nat → Prop} (h : ∀ k j, (∃ x y, F.blocks[k]? = some x ∧ x.list[j]? = some y) → (P k j ↔ Q k j)) (a b : Int) : Way F P a b ↔ Way F Q a b := by
  constructor
  · rintro ⟨k, j, x, y, h1, h2, h3, h4⟩
    exact ⟨k, j, x, y, (h k j ⟨x, y, h2, h3⟩).1 h1, h2, h3, h4⟩
  · rintro ⟨k, j, x, y, h1, h2, h3, h4⟩
    exact ⟨k, j, x, y, (h k j ⟨x, y, h2, h3⟩).2 h1, h2, h3, h4⟩
theorem PlainV.defs {F : FnD} {n V : Nat} (h : PlainV F n V) {k j : Nat} {x : BlockD} {y : InsD} (hx : F.blocks[k]? = some x) (hy : x.list[j]? = some y) : insDefV y.op y.d = -1 ∨ (0 ≤ insDefV y.op y.d ∧ insDefV y.op y.d < V) := (h.uses k x hx y (List.mem_of_getElem? hy)).2
theorem meets_in {F : FnD} {n V : Nat} (hp : PlainV F n V) {k j : Nat} {x : BlockD} {y : InsD} (h2 : F.blocks[k]? = some x) (h3 : x.list[j]? = some y) {a b : Int} (h4 : Meets y (atS x (outF F (liveL F) k) (j + 1)) a b) : (0 ≤ a ∧ a < V) ∧ (0 ≤ b ∧ b < V) := by
  have hd := hp.defs h2 h3
  have hv : ∀ z ∈ atS x (outF F (liveL F) k) (j + 1), 0 ≤ z ∧ z < V := fun z hz => ⟨((atS_ok _ _ _).2 z hz).1, hp.atV h2 (outV (F := F) (liveV hp) k) (j + 1) z hz⟩
  rcases h4 with h | h
  · have := hv _ h.2.2.1
    have h1 := h.1
    have h0 := h.2.1
    refine ⟨?_, this⟩
    omega
  · have := hv _ h.2.2.1
    have h1 := h.1
    have h0 := h.2.1
    refine ⟨this, ?_⟩
    omega
theorem Way.in {F : FnD} {n V : Nat} (hp : PlainV F n V) {P : Nat → Nat → Prop} {a b : Int} (h : Way F P a b) : (0 ≤ a ∧ a < V) ∧ (0 ≤ b ∧ b < V) := by
  obtain ⟨k, j, x, y, h1, h2, h3, h4⟩ := h
  exact meets_in hp h2 h3 h4
/-- The places of the blocks up to k, and of block k up to i; or from i on. -/
def UpTo (k i : Nat) (b j : Nat) : Prop := b < k ∨ (b = k ∧ j < i)
def DownTo (k i : Nat) (b j : Nat) : Prop := b < k ∨ (b = k ∧ i ≤ j)
theorem way_add {F : FnD} {P Q : Nat → Nat → Prop} {k i : Nat} {x : BlockD} {y : InsD} (hx : F.blocks[k]? = some x) (hy : x.list[i]? = some y) (h : ∀ b j, Q b j ↔ P b j ∨ (b = k ∧ j = i)) (a c : Int) : Way F Q a c ↔ Way F P a c ∨ Meets y (atS x (outF F (liveL F) k) (i + 1)) a c := by
  constructor
  · rintro ⟨b, j, x', y', h1, h2, h3, h4⟩
    rcases (h b j).1 h1 with h1 | ⟨rfl, rfl⟩
    · exact .inl ⟨b, j, x', y', h1, h2, h3, h4⟩
    · rw [hx] at h2
      cases h2
      rw [hy] at h3
      cases h3
      exact .inr h4
  · rintro (⟨b, j, x', y', h1, h2, h3, h4⟩ | h4)
    · exact ⟨b, j, x', y', (h b j).2 (.inl h1), h2, h3, h4⟩
    · exact ⟨k, i, x, y, (h k i).2 (.inr ⟨rfl, rfl⟩), hx, hy, h4⟩
theorem way_up {F : FnD} {k i : Nat} {x : BlockD} {y : InsD} (hx : F.blocks[k]? = some x) (hy : x.list[i]? = some y) (a c : Int) : Way F (UpTo k (i + 1)) a c ↔ Way F (UpTo k i) a c ∨ Meets y (atS x (outF F (liveL F) k) (i + 1)) a c :=
  way_add hx hy (fun b j => by unfold UpTo; omega) a c
theorem way_down {F : FnD} {k i : Nat} {x : BlockD} {y : InsD} (hx : F.blocks[k]? = some x) (hy : x.list[i]? = some y) (a c : Int) : Way F (DownTo k i) a c ↔ Way F (DownTo k (i + 1)) a c ∨ Meets y (atS x (outF F (liveL F) k) (i + 1)) a c :=
  way_add hx hy (fun b j => by unfold DownTo; omega) a c
theorem place_lt {F : FnD} {k j : Nat} {x0 : BlockD} (hx : F.blocks[k]? = some x0) : (∃ x y, F.blocks[k]? = some x ∧ x.list[j]? = some y) → j < x0.list.length := fun ⟨x, y, h1, h2⟩ => by
  rw [hx] at h1
  cases h1
  exact (List.getElem?_eq_some_iff.1 h2).1
theorem way_block {F : FnD} {k : Nat} {x : BlockD} (hx : F.blocks[k]? = some x) (a c : Int) : Way F (UpTo k x.list.length) a c ↔ Way F (UpTo (k + 1) 0) a c :=
  Way.congr (fun b j hj => by
    unfold UpTo
    by_cases e : b = k
    · subst e
      have := place_lt hx hj
      omega
    · omega) a c
theorem way_top {F : FnD} {k : Nat} {x : BlockD} (hx : F.blocks[k]? = some x) (a c : Int) : Way F (DownTo k x.list.length) a c ↔ Way F (UpTo k 0) a c :=
  Way.congr (fun b j hj => by
    unfold UpTo DownTo
    by_cases e : b = k
    · subst e
      have := place_lt hx hj
      omega
    · omega) a c
theorem way_bottom {F : FnD} {k : Nat} (a c : Int) : Way F (DownTo k 0) a c ↔ Way F (UpTo (k + 1) 0) a c :=
  Way.congr (fun b j hj => by unfold UpTo DownTo; omega) a c
theorem way_none {F : FnD} (a c : Int) : ¬ Way F (UpTo 0 0) a c := fun ⟨k, j, x, y, h1, _⟩ => by
  unfold UpTo at h1
  omega
/-- Who is in whose way. -/
def Clsh (F : FnD) (a c : Int) : Prop := Way F (fun _ _ => True) a c
theorem way_all {F : FnD} {n : Nat} (hn : F.blocks.length = n) (a c : Int) : Way F (UpTo n 0) a c ↔ Clsh F a c :=
  Way.congr (fun b j hj => by
    obtain ⟨x, y, h1, _⟩ := hj
    have := (List.getElem?_eq_some_iff.1 h1).1
    unfold UpTo
    simp
    omega) a c
/-- The row of a: all below 80 that it clashes with. -/
noncomputable def setL (S : Int → Int → Prop) (a : Nat) : List Int := open Classical in ((List.range 80).map (fun (j : Nat) => (j : Int))).filter (fun v => decide (S a v))
theorem setL_mem {S : Int → Int → Prop} {a : Nat} {v : Int} : v ∈ setL S a ↔ S a v ∧ 0 ≤ v ∧ v < 80 := by
  unfold setL
  rw [List.mem_filter]
  simp only [List.mem_map, List.mem_range, decide_eq_true_eq]
  constructor
  · rintro ⟨⟨j, hj, rfl⟩, h⟩
    exact ⟨h, by omega, by omega⟩
  · rintro ⟨h, h0, h1⟩
    exact ⟨⟨v.toNat, by omega, by omega⟩, h⟩
theorem setL_congr {S T : Int → Int → Prop} (h : ∀ a c, S a c ↔ T a c) : setL S = setL T := by
  have : S = T := by
    funext a c
    exact propext (h a c)
  rw [this]
/-- How many are true. -/
def degN (l : List Int) (k : Nat) : Nat := ((List.range k).filter (fun (j : Nat) => decide ((j : Int) ∈ l))).length
theorem degN_next (l : List Int) (k : Nat) : degN l (k + 1) = degN l k + (if (k : Int) ∈ l then 1 else 0) := by
  unfold degN
  rw [List.range_succ, List.filter_append]
  by_cases h : (k : Int) ∈ l <;> simp [h]
theorem degN_le (l : List Int) (k : Nat) : degN l k ≤ k := by
  unfold degN
  exact Nat.le_trans (List.length_filter_le _ _) (by simp)
open Classical in
noncomputable def clashesOf (F : FnD) : List (List Bool) := if FnPlain F then (List.range F.values.toNat).map (fun a => bitsOf F.values.toNat (setL (Clsh F) a)) else []
open Classical in
noncomputable def clashOf (F : FnD) (a b : Int) : Bool := decide (FnPlain F ∧ Clsh F a b)
open Classical in
noncomputable def degreeOf (F : FnD) (v : Int) : Int := if FnPlain F ∧ 0 ≤ v ∧ v < F.values then (degN (setL (Clsh F) v.toNat) F.values.toNat : Nat) else -1
theorem clashesOf_no {F : FnD} (h : ¬ FnPlain F) : clashesOf F = [] := by unfold clashesOf; rw [if_neg h]
theorem clashesOf_yes {F : FnD} {n V : Nat} (h : FnPlain F) (hp : PlainV F n V) : clashesOf F = (List.range V).map (fun a => bitsOf V (setL (Clsh F) a)) := by
  unfold clashesOf
  rw [if_pos h, show F.values.toNat = V by have := hp.vals; omega]
theorem clashes_len (F : FnD) : (clashesOf F).length ≤ 100 := by
  by_cases h : FnPlain F
  · obtain ⟨n, V, hp⟩ := plainV_of h
    rw [clashesOf_yes h hp]
    have := hp.v80
    simp
    omega
  · rw [clashesOf_no h]; simp
theorem clashOf_no {F : FnD} {a b : Int} (h : ¬ (FnPlain F ∧ Clsh F a b)) : clashOf F a b = false := by unfold clashOf; simp [h]
theorem clashOf_eq {F : FnD} (h : FnPlain F) (a b : Int) : (clashOf F a b = true ↔ Clsh F a b) := by unfold clashOf; simp [h]
theorem degreeOf_no {F : FnD} {v : Int} (h : ¬ (FnPlain F ∧ 0 ≤ v ∧ v < F.values)) : degreeOf F v = -1 := by unfold degreeOf; rw [if_neg h]
theorem degreeOf_yes {F : FnD} {n V v : Nat} (h : FnPlain F) (hp : PlainV F n V) (hv : v < V) : degreeOf F v = (degN (setL (Clsh F) v) V : Nat) := by
  have e := hp.vals
  unfold degreeOf
  rw [if_pos ⟨h, by omega, by omega⟩, show F.values.toNat = V by omega, Int.toNat_natCast]
end Go.Proofs.YtldcohhifmpedaaGreat

namespace Go.Proofs.YtldcohhifmpedaaGreat
open Go.ChangeShapes Go.WideShapes Go.ChangeAt Go.RowKit Go.Shelf
set_option linter.unusedVariables false

structure MatW (w : World) (lo g n V : Nat) (hs : Nat → Nat) (ls : Nat → List Int) : Prop where
  low : lo ≤ g
  box : ∃ cur, w.heap[g]? = some (.cells cur 68 (0, 0)) ∧ n ≤ cur.size ∧ ∀ i, i < n → cur[i]? = some (.slice (some ⟨hs i, 0, none⟩) V V)
  row : ∀ i, i < n → OwnBools w lo (.slice (some ⟨hs i, 0, none⟩) V V) (bitsOf V (ls i))
  inj : ∀ i j, i < n → j < n → hs i = hs j → i = j
theorem MatW.lt {w : World} {lo g n V : Nat} {hs : Nat → Nat} {ls : Nat → List Int} (h : MatW w lo g n V hs ls) : g < w.heap.size := by
  obtain ⟨cur, hc, _⟩ := h.box
  exact (Array.getElem?_eq_some_iff.1 hc).1
theorem MatW.keep {w w' : World} {lo g n V : Nat} {hs : Nat → Nat} {ls : Nat → List Int} (h : MatW w lo g n V hs ls) (hb : Below w.heap.size w w') : MatW w' lo g n V hs ls := by
  obtain ⟨cur, hc, h1⟩ := h.box
  exact ⟨h.low, ⟨cur, (hb.block g h.lt).trans hc, h1⟩, fun i hi => (h.row i hi).keep hb, h.inj⟩
theorem MatW.lower {w : World} {lo lo' g n V : Nat} {hs : Nat → Nat} {ls : Nat → List Int} (h : MatW w lo g n V hs ls) (hl : lo' ≤ lo) : MatW w lo' g n V hs ls :=
  ⟨Nat.le_trans hl h.low, h.box, fun i hi => (h.row i hi).low hl, h.inj⟩
theorem MatW.congr {w : World} {lo g n V : Nat} {hs : Nat → Nat} {ls ls' : Nat → List Int} (h : MatW w lo g n V hs ls) (e : ∀ i, i < n → ∀ j : Nat, j < V → ((j : Int) ∈ ls i ↔ (j : Int) ∈ ls' i)) : MatW w lo g n V hs ls' :=
  ⟨h.low, h.box, fun i hi => by rw [← bits_congr (e i hi)]; exact h.row i hi, h.inj⟩
theorem MatW.head {w : World} {lo g n V : Nat} {hs : Nat → Nat} {ls : Nat → List Int} (h : MatW w lo g n V hs ls) {i : Nat} (hi : i < n) : w.cell? ⟨g, i, none⟩ = some (.slice (some ⟨hs i, 0, none⟩) V V) := by
  obtain ⟨cur, hc, _, h1⟩ := h.box
  simp [World.cell?, hc, h1 i hi]
theorem MatW.bit {w : World} {lo g n V : Nat} {hs : Nat → Nat} {ls : Nat → List Int} (h : MatW w lo g n V hs ls) {i : Nat} (hi : i < n) {j : Nat} (hj : j < V) : w.cell? ⟨hs i, j, none⟩ = some (.bool (decide ((j : Int) ∈ ls i))) ∧ w.frozen? ⟨hs i, j, none⟩ = false := by
  obtain ⟨_, _, _, _, h1, h2⟩ := (h.row i hi).cells
  exact ⟨by rw [h1 j hj, bits_getD _ hj], h2 j⟩
theorem MatW.rowLow {w : World} {lo g n V : Nat} {hs : Nat → Nat} {ls : Nat → List Int} (h : MatW w lo g n V hs ls) {i : Nat} (hi : i < n) : lo ≤ hs i ∧ hs i < w.heap.size := by
  obtain ⟨h1, c, h2⟩ := (h.row i hi).block (k := hs i) rfl
  exact ⟨h1, (Array.getElem?_eq_some_iff.1 h2).1⟩
theorem MatW.notRow {w : World} {lo g n V : Nat} {hs : Nat → Nat} {ls : Nat → List Int} (h : MatW w lo g n V hs ls) {i : Nat} (hi : i < n) : hs i ≠ g := fun e => by
  obtain ⟨_, c, h2⟩ := (h.row i hi).block (k := hs i) rfl
  obtain ⟨cur, hc, _⟩ := h.box
  rw [e, hc] at h2
  simp at h2
/-- A flag is put. -/
theorem MatW.set {w : World} {lo g n V : Nat} {hs : Nat → Nat} {ls : Nat → List Int} (h : MatW w lo g n V hs ls) {a b : Nat} (ha : a < n) (hb : b < V) {x : Bool} {l' : List Int} (hl : ∀ j : Nat, j < V → ((j : Int) ∈ l' ↔ if j = b then x = true else (j : Int) ∈ ls a)) : MatW (w.setCell ⟨hs a, b, none⟩ (.bool x)) lo g n V hs (updL ls a l') := by
  obtain ⟨cur, hc, h1⟩ := h.box
  refine ⟨h.low, ⟨cur, (Below.heap_setCell _ _ _ g (fun e => h.notRow ha e.symm)).trans hc, h1⟩, fun i hi => ?_, h.inj⟩
  by_cases e : i = a
  · subst e
    rw [updL_same, ← bits_set hb hl]
    exact (h.row i hi).setAt hb x
  · rw [updL_other _ _ e]
    refine (h.row i hi).sameB (fun k hk => Below.heap_setCell _ _ _ k (fun e2 => e (h.inj i a hi ha ?_)))
    simp [Value.ownBlock] at hk
    dsimp only at e2
    omega
/-- The matrix while it is built. -/
def HdW (w : World) (lo V : Nat) (mv : Value) (k : Nat) : Prop := ∃ gs : List Nat, w.ownsRow lo 68 1 mv k (gs.map (fun g' => Value.slice (some ⟨g', 0, none⟩) V V)) ∧ gs.Nodup ∧ ∀ g' ∈ gs, g' < w.heap.size ∧ OwnBools w lo (.slice (some ⟨g', 0, none⟩) V V) (bitsOf V [])
theorem hdW_next {wq wM wa : World} {lo V g g' k cap cap' : Nat} {gs : List Nat} {o : Obj} (hrow : wM.ownsRow lo 68 1 (.slice (some ⟨g, 0, none⟩) k cap) k (gs.map (fun g' => Value.slice (some ⟨g', 0, none⟩) V V))) (hnd : gs.Nodup) (hall : ∀ g' ∈ gs, g' < wq.heap.size ∧ OwnBools wM lo (.slice (some ⟨g', 0, none⟩) V V) (bitsOf V [])) (hs : wM.heap.size = wq.heap.size + 1) (hnew : OwnBools wM lo (.slice (some ⟨wq.heap.size, 0, none⟩) V V) (bitsOf V []))
    (hown : wa.ownsRow lo 68 1 (.slice (some ⟨g', 0, none⟩) (k + 1) cap') (k + 1) (gs.map (fun g' => Value.slice (some ⟨g', 0, none⟩) V V) ++ [.slice (some ⟨wq.heap.size, 0, none⟩) V V])) (hg : (wM.alloc o).grownBy wa (Value.slice (some ⟨g, 0, none⟩) k cap).ownBlock) : HdW wa lo V (.slice (some ⟨g', 0, none⟩) (k + 1) cap') (k + 1) := by
  obtain ⟨cur, hcur⟩ : ∃ cur, wM.heap[g]? = some (.cells cur 68 (0, 0)) := by
    rcases hrow.2 with ⟨h0, _⟩ | ⟨g9, c9, cur, hv, _, h9, _⟩
    · cases h0
    · cases hv; exact ⟨cur, h9⟩
  have hcur2 : (wM.alloc o).heap[g]? = some (.cells cur 68 (0, 0)) := (Below.heap_alloc wM o g (Array.getElem?_eq_some_iff.1 hcur).1).trans hcur
  have hsz := hg.size
  have hsa : (wM.alloc o).heap.size = wM.heap.size + 1 := by simp
  refine ⟨gs ++ [wq.heap.size], by rw [List.map_append]; exact hown, ?_, fun x hx => ?_⟩
  · rw [List.nodup_append]
    refine ⟨hnd, by simp, fun a ha b hb e => ?_⟩
    simp at hb
    have := (hall a ha).1
    omega
  · rcases List.mem_append.1 hx with hx | hx
    · exact ⟨by have := (hall x hx).1; omega, ((hall x hx).2.keep (Bel.alloc wM o)).grownRow hg hcur2⟩
    · simp at hx
      subst hx
      exact ⟨by omega, (hnew.keep (Bel.alloc wM o)).grownRow hg hcur2⟩
theorem HdW.mat {w : World} {lo V g n cap : Nat} (h : HdW w lo V (.slice (some ⟨g, 0, none⟩) n cap) n) : ∃ hs, MatW w lo g n V hs (fun _ => []) := by
  obtain ⟨gs, ⟨hl, ⟨h0, _⟩ | ⟨g', cap', cur, hv, hlo, hg, h1, h2, h3, h4⟩⟩, hnd, hr⟩ := h
  · cases h0
  · cases hv
    rw [List.length_map] at hl
    refine ⟨fun i => gs.getD i 0, hlo, ⟨cur, hg, by omega, fun i hi => ?_⟩, fun i hi => ?_, fun i j hi hj e => ?_⟩
    · have hil : i < gs.length := by omega
      have e2 := congrArg (fun m => m[i]?) h4
      rw [List.getElem?_take, if_pos (by omega), List.getElem?_map, List.getElem?_eq_getElem hil] at e2
      rw [List.getD_eq_getElem?_getD, List.getElem?_eq_getElem hil]
      simpa using e2
    · have hil : i < gs.length := by omega
      rw [List.getD_eq_getElem?_getD, List.getElem?_eq_getElem hil]
      exact (hr _ (List.getElem_mem hil)).2
    · have hil : i < gs.length := by omega
      have hjl : j < gs.length := by omega
      simp only [List.getD_eq_getElem?_getD, List.getElem?_eq_getElem hil, List.getElem?_eq_getElem hjl, Option.getD_some] at e
      exact (List.getElem_inj hnd).1 e
def GivesW (w : World) (V : Nat) (S : Int → Int → Prop) (e : Ending) (w' : World) : Prop := ∃ g cap hs, e = .returned (.slice (some ⟨g, 0, none⟩) V cap) ∧ MatW w' w.heap.size g V V hs (setL S) ∧ Below w.heap.size w w'
/-- Two flags are put: both ways round. -/
theorem MatW.hit {w : World} {lo g V : Nat} {hs : Nat → Nat} {S T : Int → Int → Prop} (h : MatW w lo g V V hs (setL S)) (h80 : V ≤ 80) {d v : Nat} (hd : d < V) (hv : v < V) (hT : ∀ a c : Int, T a c ↔ S a c ∨ (a = d ∧ c = v) ∨ (a = v ∧ c = d)) : MatW ((w.setCell ⟨hs d, v, none⟩ (.bool true)).setCell ⟨hs v, d, none⟩ (.bool true)) lo g V V hs (setL T) := by
  have h1 := h.set (a := d) (b := v) (x := true) (l' := (v : Int) :: setL S d) hd hv (fun j hj => by
    by_cases e : j = v
    · subst e; simp
    · rw [if_neg e]
      simp
      omega)
  have h2 := h1.set (a := v) (b := d) (x := true) (l' := (d : Int) :: updL (setL S) d ((v : Int) :: setL S d) v) hv hd (fun j hj => by
    by_cases e : j = d
    · subst e; simp
    · rw [if_neg e]
      simp
      omega)
  refine h2.congr (fun i hi j hj => ?_)
  rw [setL_mem, hT]
  unfold updL
  have hm : ∀ x : Nat, ((j : Int) ∈ setL S x ↔ S (x : Int) j) := fun x => by
    rw [setL_mem]
    exact ⟨fun h => h.1, fun h => ⟨h, by omega, by omega⟩⟩
  have hj8 : (0 : Int) ≤ (j : Int) ∧ (j : Int) < 80 := by omega
  by_cases e1 : i = v
  · subst e1
    by_cases e2 : i = d
    · subst e2
      by_cases hS : S (i : Int) (j : Int) <;> simp [hm, hS, hj8] <;> omega
    · by_cases hS : S (i : Int) (j : Int) <;> simp [hm, hS, hj8, e2] <;> omega
  · by_cases e2 : i = d
    · subst e2
      by_cases hS : S (i : Int) (j : Int) <;> simp [hm, hS, hj8, e1] <;> omega
    · by_cases hS : S (i : Int) (j : Int) <;> simp [hm, hS, hj8, e1, e2] <;> omega
end Go.Proofs.YtldcohhifmpedaaGreat
