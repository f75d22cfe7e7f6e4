/- The values that copies make: as a list, and as what a sort and a compacting leave. -/
import Derived.Test.YtcfbmokbapokaaaShapeDef
import Derived.Lib.SlicesCompact
namespace Go.Proofs.Ytcfbmokbapokaaa
open Go.ChangeShapes Go.WideShapes Go.ChangeAt Go.RowKit
set_option linter.unusedVariables false

/-- What the copies of a list make, in order. -/
def copiesL (l : List InsD) : List Int := (l.filter (fun x => decide (x.op = 25))).map (fun x => x.d)
/-- What the copies of the first k blocks make. -/
def copiesUp (F : FnD) (k : Nat) : List Int := (F.blocks.take k).flatMap (fun b => copiesL b.list)
def copyDs (F : FnD) : List Int := F.blocks.flatMap (fun b => copiesL b.list)
def targetsUp (F : FnD) (n : Nat) : List Int := ((List.range n).filter (fun u : Nat => decide ((u : Int) ∈ copyDs F))).map (fun u : Nat => (u : Int))
open Classical in
noncomputable def targetsOf (F : FnD) : List Int := if FnShape F then targetsUp F F.values.toNat else []

theorem targetsOf_yes {F : FnD} (h : FnShape F) : targetsOf F = targetsUp F F.values.toNat := by unfold targetsOf; rw [if_pos h]
theorem targetsOf_no {F : FnD} (h : ¬ FnShape F) : targetsOf F = [] := by unfold targetsOf; rw [if_neg h]
theorem targetsUp_len (F : FnD) (n : Nat) : (targetsUp F n).length ≤ n := by
  unfold targetsUp
  rw [List.length_map]
  exact Nat.le_trans (List.length_filter_le _ _) (by simp)
theorem targetsOf_small (F : FnD) : (targetsOf F).length ≤ 100 := by
  by_cases h : FnShape F
  · rw [targetsOf_yes h]
    have h1 := targetsUp_len F F.values.toNat
    have h2 := h.2.2.2.1
    omega
  · rw [targetsOf_no h]; exact Nat.zero_le _
theorem targetsUp_yes {F : FnD} {n : Nat} (h : (n : Int) ∈ copyDs F) : targetsUp F (n + 1) = targetsUp F n ++ [(n : Int)] := by
  simp [targetsUp, List.range_succ, h]
theorem targetsUp_not {F : FnD} {n : Nat} (h : ¬ (n : Int) ∈ copyDs F) : targetsUp F (n + 1) = targetsUp F n := by
  simp [targetsUp, List.range_succ, h]
theorem copiesUp_all {F : FnD} {n : Nat} (h : F.blocks.length = n) : copiesUp F n = copyDs F := by
  unfold copiesUp copyDs
  rw [List.take_of_length_le (by omega)]
theorem copiesUp_next {F : FnD} {k : Nat} {x : BlockD} (h : F.blocks[k]? = some x) : copiesUp F (k + 1) = copiesUp F k ++ copiesL x.list := by
  unfold copiesUp
  rw [List.take_add_one, h]
  simp
theorem copiesL_next {l : List InsD} {i : Nat} {x : InsD} (h : l[i]? = some x) (hop : x.op = 25) : copiesL (l.take (i + 1)) = copiesL (l.take i) ++ [x.d] := by
  unfold copiesL
  rw [List.take_add_one, h]
  simp [hop]
theorem copiesL_skip {l : List InsD} {i : Nat} {x : InsD} (h : l[i]? = some x) (hop : x.op ≠ 25) : copiesL (l.take (i + 1)) = copiesL (l.take i) := by
  unfold copiesL
  rw [List.take_add_one, h]
  simp [hop]
theorem copiesL_len (l : List InsD) : (copiesL l).length ≤ l.length := by
  unfold copiesL
  rw [List.length_map]
  exact List.length_filter_le _ _
theorem copiesUp_len {F : FnD} (hF : FnShape F) : ∀ k, (copiesUp F k).length ≤ 24 * k := by
  intro k
  induction k with
  | zero => simp [copiesUp]
  | succ k ih =>
    by_cases hk : k < F.blocks.length
    · have hx : F.blocks[k]? = some F.blocks[k] := List.getElem?_eq_getElem hk
      rw [copiesUp_next hx, List.length_append]
      have h1 := copiesL_len F.blocks[k].list
      have h2 := (hF.2.2.2.2 k _ hx).2.1
      omega
    · have e : copiesUp F (k + 1) = copiesUp F k := by
        unfold copiesUp
        rw [List.take_of_length_le (by omega), List.take_of_length_le (by omega)]
      rw [e]; omega
theorem copyDs_in {F : FnD} (hF : FnShape F) {v : Int} (h : v ∈ copyDs F) : 0 ≤ v ∧ v < F.values := by
  unfold copyDs at h
  obtain ⟨b, hb, hv⟩ := List.mem_flatMap.1 h
  obtain ⟨j, hj, rfl⟩ := List.mem_iff_getElem.1 hb
  unfold copiesL at hv
  obtain ⟨x, hx, rfl⟩ := List.mem_map.1 hv
  obtain ⟨hx1, hx2⟩ := List.mem_filter.1 hx
  obtain ⟨i, hi, rfl⟩ := List.mem_iff_getElem.1 hx1
  have h3 := (hF.2.2.2.2 j _ (List.getElem?_eq_getElem hj)).2.2.2.1 i _ (List.getElem?_eq_getElem hi)
  have hop := of_decide_eq_true hx2
  unfold placeOkV at h3
  rw [hop, insOkV_copy] at h3
  simp only [Bool.and_eq_true] at h3
  exact valIn_iff.1 h3.1.1.1

theorem compactUp {d : Array Int} (hs : ∀ i j, i ≤ j → j < d.size → d[i]! ≤ d[j]!) : ∀ m, m ≤ d.size → (Lib.compactUpTo d m).Pairwise (· < ·) ∧ (∀ x, x ∈ Lib.compactUpTo d m ↔ ∃ j, j < m ∧ d[j]! = x) := by
  intro m
  induction m with
  | zero => intro _; exact ⟨by simp [Lib.compactUpTo], fun x => by simp [Lib.compactUpTo]⟩
  | succ m ih =>
    intro hm
    obtain ⟨h1, h2⟩ := ih (by omega)
    rw [Lib.compactUpTo_succ]
    cases hk : Lib.keeps d m with
    | true =>
      have hk' : m = 0 ∨ d[m]! ≠ d[m - 1]! := of_decide_eq_true hk
      refine ⟨?_, fun x => ?_⟩
      · simp only [if_true]
        refine List.pairwise_append.2 ⟨h1, List.pairwise_singleton _ _, fun a ha b hb => ?_⟩
        obtain ⟨j, hj, rfl⟩ := (h2 a).1 ha
        have hb' : b = d[m]! := by simpa using hb
        subst hb'
        have e1 := hs j (m - 1) (by omega) (by omega)
        have e2 := hs (m - 1) m (by omega) (by omega)
        have e3 : d[m]! ≠ d[m - 1]! := by
          rcases hk' with h | h
          · omega
          · exact h
        omega
      · simp only [if_true]
        rw [List.mem_append, h2]
        constructor
        · rintro (⟨j, hj, e⟩ | h)
          · exact ⟨j, by omega, e⟩
          · exact ⟨m, by omega, by simpa using (List.mem_singleton.1 h).symm⟩
        · rintro ⟨j, hj, e⟩
          by_cases ej : j = m
          · subst ej; exact .inr (by simp [e])
          · exact .inl ⟨j, by omega, e⟩
    | false =>
      have hk' : ¬ (m = 0 ∨ d[m]! ≠ d[m - 1]!) := of_decide_eq_false hk
      have h0 : m ≠ 0 := fun e => hk' (.inl e)
      have hx : d[m]! = d[m - 1]! := Classical.byContradiction fun e => hk' (.inr e)
      refine ⟨by simpa using h1, fun x => ?_⟩
      simp only [Bool.false_eq_true, if_false, List.append_nil]
      rw [h2]
      constructor
      · rintro ⟨j, hj, e⟩; exact ⟨j, by omega, e⟩
      · rintro ⟨j, hj, e⟩
        by_cases ej : j = m
        · subst ej; exact ⟨j - 1, by omega, by rw [← hx]; exact e⟩
        · exact ⟨j, by omega, e⟩

theorem compact_up {l : List Int} (hs : l.Pairwise (· ≤ ·)) : (Lib.compact l).Pairwise (· < ·) ∧ ∀ x, x ∈ Lib.compact l ↔ x ∈ l := by
  have h := compactUp (d := l.toArray) (fun i j hij hj => by
    have hj' : j < l.length := by simpa using hj
    have hi' : i < l.length := by omega
    rw [getElem!_pos l.toArray i (by simpa using hi'), getElem!_pos l.toArray j hj]
    simp only [List.getElem_toArray]
    rcases Nat.lt_or_ge i j with h | h
    · exact List.pairwise_iff_getElem.1 hs i j hi' hj' h
    · have : i = j := by omega
      subst this; exact Int.le_refl _) l.length (by simp)
  refine ⟨h.1, fun x => (h.2 x).trans ?_⟩
  constructor
  · rintro ⟨j, hj, e⟩
    rw [getElem!_pos l.toArray j (by simpa using hj)] at e
    simp only [List.getElem_toArray] at e
    exact e ▸ List.getElem_mem hj
  · intro hx
    obtain ⟨j, hj, e⟩ := List.mem_iff_getElem.1 hx
    refine ⟨j, hj, ?_⟩
    rw [getElem!_pos l.toArray j (by simpa using hj)]
    simpa using e
theorem compact_len (l : List Int) : (Lib.compact l).length ≤ l.length := by
  unfold Lib.compact Lib.compactUpTo
  rw [List.length_map]
  exact Nat.le_trans (List.length_filter_le _ _) (by simp)

theorem up_eq {l m : List Int} (h1 : l.Pairwise (· < ·)) (h2 : m.Pairwise (· < ·)) (h : ∀ x, x ∈ l ↔ x ∈ m) : l = m := by
  have n1 : l.Nodup := h1.imp (fun h => by omega)
  have n2 : m.Nodup := h2.imp (fun h => by omega)
  have hp : l.Perm m := (List.perm_ext_iff_of_nodup n1 n2).2 h
  exact List.Perm.eq_of_pairwise (le := fun a b => decide (a ≤ b)) (by intros; simp_all; omega) (h1.imp (fun h => by simp; omega)) (h2.imp (fun h => by simp; omega)) hp

theorem targets_eq {F : FnD} (hF : FnShape F) {s : List Int} (h1 : s.Pairwise (· ≤ ·)) (h2 : ∀ x, x ∈ s ↔ x ∈ copyDs F) : Lib.compact s = targetsOf F := by
  rw [targetsOf_yes hF]
  obtain ⟨c1, c2⟩ := compact_up h1
  refine up_eq c1 ?_ (fun x => ?_)
  · unfold targetsUp
    refine List.Pairwise.map _ (R := fun a b : Nat => a < b) (fun a b h => by omega) ?_
    exact List.Pairwise.filter _ List.pairwise_lt_range
  · rw [c2, h2]
    unfold targetsUp
    constructor
    · intro h
      obtain ⟨h0, hv⟩ := copyDs_in hF h
      refine List.mem_map.2 ⟨x.toNat, List.mem_filter.2 ⟨List.mem_range.2 (by omega), ?_⟩, by omega⟩
      rw [show ((x.toNat : Nat) : Int) = x by omega]
      exact decide_eq_true h
    · intro h
      obtain ⟨u, hu, rfl⟩ := List.mem_map.1 h
      exact of_decide_eq_true (List.mem_filter.1 hu).2
end Go.Proofs.Ytcfbmokbapokaaa
