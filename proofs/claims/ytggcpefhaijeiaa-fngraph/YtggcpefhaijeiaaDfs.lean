/- Going from block to block, as mathematics: what was come to, and in which order it was left. -/
import Derived.Test.YtggcpefhaijeiaaGraphDef
namespace Go.Proofs.Ytggcpefhaijeiaa
open Go.ChangeShapes Go.WideShapes Go.ChangeAt Go.RowKit Go.Shelf
set_option linter.unusedVariables false

/-- What was come to, and what was left. -/
abbrev Way := List Nat × List Int
/-- One of those that follow: come to, unless it was. -/
def stepW (L : Nat → Way → Way) (st : Way) (s : Int) : Way := if s.toNat ∈ st.1 then st else L s.toNat st
/-- From a block on, with so many steps down at most. -/
def leave (S : Nat → List Int) : Nat → Nat → Way → Way
  | 0, _, st => st
  | f + 1, b, st => (((S b).foldl (stepW (leave S f)) (b :: st.1, st.2)).1, ((S b).foldl (stepW (leave S f)) (b :: st.1, st.2)).2 ++ [(b : Int)])
/-- On the way: b was come to, so many of those that follow are done. -/
def midW (S : Nat → List Int) (f b : Nat) (st : Way) (l : List Int) : Way := l.foldl (stepW (leave S f)) (b :: st.1, st.2)
theorem midW_nil (S : Nat → List Int) (f b : Nat) (st : Way) : midW S f b st [] = (b :: st.1, st.2) := rfl
theorem midW_snoc (S : Nat → List Int) (f b : Nat) (st : Way) (l : List Int) (s : Int) : midW S f b st (l ++ [s]) = stepW (leave S f) (midW S f b st l) s := by simp [midW]
theorem leave_eq (S : Nat → List Int) (f b : Nat) (st : Way) : leave S (f + 1) b st = ((midW S f b st (S b)).1, (midW S f b st (S b)).2 ++ [(b : Int)]) := rfl
theorem stepW_in {L : Nat → Way → Way} {st : Way} {s : Int} (h : s.toNat ∈ st.1) : stepW L st s = st := if_pos h
theorem stepW_out {L : Nat → Way → Way} {st : Way} {s : Int} (h : ¬ s.toNat ∈ st.1) : stepW L st s = L s.toNat st := if_neg h

/-- How many were not come to. -/
def unseen (n : Nat) (seen : List Nat) : Nat := ((List.range n).filter (fun x => decide (x ∉ seen))).length
theorem filter_le {α : Type} (p q : α → Bool) (h : ∀ x, q x = true → p x = true) : ∀ l : List α, (l.filter q).length ≤ (l.filter p).length
  | [] => Nat.le_refl _
  | x :: l => by
    have ih := filter_le p q h l
    cases hq : q x
    · cases hp : p x
      · simp [hq, hp]; exact ih
      · simp [hq, hp]; omega
    · have hp := h x hq
      simp [hq, hp]; exact ih
theorem filter_lt {α : Type} (p q : α → Bool) (h : ∀ x, q x = true → p x = true) (y : α) (hp : p y = true) (hq : q y = false) : ∀ l : List α, y ∈ l → (l.filter q).length < (l.filter p).length
  | [], hy => by simp at hy
  | x :: l, hy => by
    by_cases e : y = x
    · subst e
      have := filter_le p q h l
      simp [hp, hq]
      omega
    · have hy2 : y ∈ l := by simpa [e] using hy
      have ih := filter_lt p q h y hp hq l hy2
      cases hq2 : q x
      · cases hp2 : p x
        · simp [hq2, hp2]; exact ih
        · simp [hq2, hp2]; omega
      · have hp2 := h x hq2
        simp [hq2, hp2]; exact ih
theorem unseen_sub {n : Nat} {a b : List Nat} (h : ∀ x ∈ a, x ∈ b) : unseen n b ≤ unseen n a := filter_le _ _ (fun x hx => by simp at hx ⊢; exact fun hm => hx (h x hm)) _
theorem unseen_cons {n : Nat} {a : List Nat} {b : Nat} (hb : b < n) (hn : b ∉ a) : unseen n (b :: a) < unseen n a :=
  filter_lt _ _ (fun x hx => by simp at hx ⊢; exact hx.2) b (by simpa using hn) (by simp) _ (by simpa using hb)
theorem unseen_nil (n : Nat) : unseen n [] = n := by
  unfold unseen
  rw [List.filter_eq_self.2 (fun x _ => by simp)]
  simp
theorem unseen_pos {n : Nat} {a : List Nat} {b : Nat} (hb : b < n) (hn : b ∉ a) : 0 < unseen n a := Nat.lt_of_le_of_lt (Nat.zero_le _) (unseen_cons hb hn)

/-- What was come to stays so. -/
theorem leave_sub (S : Nat → List Int) : ∀ (f b : Nat) (st : Way), ∀ x ∈ st.1, x ∈ (leave S f b st).1
  | 0, _, _, x, hx => hx
  | f + 1, b, st, x, hx => by
    have hf : ∀ (l : List Int) (s0 : Way), (∀ x ∈ st.1, x ∈ s0.1) → ∀ x ∈ st.1, x ∈ (l.foldl (stepW (leave S f)) s0).1 := by
      intro l
      induction l with
      | nil => exact fun s0 h => h
      | cons y l ih =>
        intro s0 h
        refine ih _ (fun z hz => ?_)
        unfold stepW
        split
        · exact h z hz
        · exact leave_sub S f _ _ z (h z hz)
    exact hf (S b) _ (fun z hz => List.mem_cons_of_mem _ hz) x hx
theorem mid_sub (S : Nat → List Int) (f b : Nat) (st : Way) (l : List Int) : ∀ x ∈ b :: st.1, x ∈ (midW S f b st l).1 := by
  have hf : ∀ (l : List Int) (s0 : Way), (∀ x ∈ b :: st.1, x ∈ s0.1) → ∀ x ∈ b :: st.1, x ∈ (l.foldl (stepW (leave S f)) s0).1 := by
    intro l
    induction l with
    | nil => exact fun s0 h => h
    | cons y l ih =>
      intro s0 h
      refine ih _ (fun z hz => ?_)
      unfold stepW
      split
      · exact h z hz
      · exact leave_sub S f _ _ z (h z hz)
  exact hf l _ (fun z hz => hz)
/-- On the way fewer are left. -/
theorem mid_unseen {S : Nat → List Int} {n f b : Nat} {st : Way} (hb : b < n) (hn : b ∉ st.1) (h : unseen n st.1 ≤ f + 1) (l : List Int) : unseen n (midW S f b st l).1 ≤ f := by
  have h1 := unseen_sub (n := n) (mid_sub S f b st l)
  have h2 := unseen_cons hb hn
  omega

/-- What was come to are blocks. -/
def WayIn (n : Nat) (st : Way) : Prop := (∀ x ∈ st.1, x < n) ∧ ∀ x ∈ st.2, 0 ≤ x ∧ x < n
/-- What was left are no more than what was come to. -/
theorem leave_len {S : Nat → List Int} {n : Nat} (hS : ∀ j, ∀ s ∈ S j, 0 ≤ s ∧ s < (n : Int)) : ∀ (f b : Nat) (st : Way) (M : Nat), b < n → b ∉ st.1 → st.2.length + unseen n st.1 ≤ M → WayIn n st →
    (leave S f b st).2.length + unseen n (leave S f b st).1 ≤ M ∧ WayIn n (leave S f b st)
  | 0, _, st, M, _, _, h, hw => ⟨h, hw⟩
  | f + 1, b, st, M, hb, hn, h, hw => by
    have h2 := unseen_cons hb hn
    have hf : ∀ (l : List Int) (s0 : Way), (∀ s ∈ l, 0 ≤ s ∧ s < (n : Int)) → s0.2.length + unseen n s0.1 ≤ M - 1 → WayIn n s0 → (l.foldl (stepW (leave S f)) s0).2.length + unseen n (l.foldl (stepW (leave S f)) s0).1 ≤ M - 1 ∧ WayIn n (l.foldl (stepW (leave S f)) s0) := by
      intro l
      induction l with
      | nil => exact fun s0 _ h hw => ⟨h, hw⟩
      | cons y l ih =>
        intro s0 hl h hw
        have hy := hl y (by simp)
        have hgo : (stepW (leave S f) s0 y).2.length + unseen n (stepW (leave S f) s0 y).1 ≤ M - 1 ∧ WayIn n (stepW (leave S f) s0 y) := by
          by_cases hin : y.toNat ∈ s0.1
          · rw [stepW_in hin]; exact ⟨h, hw⟩
          · rw [stepW_out hin]; exact leave_len hS f _ _ _ (by omega) hin h hw
        exact ih _ (fun s hs => hl s (by simp [hs])) hgo.1 hgo.2
    have h3 := hf (S b) (b :: st.1, st.2) (hS b) (by show st.2.length + unseen n (b :: st.1) ≤ M - 1; omega) ⟨fun x hx => by
      rcases List.mem_cons.1 hx with rfl | hx
      · exact hb
      · exact hw.1 x hx, hw.2⟩
    rw [leave_eq]
    refine ⟨?_, h3.2.1, fun x hx => ?_⟩
    · have := h3.1
      simp [midW]
      omega
    · rcases List.mem_append.1 hx with hx | hx
      · exact h3.2.2 x hx
      · simp at hx
        omega
theorem mid_len {S : Nat → List Int} {n : Nat} (hS : ∀ j, ∀ s ∈ S j, 0 ≤ s ∧ s < (n : Int)) {f b : Nat} {st : Way} {M : Nat} (hb : b < n) (hn : b ∉ st.1) (h : st.2.length + unseen n st.1 ≤ M) (hw : WayIn n st) : ∀ (l : List Int), (∀ s ∈ l, 0 ≤ s ∧ s < (n : Int)) →
    (midW S f b st l).2.length + unseen n (midW S f b st l).1 + 1 ≤ M ∧ WayIn n (midW S f b st l) := by
  have h2 := unseen_cons hb hn
  have hf : ∀ (l : List Int) (s0 : Way), (∀ s ∈ l, 0 ≤ s ∧ s < (n : Int)) → s0.2.length + unseen n s0.1 ≤ M - 1 → WayIn n s0 → (l.foldl (stepW (leave S f)) s0).2.length + unseen n (l.foldl (stepW (leave S f)) s0).1 ≤ M - 1 ∧ WayIn n (l.foldl (stepW (leave S f)) s0) := by
    intro l
    induction l with
    | nil => exact fun s0 _ h hw => ⟨h, hw⟩
    | cons y l ih =>
      intro s0 hl h hw
      have hy := hl y (by simp)
      have hgo : (stepW (leave S f) s0 y).2.length + unseen n (stepW (leave S f) s0 y).1 ≤ M - 1 ∧ WayIn n (stepW (leave S f) s0 y) := by
        by_cases hin : y.toNat ∈ s0.1
        · rw [stepW_in hin]; exact ⟨h, hw⟩
        · rw [stepW_out hin]; exact leave_len hS f _ _ _ (by omega) hin h hw
      exact ih _ (fun s hs => hl s (by simp [hs])) hgo.1 hgo.2
  intro l hl
  have h3 := hf l (b :: st.1, st.2) hl (by show st.2.length + unseen n (b :: st.1) ≤ M - 1; omega) ⟨fun x hx => by
    rcases List.mem_cons.1 hx with rfl | hx
    · exact hb
    · exact hw.1 x hx, hw.2⟩
  refine ⟨?_, h3.2⟩
  have := h3.1
  unfold midW
  omega

/-- The whole way of a program. -/
def wayOf (F : FnD) : Way := leave (succsN F) F.blocks.length 0 ([], [])
theorem wayOf_len {F : FnD} (h : FnShape F) : (wayOf F).2.length ≤ F.blocks.length ∧ WayIn F.blocks.length (wayOf F) := by
  have h1 := h.1
  have := leave_len (S := succsN F) (n := F.blocks.length) (succs_in h) F.blocks.length 0 ([], []) F.blocks.length (by omega) (by simp) (by simp [unseen_nil]) ⟨by simp, by simp⟩
  exact ⟨by have := this.1; unfold wayOf; omega, this.2⟩
open Classical in
noncomputable def orderOf (F : FnD) : List Int := if FnShape F then (wayOf F).2.reverse else []
theorem orderOf_yes {F : FnD} (h : FnShape F) : orderOf F = (wayOf F).2.reverse := if_pos h
theorem orderOf_no {F : FnD} (h : ¬ FnShape F) : orderOf F = [] := if_neg h
theorem orderOf_small (F : FnD) : (orderOf F).length ≤ 100 := by
  unfold orderOf
  split
  · rename_i h
    have h1 := (wayOf_len h).1
    have h2 := h.2.1
    rw [List.length_reverse]
    omega
  · simp
/-- What was come to is still open or was left. -/
theorem leave_same (S : Nat → List Int) : ∀ (f b : Nat) (st : Way) (E : List Nat), (∀ x : Nat, x ∈ st.1 ↔ x ∈ E ∨ (x : Int) ∈ st.2) → ∀ x : Nat, x ∈ (leave S f b st).1 ↔ x ∈ E ∨ (x : Int) ∈ (leave S f b st).2
  | 0, _, _, _, h => h
  | f + 1, b, st, E, h => by
    have hf : ∀ (l : List Int) (s0 : Way), (∀ x : Nat, x ∈ s0.1 ↔ x ∈ b :: E ∨ (x : Int) ∈ s0.2) → ∀ x : Nat, x ∈ (l.foldl (stepW (leave S f)) s0).1 ↔ x ∈ b :: E ∨ (x : Int) ∈ (l.foldl (stepW (leave S f)) s0).2 := by
      intro l
      induction l with
      | nil => exact fun s0 h => h
      | cons y l ih =>
        intro s0 h
        refine ih _ ?_
        unfold stepW
        split
        · exact h
        · exact leave_same S f _ _ _ h
    have h3 := hf (S b) (b :: st.1, st.2) (fun x => by
      have := h x
      simp only [List.mem_cons]
      constructor
      · rintro (e | e)
        · exact .inl (.inl e)
        · rcases this.1 e with e | e
          · exact .inl (.inr e)
          · exact .inr e
      · rintro ((e | e) | e)
        · exact .inl e
        · exact .inr (this.2 (.inl e))
        · exact .inr (this.2 (.inr e)))
    intro x
    have h4 := h3 x
    rw [leave_eq]
    show x ∈ (midW S f b st (S b)).1 ↔ x ∈ E ∨ (x : Int) ∈ (midW S f b st (S b)).2 ++ [(b : Int)]
    have h5 : x ∈ (midW S f b st (S b)).1 ↔ x ∈ b :: E ∨ (x : Int) ∈ (midW S f b st (S b)).2 := h4
    rw [h5, List.mem_append, List.mem_cons]
    simp only [List.mem_singleton, Int.ofNat_inj]
    constructor
    · rintro ((e | e) | e)
      · exact .inr (.inr e)
      · exact .inl e
      · exact .inr (.inl e)
    · rintro (e | e | e)
      · exact .inl (.inr e)
      · exact .inr e
      · exact .inl (.inl e)
theorem wayOf_same (F : FnD) (x : Nat) : x ∈ (wayOf F).1 ↔ (x : Int) ∈ (wayOf F).2 := by
  have := leave_same (succsN F) F.blocks.length 0 ([], []) [] (by simp) x
  simpa [wayOf] using this
/-- For each block whether it is reached. -/
def reachedN (F : FnD) : List Bool := (List.range F.blocks.length).map (fun x => decide (x ∈ (wayOf F).1))
open Classical in
noncomputable def reachedOf (F : FnD) : List Bool := if FnShape F then reachedN F else []
theorem reachedOf_yes {F : FnD} (h : FnShape F) : reachedOf F = reachedN F := if_pos h
theorem reachedOf_no {F : FnD} (h : ¬ FnShape F) : reachedOf F = [] := if_neg h
theorem reachedOf_small (F : FnD) : (reachedOf F).length ≤ 100 := by
  unfold reachedOf
  split
  · rename_i h
    have h2 := h.2.1
    simp [reachedN]
    omega
  · simp
end Go.Proofs.Ytggcpefhaijeiaa
