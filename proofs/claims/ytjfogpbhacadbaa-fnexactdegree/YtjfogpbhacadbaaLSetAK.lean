/- Ascending lists of numbers as sets: where a number is put in, and taken out. -/
import Derived.Test.YtjfogpbhacadbaaKSeq
namespace Go.Proofs.Ytjfogpbhacadbaa
set_option linter.unusedVariables false

def Asc (l : List Int) : Prop := l.Pairwise (· < ·)
theorem asc_nil : Asc [] := List.Pairwise.nil
theorem asc_le {l : List Int} (h : Asc l) : l.Pairwise (· ≤ ·) := h.imp (fun h => Int.le_of_lt h)
theorem asc_ext : ∀ {l m : List Int}, Asc l → Asc m → (∀ x, x ∈ l ↔ x ∈ m) → l = m
  | [], [], _, _, _ => rfl
  | [], b :: m, _, _, h => by have := (h b).2 (by simp); cases this
  | a :: l, [], _, _, h => by have := (h a).1 (by simp); cases this
  | a :: l, b :: m, hl, hm, h => by
    have hl' := List.pairwise_cons.1 hl
    have hm' := List.pairwise_cons.1 hm
    have e : a = b := by
      have h1 := (h a).1 (by simp)
      have h2 := (h b).2 (by simp)
      rcases List.mem_cons.1 h1 with e | h1
      · exact e
      · rcases List.mem_cons.1 h2 with e | h2
        · exact e.symm
        · have := hl'.1 b h2
          have := hm'.1 a h1
          omega
    subst e
    have hh : ∀ x, x ∈ l ↔ x ∈ m := fun x => by
      constructor
      · intro hx
        have := hl'.1 x hx
        rcases List.mem_cons.1 ((h x).1 (by simp [hx])) with e | hx2
        · omega
        · exact hx2
      · intro hx
        have := hm'.1 x hx
        rcases List.mem_cons.1 ((h x).2 (by simp [hx])) with e | hx2
        · omega
        · exact hx2
    rw [asc_ext hl'.2 hm'.2 hh]
/-- How many are less. -/
def cutOf (l : List Int) (v : Int) : Nat := l.countP (· < v)
theorem cutOf_le (l : List Int) (v : Int) : cutOf l v ≤ l.length := List.countP_le_length
theorem cut_split (v : Int) : ∀ {l : List Int}, Asc l → (∀ x ∈ l.take (cutOf l v), x < v) ∧ (∀ x ∈ l.drop (cutOf l v), v ≤ x)
  | [], _ => by simp [cutOf]
  | a :: l, h => by
    have h' := List.pairwise_cons.1 h
    obtain ⟨i1, i2⟩ := cut_split v (l := l) h'.2
    by_cases ha : a < v
    · have e : cutOf (a :: l) v = cutOf l v + 1 := by simp [cutOf, ha]
      rw [e]
      refine ⟨fun x hx => ?_, fun x hx => ?_⟩
      · rw [List.take_succ_cons] at hx
        rcases List.mem_cons.1 hx with e | hx
        · omega
        · exact i1 x hx
      · rw [List.drop_succ_cons] at hx
        exact i2 x hx
    · have e0 : cutOf l v = 0 := by
        unfold cutOf
        rw [List.countP_eq_zero]
        intro x hx
        have := h'.1 x hx
        simp
        omega
      have e : cutOf (a :: l) v = 0 := by
        unfold cutOf at e0 ⊢
        simp [ha, e0]
      rw [e]
      refine ⟨fun x hx => by simp at hx, fun x hx => ?_⟩
      simp at hx
      rcases hx with e | hx
      · omega
      · have := h'.1 x hx
        omega
theorem put_asc {l : List Int} {v : Int} (h : Asc l) (hv : ¬ v ∈ l) : Asc (l.take (cutOf l v) ++ v :: l.drop (cutOf l v)) := by
  obtain ⟨h1, h2⟩ := cut_split v h
  have hd : ∀ x ∈ l.drop (cutOf l v), v < x := fun x hx => by
    have := h2 x hx
    have hne : x ≠ v := fun e => hv (e ▸ List.mem_of_mem_drop hx)
    omega
  unfold Asc
  rw [List.pairwise_append]
  refine ⟨h.sublist (List.take_sublist _ _), List.pairwise_cons.2 ⟨hd, h.sublist (List.drop_sublist _ _)⟩, fun a ha b hb => ?_⟩
  have := h1 a ha
  rcases List.mem_cons.1 hb with e | hb
  · omega
  · have := hd b hb
    omega
theorem put_mem (l : List Int) (k : Nat) (v x : Int) : x ∈ l.take k ++ v :: l.drop k ↔ x ∈ l ∨ x = v := by
  constructor
  · intro h
    rcases List.mem_append.1 h with h | h
    · exact .inl (List.mem_of_mem_take h)
    · rcases List.mem_cons.1 h with h | h
      · exact .inr h
      · exact .inl (List.mem_of_mem_drop h)
  · rintro (h | h)
    · rw [← List.take_append_drop k l] at h
      rcases List.mem_append.1 h with h | h
      · exact List.mem_append.2 (.inl h)
      · exact List.mem_append.2 (.inr (List.mem_cons.2 (.inr h)))
    · exact List.mem_append.2 (.inr (List.mem_cons.2 (.inl h)))
theorem cut_at {l : List Int} {v : Int} (h : Asc l) (hv : v ∈ l) : cutOf l v < l.length ∧ l.drop (cutOf l v) = v :: l.drop (cutOf l v + 1) := by
  obtain ⟨h1, h2⟩ := cut_split v h
  have hin : v ∈ l.drop (cutOf l v) := by
    rw [← List.take_append_drop (cutOf l v) l] at hv
    rcases List.mem_append.1 hv with h | h
    · have := h1 v h
      omega
    · exact h
  have hlt : cutOf l v < l.length := by
    have := cutOf_le l v
    rcases Nat.lt_or_ge (cutOf l v) l.length with h | h
    · exact h
    · rw [List.drop_of_length_le h] at hin
      cases hin
  refine ⟨hlt, ?_⟩
  have e := List.drop_eq_getElem_cons hlt
  have hs : Asc (l.drop (cutOf l v)) := h.sublist (List.drop_sublist _ _)
  rw [e] at hin hs h2 ⊢
  have hs' := List.pairwise_cons.1 hs
  rcases List.mem_cons.1 hin with e2 | hx
  · rw [← e2]
  · have g1 := hs'.1 v hx
    have g2 := h2 l[cutOf l v] List.mem_cons_self
    omega
theorem cut_out {l : List Int} {v : Int} (h : Asc l) (hv : v ∈ l) : Asc (l.take (cutOf l v) ++ l.drop (cutOf l v + 1)) ∧ ∀ x, x ∈ l.take (cutOf l v) ++ l.drop (cutOf l v + 1) ↔ x ∈ l ∧ x ≠ v := by
  obtain ⟨h1, h2⟩ := cut_split v h
  obtain ⟨hlt, e⟩ := cut_at h hv
  have hs : Asc (l.drop (cutOf l v)) := h.sublist (List.drop_sublist _ _)
  rw [e] at hs
  have hs' := List.pairwise_cons.1 hs
  refine ⟨?_, fun x => ?_⟩
  · unfold Asc
    rw [List.pairwise_append]
    refine ⟨h.sublist (List.take_sublist _ _), hs'.2, fun a ha b hb => ?_⟩
    have := h1 a ha
    have := hs'.1 b hb
    omega
  · constructor
    · intro hx
      rcases List.mem_append.1 hx with hx | hx
      · have := h1 x hx
        exact ⟨List.mem_of_mem_take hx, by omega⟩
      · have := hs'.1 x hx
        exact ⟨List.mem_of_mem_drop hx, by omega⟩
    · rintro ⟨hx, hne⟩
      rw [← List.take_append_drop (cutOf l v) l, e] at hx
      rcases List.mem_append.1 hx with hx | hx
      · exact List.mem_append.2 (.inl hx)
      · rcases List.mem_cons.1 hx with hx | hx
        · exact absurd hx hne
        · exact List.mem_append.2 (.inr hx)
/-- All from 0 on and below 80. -/
def In80 (l : List Int) : Prop := ∀ x ∈ l, 0 ≤ x ∧ x < 80
theorem asc_len : ∀ (l : List Int) (a : Int), Asc l → (∀ x ∈ l, a ≤ x ∧ x < 80) → a ≤ 80 → (l.length : Int) ≤ 80 - a
  | [], a, _, _, ha => by simp; omega
  | x :: l, a, h, hr, ha => by
    have h' := List.pairwise_cons.1 h
    have hx := hr x (by simp)
    have := asc_len l (x + 1) h'.2 (fun y hy => ⟨by have := h'.1 y hy; omega, (hr y (by simp [hy])).2⟩) (by omega)
    simp
    omega
theorem asc_small {l : List Int} (h : Asc l) (hr : In80 l) : l.length ≤ 80 := by
  have := asc_len l 0 h hr (by omega)
  omega
end Go.Proofs.Ytjfogpbhacadbaa
