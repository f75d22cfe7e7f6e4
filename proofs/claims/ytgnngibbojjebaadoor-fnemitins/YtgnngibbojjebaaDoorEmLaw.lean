/- The steps of a place are right, at most four, and end with what it makes in its home. -/
import Derived.Test.YtgnngibbojjebaaDoorEmDef
import Derived.Test.YtgnngibbojjebaaDoorMaDef
namespace Go.Proofs.YtgnngibbojjebaaDoor
set_option linter.unusedVariables false

theorem st_ok {op d a b n : Int} (h : formOk op = true) (h1 : holdsB (formV op).r d 900 = true) (h2 : holdsB (formV op).a a 900 = true) (h3 : holdsB (formV op).b b 900 = true) (h4 : holdsB (formV op).n n 900 = true) : stepOkB ⟨op, d, a, b, n⟩ 900 = true := by
  unfold stepOkB
  rw [h, h1, h2, h3, h4]
  rfl
theorem hold_reg {x : Int} (h0 : 0 ≤ x) (h1 : x ≤ 7) : holdsB 1 x 900 = true := by simp [holdsB]; omega
theorem hold_slot {x : Int} (h0 : 0 ≤ x) (h1 : x < 40) : holdsB 2 x 900 = true := by simp [holdsB]; omega
theorem hold_nil : holdsB 0 0 900 = true := by simp [holdsB]
theorem hold_any (x : Int) : holdsB 4 x 900 = true := by simp [holdsB]
theorem take_ok {h way : Int} (hh : homeB h = true) (hw : 0 ≤ way ∧ way ≤ 7) : ∀ s ∈ takeL h way, stepOkB s 900 = true := by
  have hb := homeB_iff.1 hh
  intro s hs
  unfold takeL at hs
  split at hs
  · rw [List.mem_singleton] at hs
    subst hs
    exact st_ok rfl (hold_reg hw.1 hw.2) hold_nil hold_nil (hold_slot (by omega) (by omega))
  · simp at hs
theorem takeR_reg {h way : Int} (hh : homeB h = true) (hw : 0 ≤ way ∧ way ≤ 7) : 0 ≤ takeR h way ∧ takeR h way ≤ 7 := by
  have hb := homeB_iff.1 hh
  unfold takeR
  split <;> omega
theorem put_ok {h a : Int} (hh : homeB h = true) (h4 : 4 ≤ h) (ha : 0 ≤ a ∧ a ≤ 7) : stepOkB ⟨4, 0, a, 0, h - 4⟩ 900 = true := by
  have hb := homeB_iff.1 hh
  exact st_ok rfl hold_nil (hold_reg ha.1 ha.2) hold_nil (hold_slot (by omega) (by omega))
theorem give_ok {h op a b n : Int} (hh : homeB h = true) (hs : ∀ r, 0 ≤ r → r ≤ 7 → stepOkB ⟨op, r, a, b, n⟩ 900 = true) : ∀ s ∈ giveL h op a b n, stepOkB s 900 = true := by
  have hb := homeB_iff.1 hh
  intro s hm
  unfold giveL at hm
  split at hm
  · simp only [List.mem_cons, List.not_mem_nil, or_false] at hm
    rcases hm with rfl | rfl
    · exact hs 6 (by omega) (by omega)
    · exact put_ok hh (by assumption) (by omega)
  · rw [List.mem_singleton] at hm
    subst hm
    exact hs h (by omega) (by omega)
theorem homesX_d {x : InsD} (h : homesX x = true) (hm : makesV x.op = true) : homeB x.d = true := by
  unfold homesX at h
  rw [hm] at h
  simp at h
  exact h.1
theorem homesX_u {x : InsD} (h : homesX x = true) : ∀ z ∈ usesV x.op x.a x.b, homeB z = true := by
  unfold homesX at h
  simp only [Bool.and_eq_true, List.all_eq_true] at h
  exact h.2
theorem emit_ok (x : InsD) : ∀ s ∈ emitX x, stepOkB s 900 = true := by
  intro s hs
  unfold emitX at hs
  split at hs
  case isFalse => simp at hs
  rename_i hh
  have hu := homesX_u hh
  obtain ⟨op, d, a, b, n⟩ := x
  dsimp only at hu
  unfold stepsX at hs
  dsimp only at hs
  by_cases e0 : op = 20
  · subst e0
    rw [if_pos rfl] at hs
    exact give_ok (homesX_d hh rfl) (op := 1) (fun r h0 h1 => st_ok (op := 1) rfl (hold_reg h0 h1) hold_nil hold_nil (hold_any n)) s hs
  rw [if_neg e0] at hs
  by_cases e1 : op = 21
  · subst e1
    rw [if_pos rfl, List.mem_append] at hs
    have ha := hu a (by simp [usesV])
    have hr := takeR_reg ha (way := 4) (by omega)
    rcases hs with hs | hs
    · exact take_ok ha (by omega) s hs
    · exact give_ok (homesX_d hh rfl) (op := 5) (fun r h0 h1 => st_ok (op := 5) rfl (hold_reg h0 h1) (hold_reg hr.1 hr.2) hold_nil hold_nil) s hs
  rw [if_neg e1] at hs
  by_cases e2 : op = 22
  · subst e2
    rw [if_pos rfl, List.mem_append, List.mem_append, List.mem_singleton] at hs
    have ha := hu a (by simp [usesV])
    have hb := hu b (by simp [usesV])
    have hr := takeR_reg ha (way := 4) (by omega)
    have hq := takeR_reg hb (way := 5) (by omega)
    rcases hs with hs | hs | hs
    · exact take_ok ha (by omega) s hs
    · exact take_ok hb (by omega) s hs
    · subst hs
      exact st_ok rfl hold_nil (hold_reg hr.1 hr.2) (hold_reg hq.1 hq.2) hold_nil
  rw [if_neg e2] at hs
  by_cases e3 : op = 23
  · subst e3
    rw [if_pos rfl, List.mem_append, List.mem_singleton] at hs
    have ha := hu a (by simp [usesV])
    have hr := takeR_reg ha (way := 4) (by omega)
    rcases hs with hs | hs
    · exact take_ok ha (by omega) s hs
    · subst hs
      exact st_ok rfl hold_nil (hold_reg hr.1 hr.2) hold_nil hold_nil
  rw [if_neg e3] at hs
  by_cases e4 : op = 24
  · subst e4
    rw [if_pos rfl] at hs
    exact give_ok (homesX_d hh rfl) (op := 8) (fun r h0 h1 => st_ok (op := 8) rfl (hold_reg h0 h1) hold_nil hold_nil hold_nil) s hs
  rw [if_neg e4] at hs
  by_cases e5 : op = 25
  · subst e5
    rw [if_pos rfl] at hs
    have ha := hu a (by simp [usesV])
    have hd := homesX_d hh rfl
    dsimp only at hd
    have hdb := homeB_iff.1 hd
    have hab := homeB_iff.1 ha
    have hr := takeR_reg ha (way := 4) (by omega)
    unfold copyL at hs
    by_cases c1 : 4 ≤ d
    · rw [if_pos c1, List.mem_append, List.mem_singleton] at hs
      rcases hs with hs | hs
      · exact take_ok ha (by omega) s hs
      · subst hs
        exact put_ok hd c1 hr
    · rw [if_neg c1] at hs
      by_cases c2 : 4 ≤ a
      · rw [if_pos c2, List.mem_singleton] at hs
        subst hs
        exact st_ok rfl (hold_reg (by omega) (by omega)) hold_nil hold_nil (hold_slot (by omega) (by omega))
      · rw [if_neg c2, List.mem_singleton] at hs
        subst hs
        exact st_ok rfl (hold_reg (by omega) (by omega)) (hold_reg (by omega) (by omega)) hold_nil hold_nil
  rw [if_neg e5] at hs
  by_cases ew : 1 ≤ op ∧ op ≤ 10
  · rw [if_pos ew, List.mem_append, List.mem_append] at hs
    rw [usesV_word ew.1 ew.2] at hu
    have ha := hu a (by simp)
    have hb := hu b (by simp)
    have hr := takeR_reg ha (way := 4) (by omega)
    have hq := takeR_reg hb (way := 5) (by omega)
    rcases hs with hs | hs | hs
    · exact take_ok ha (by omega) s hs
    · exact take_ok hb (by omega) s hs
    · have hf : formV (11 + op) = ⟨1, 1, 1, 0⟩ := formV_word (by omega) (by omega)
      refine give_ok (homesX_d hh (makesV_word ew.1 ew.2)) (fun r h0 h1 => ?_) s hs
      exact st_ok (formOk_yes (by omega) (by omega)) (by rw [hf]; exact hold_reg h0 h1) (by rw [hf]; exact hold_reg hr.1 hr.2) (by rw [hf]; exact hold_reg hq.1 hq.2) (by rw [hf]; exact hold_nil)
  · rw [if_neg ew] at hs
    simp at hs
/-- So it ends. -/
def EndsAt (d : Int) (s : InsD) : Prop := if 4 ≤ d then s.op = 4 ∧ s.n = d - 4 else s.d = d ∧ s.op ≠ 4
theorem give_ends (h op a b n : Int) (ho : op ≠ 4) (l : List InsD) : ∃ s, (l ++ giveL h op a b n).getLast? = some s ∧ EndsAt h s := by
  unfold giveL EndsAt
  split
  · exact ⟨⟨4, 0, 6, 0, h - 4⟩, by simp, rfl, rfl⟩
  · exact ⟨⟨op, h, a, b, n⟩, by simp, rfl, ho⟩
theorem emit_ends (x : InsD) (h : emitX x ≠ []) (hd : 0 ≤ insDefV x.op x.d) : ∃ s, (emitX x).getLast? = some s ∧ EndsAt x.d s := by
  have hm : makesV x.op = true := by
    unfold insDefV at hd
    split at hd
    · assumption
    · omega
  unfold emitX at h ⊢
  split at h
  case isFalse => exact absurd rfl h
  rename_i hh
  rw [if_pos hh]
  obtain ⟨op, d, a, b, n⟩ := x
  dsimp only at hm hd ⊢
  unfold stepsX
  dsimp only
  by_cases e0 : op = 20
  · rw [if_pos e0]; exact give_ends d 1 0 0 n (by omega) []
  rw [if_neg e0]
  by_cases e1 : op = 21
  · rw [if_pos e1]; exact give_ends d 5 _ 0 0 (by omega) _
  rw [if_neg e1]
  by_cases e2 : op = 22
  · subst e2; simp [makesV] at hm
  rw [if_neg e2]
  by_cases e3 : op = 23
  · subst e3; simp [makesV] at hm
  rw [if_neg e3]
  by_cases e4 : op = 24
  · rw [if_pos e4]; exact give_ends d 8 0 0 0 (by omega) []
  rw [if_neg e4]
  by_cases e5 : op = 25
  · rw [if_pos e5]
    unfold copyL EndsAt
    by_cases c1 : 4 ≤ d
    · simp only [c1, if_true]
      exact ⟨⟨4, 0, takeR a 4, 0, d - 4⟩, by simp, rfl, rfl⟩
    · simp only [c1, if_false]
      by_cases c2 : 4 ≤ a
      · rw [if_pos c2]; exact ⟨⟨3, d, 0, 0, a - 4⟩, by simp, rfl, by simp⟩
      · rw [if_neg c2]; exact ⟨⟨2, d, a, 0, 0⟩, by simp, rfl, by simp⟩
  rw [if_neg e5]
  by_cases ew : 1 ≤ op ∧ op ≤ 10
  · rw [if_pos ew, ← List.append_assoc]
    exact give_ends d (11 + op) _ _ 0 (by omega) _
  · simp [makesV, ew, e0, e1, e4, e5] at hm
end Go.Proofs.YtgnngibbojjebaaDoor
