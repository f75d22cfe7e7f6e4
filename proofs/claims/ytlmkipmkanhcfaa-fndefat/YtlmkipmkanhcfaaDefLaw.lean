/- What is told of where a value is made is made there. -/
import Derived.Test.YtlmkipmkanhcfaaMakes
namespace Go.Proofs.Ytlmkipmkanhcfaa
set_option linter.unusedVariables false

theorem mem_insMakes {b : Nat} {l : List InsD} {m : Made} : ∀ {k : Nat}, m ∈ insMakes b l k → ∃ (j : Nat) (i : InsD), l[j]? = some i ∧ makesV i.op = true ∧ m = (i.d, (b : Int), (j : Int))
  | 0, h => by cases h
  | k + 1, h => by
    unfold insMakes at h
    rcases List.mem_append.1 h with h | h
    · exact mem_insMakes h
    · split at h
      · rename_i x hx
        split at h
        · rename_i hm
          simp at h
          exact ⟨k, x, hx, hm, h⟩
        · cases h
      · cases h
theorem mem_makesUp {F : FnD} {m : Made} : ∀ {k : Nat}, m ∈ makesUp F k → ∃ (b : Nat) (x : BlockD), F.blocks[b]? = some x ∧ m ∈ blockMakes b x
  | 0, h => by cases h
  | k + 1, h => by
    unfold makesUp at h
    rcases List.mem_append.1 h with h | h
    · exact mem_makesUp h
    · split at h
      · rename_i x hx
        exact ⟨k, x, hx, h⟩
      · cases h
/-- The three ways in which a value is told of. -/
theorem defAt_cases (F : FnD) (v : Int) : defAtOf F v = (-1, -2) ∨ (∃ (b : Nat) (x : BlockD) (j : Nat) (p : PhiD), F.blocks[b]? = some x ∧ x.phis[j]? = some p ∧ p.d = v ∧ defAtOf F v = ((b : Int), -1)) ∨
    (∃ (b : Nat) (x : BlockD) (j : Nat) (i : InsD), F.blocks[b]? = some x ∧ x.list[j]? = some i ∧ insDefV i.op i.d = v ∧ defAtOf F v = ((b : Int), (j : Int))) := by
  by_cases hS : FnShape F
  · rw [defAtOf_yes hS]
    cases e : firstV v (makesOf F) with
    | none => exact .inl rfl
    | some m =>
      refine .inr ?_
      unfold firstV at e
      have h1 := List.find?_some e
      have h2 := List.mem_of_find?_eq_some e
      simp only [decide_eq_true_eq] at h1
      obtain ⟨b, x, hx, hm⟩ := mem_makesUp h2
      unfold blockMakes at hm
      rcases List.mem_append.1 hm with hm | hm
      · unfold phiMakes at hm
        obtain ⟨p, hp, rfl⟩ := List.mem_map.1 hm
        obtain ⟨j, hj, hjp⟩ := List.getElem_of_mem hp
        exact .inl ⟨b, x, j, p, hx, by rw [List.getElem?_eq_getElem hj, hjp], h1, rfl⟩
      · obtain ⟨j, i, hi, hmk, rfl⟩ := mem_insMakes hm
        exact .inr ⟨b, x, j, i, hx, hi, by unfold insDefV; rw [if_pos hmk]; exact h1, rfl⟩
  · exact .inl (defAtOf_no hS)
end Go.Proofs.Ytlmkipmkanhcfaa
