/- A program that is folded is small where it was. -/
import Derived.Test.YtfmdnjnmbkgmjaaGreatDoorFoldImp2K
import Derived.Test.YtfmdnjnmbkgmjaaGreatDoorKOwnF
import Derived.Test.YtfmdnjnmbkgmjaaGreatDoorKHeld
namespace Go.Proofs.YtfmdnjnmbkgmjaaGreatDoor
set_option linter.unusedVariables false
theorem foldB_small {s : List BlockD × Kn} (h : ∀ b ∈ s.1, BlockSmall b) (b : Nat) : ∀ x ∈ (foldB s b).1, BlockSmall x := by
  unfold foldB
  split
  · exact h
  · rename_i y hy
    intro x hx
    obtain ⟨i, hi, rfl⟩ := List.mem_iff_getElem.1 hx
    have hg := List.getElem?_eq_getElem hi
    by_cases e : i = b
    · subst e
      rw [List.getElem?_set_self (List.getElem?_eq_some_iff.1 hy).1] at hg
      simp only [Option.some.injEq] at hg
      rw [← hg]
      obtain ⟨h1, h2, h3⟩ := h y (List.mem_of_getElem? hy)
      exact ⟨h1, by show (foldN _ _).1.length ≤ _; rw [foldN_len]; exact h2, h3⟩
    · rw [List.getElem?_set_ne (by omega)] at hg
      exact h _ (List.mem_of_getElem? hg)
theorem foldO_small : ∀ (o : List Int) {s : List BlockD × Kn}, (∀ b ∈ s.1, BlockSmall b) → ∀ x ∈ (foldO o s).1, BlockSmall x
  | [], s, h => h
  | b :: o, s, h => foldO_small o (foldB_small h b.toNat)
theorem foldF_small {F : FnD} (h : FnSmall F) : FnSmall (foldF F) := by
  by_cases hc : checkOf F = 0
  · rw [foldF_yes hc]
    refine ⟨?_, foldO_small _ h.2⟩
    show (foldO _ _).1.length ≤ _
    rw [foldO_len]
    exact h.1
  · rw [foldF_no hc]
    exact h
end Go.Proofs.YtfmdnjnmbkgmjaaGreatDoor
