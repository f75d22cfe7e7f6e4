/- What a program that is well has: the law's mathematics. -/
import Derived.Test.YtfeppmfoegejhaaGreatDoorKMake
import Derived.Test.YtfeppmfoegejhaaGreatDoorKCkA
import Derived.Test.YtfeppmfoegejhaaGreatDoorKDefD
namespace Go.Proofs.YtfeppmfoegejhaaGreatDoor
set_option linter.unusedVariables false
theorem check_zero {F : FnD} (h : checkOf F = 0) : FnShape F ∧ ¬ CopyIn F ∧ AllReached F ∧ ¬ EntryBad F ∧ ArmsAll F ∧ MadeOnce F ∧ TakenAll F := by
 unfold checkOf at h
 by_cases h1 : ¬ FnShape F ∨ CopyIn F
 ·rw [if_pos h1] at h; omega
 rw [if_neg h1] at h
 by_cases h2 : ¬ AllReached F
 ·rw [if_pos h2] at h; omega
 rw [if_neg h2] at h
 by_cases h3 : EntryBad F
 ·rw [if_pos h3] at h; omega
 rw [if_neg h3] at h
 by_cases h4 : ¬ ArmsAll F
 ·rw [if_pos h4] at h; omega
 rw [if_neg h4] at h
 by_cases h5 : ¬ MadeOnce F
 ·rw [if_pos h5] at h; omega
 rw [if_neg h5] at h
 by_cases h6 : ¬ TakenAll F
 ·rw [if_pos h6] at h; omega
 exact ⟨Classical.not_not.1 fun h => h1 (.inl h), fun h => h1 (.inr h), Classical.not_not.1 h2, h3, Classical.not_not.1 h4, Classical.not_not.1 h5, Classical.not_not.1 h6⟩
theorem check_range (F : FnD) : 0 ≤ checkOf F ∧ checkOf F ≤ 6 := by
 unfold checkOf
 split
 ·omega
 split
 ·omega
 split
 ·omega
 split
 ·omega
 split
 ·omega
 split
 ·omega
 ·omega
theorem known_law {F : FnD} (hS : FnShape F) {v : Int} {b : Nat} {at_ : Int} (hb : b < F.blocks.length) (h : Known F v b at_) : ((defAtOf F v).1 = (b : Int) → (defAtOf F v).2 < at_) ∧ ((defAtOf F v).1 ≠ (b : Int) → dominatesOf F (defAtOf F v).1 (b : Int) = true) := by
 unfold Known at h
 constructor
 ·intro e
  rw [if_pos e] at h
  exact h
 ·intro e
  rw [if_neg e] at h
  obtain ⟨h0, h1⟩ := h
  obtain ⟨a, ha⟩ : ∃ a : Nat, (defAtOf F v).1 = (a : Int) := ⟨(defAtOf F v).1.toNat, by omega⟩
  rw [ha] at h1 ⊢
  rw [dominatesOf_yes hS hb, ← domsN_mem hS]
  exact decide_eq_true h1
theorem made_at {F : FnD} (hS : FnShape F) (hO : MadeOnce F) {b k : Nat} {x : BlockD} {y : InsD} (hx : F.blocks[b]? = some x) (hy : x.list[k]? = some y) (hm : 0 ≤ insDefV y.op y.d) : defAtOf F y.d = ((b : Int), (k : Int)) := by
 have hmk : makesV y.op = true := by
  cases e : makesV y.op with
  | true => rfl
  | false =>
   unfold insDefV at hm
   rw [e] at hm
   simp at hm
 have h1 := makes_ins (k := k + 1) hx (by have := (List.getElem?_eq_some_iff.1 hy).1; omega)
 have h2 : (y.d, (b : Int), (k : Int)) ∈ makesOf F := h1.subset (by
  rw [insMakes_yes hy hmk]
  simp)
 rw [defAtOf_yes hS, firstV_once hO _ h2 rfl]
 rfl
end Go.Proofs.YtfeppmfoegejhaaGreatDoor
