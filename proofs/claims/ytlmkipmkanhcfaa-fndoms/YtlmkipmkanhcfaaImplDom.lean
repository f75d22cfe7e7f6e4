/- The program's Dominates and Above. -/
import Derived.Test.YtlmkipmkanhcfaaDomsOf
import Derived.Test.YtlmkipmkanhcfaaSetList
namespace Go.Proofs.Ytlmkipmkanhcfaa
open Go.ChangeShapes Go.WideShapes Go.ChangeAt Go.RowKit Go.Shelf
set_option linter.unusedVariables false

theorem run_index_tab (T : Tab) {b : Nat} (hb : b < 16) (w : World) : (Instr.index 83 (tabV T) (.int .i64 (b : Int))).run Try.prog w = .ok (setV (T b)) w := by
  have h2 : (b : Int) < 16 := by omega
  have hp := part_set T hb w
  unfold tabV
  simp [Instr.index, asIntOf, Sem.run_bind, Try.sizeOf81, hp]
  intro hh
  omega

theorem dominatesOf_a {F : FnD} {a b : Int} {n : Nat} (hN : F.blocks.length = n) (h : valIn (n : Int) a = false) : dominatesOf F a b = false := by
  unfold dominatesOf
  rw [decide_eq_false_iff_not]
  rintro ⟨hS, h0, h1, h2, hd⟩
  have := (dom_lt hS hd).1
  rw [hN] at this
  rw [valIn_yes h0 (by omega)] at h
  cases h
theorem dominatesOf_b {F : FnD} {a b : Int} {n : Nat} (hN : F.blocks.length = n) (h : valIn (n : Int) b = false) : dominatesOf F a b = false := by
  unfold dominatesOf
  rw [decide_eq_false_iff_not]
  rintro ⟨hS, h0, h1, h2, hd⟩
  rw [hN] at h2
  rw [valIn_yes h1 h2] at h
  cases h
theorem dominatesOf_yes {F : FnD} (hS : FnShape F) {a b : Nat} (hb : b < F.blocks.length) : dominatesOf F a b = domB F a b := by
  unfold dominatesOf
  rw [Bool.eq_iff_iff, domB_iff]
  simp
  constructor
  · rintro ⟨_, _, h⟩
    exact h
  · intro h
    exact ⟨hS, hb, h⟩

end Go.Proofs.Ytlmkipmkanhcfaa
