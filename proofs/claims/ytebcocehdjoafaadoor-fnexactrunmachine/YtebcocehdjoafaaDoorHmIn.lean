/- l1In. -/
import Derived.Test.YtebcocehdjoafaaDoorInts
namespace Go.Proofs.YtebcocehdjoafaaDoor
open Go.ChangeShapes Go.WideShapes Go.ChangeAt Go.RowKit
set_option linter.unusedVariables false

theorem l1In_any (v lo hi : Int) (w : World) :
    Calls Tryd.prog 34 #[.int .i64 v, .int .i64 lo, .int .i64 hi] w fun e w' => e = .returned (.bool (decide (lo ≤ v) && decide (v ≤ hi))) ∧ w' = w := by
  by_cases h : lo ≤ v
  · by_cases h1 : v ≤ hi
    · rw [show (decide (lo ≤ v) && decide (v ≤ hi)) = true by simp [h, h1]]
      go_enter Tryd.func34, Tryd.ntmps34
      go_wp2
      go_ret
      exact ⟨rfl, rfl⟩
    · rw [show (decide (lo ≤ v) && decide (v ≤ hi)) = false by simp [h1]]
      go_enter Tryd.func34, Tryd.ntmps34
      go_wp2
      go_ret
      exact ⟨rfl, rfl⟩
  · rw [show (decide (lo ≤ v) && decide (v ≤ hi)) = false by simp [h]]
    go_enter Tryd.func34, Tryd.ntmps34
    go_wp2
    go_ret
    exact ⟨rfl, rfl⟩
end Go.Proofs.YtebcocehdjoafaaDoor
