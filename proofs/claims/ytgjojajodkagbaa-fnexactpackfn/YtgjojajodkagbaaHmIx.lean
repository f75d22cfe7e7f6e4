/- l1In. -/
import Derived.Test.YtgjojajodkagbaaInts
namespace Go.Proofs.Ytgjojajodkagbaa
open Go.ChangeShapes Go.WideShapes Go.ChangeAt Go.RowKit
set_option linter.unusedVariables false

theorem l1In_any (v lo hi : Int) (w : World) :
    Calls Try.prog 28 #[.int .i64 v, .int .i64 lo, .int .i64 hi] w fun e w' => e = .returned (.bool (decide (lo ≤ v) && decide (v ≤ hi))) ∧ w' = w := by
  by_cases h : lo ≤ v
  · by_cases h1 : v ≤ hi
    · rw [show (decide (lo ≤ v) && decide (v ≤ hi)) = true by simp [h, h1]]
      go_enter Try.func28, Try.ntmps28
      go_wp2
      go_ret
      exact ⟨rfl, rfl⟩
    · rw [show (decide (lo ≤ v) && decide (v ≤ hi)) = false by simp [h1]]
      go_enter Try.func28, Try.ntmps28
      go_wp2
      go_ret
      exact ⟨rfl, rfl⟩
  · rw [show (decide (lo ≤ v) && decide (v ≤ hi)) = false by simp [h]]
    go_enter Try.func28, Try.ntmps28
    go_wp2
    go_ret
    exact ⟨rfl, rfl⟩
end Go.Proofs.Ytgjojajodkagbaa
