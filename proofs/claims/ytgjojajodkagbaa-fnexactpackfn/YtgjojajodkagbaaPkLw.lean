/- How long a packed program is. -/
import Derived.Test.YtgjojajodkagbaaPkSp2
import Derived.Test.YtgjojajodkagbaaOwnMore
namespace Go.Proofs.Ytgjojajodkagbaa
open Go.ChangeShapes Go.WideShapes Go.ChangeAt Go.RowKit
set_option linter.unusedVariables false
theorem FnAt.out {w : World} {v : Value} {F : FnD} (h : FnAt w v F) {n : Nat} {vals : Int} (hn : F.blocks.length = n) (hv : F.values = vals) : ∃ ba bcap, v = .agg #[.slice ba n bcap, .int .i64 vals] := by
  obtain ⟨bv, rfl, a, cap, rfl, _⟩ := h
  exact ⟨a, cap, by rw [hn, hv]⟩
theorem OwnB.marked {w w' : World} {lo hi b : Nat} {v : Value} {l : List UInt8} (h : OwnB w b v l) (m : Marked lo hi w w') (hv : ∀ g, v.ownBlock = some g → g < lo ∨ hi ≤ g) : OwnB w' b v l := ownsRow_marked h m hv
theorem packFnB_len (F : FnD) : (packFnB F).length ≤ 150000 := by
  by_cases h : PackOk F
  · rw [(packFn_yes h).1]
    have h1 := packB_len (fnN F)
    have h2 := blocks_take_len h.1 F.blocks.length
    rw [List.take_length] at h2
    rw [fnN_eq] at h1 ⊢
    rw [List.length_append] at h1
    simp only [List.length_cons, List.length_nil] at h1
    omega
  · rw [(packFn_no h).1]
    simp
end Go.Proofs.Ytgjojajodkagbaa
