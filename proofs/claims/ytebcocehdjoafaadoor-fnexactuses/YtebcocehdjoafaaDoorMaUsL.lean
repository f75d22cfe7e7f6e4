/- What the exact laws over steps want besides. -/
import Derived.Test.YtebcocehdjoafaaDoorMaUs
import Derived.Test.YtebcocehdjoafaaDoorMaOpen
namespace Go.Proofs.YtebcocehdjoafaaDoor
open Go.ChangeShapes Go.WideShapes Go.ChangeAt Go.RowKit
set_option linter.unusedVariables false

theorem usesOf_len (l : List InsD) : (usesOf l).length ≤ 100 := by
  unfold usesOf
  split
  · exact Nat.le_trans (usesTo_len l 40) (by omega)
  · simp
/-- A list that was copied can be marked. -/
theorem marksOfSteps {lo : Nat} {w w' : World} {v : Value} {l : List InsD} (h : ListAt lo 5 InsAt w v l) (hb : Below w.heap.size w w') : MarkAt lo w.heap.size 5 InsM w' v l.length := by
  obtain ⟨a, cap, rfl, _, hc⟩ := h
  refine ⟨a, cap, rfl, fun hp => ?_⟩
  obtain ⟨b, off, rfl, hlo, hd⟩ := hc hp
  have h0 := hd 0 l[0] (List.getElem?_eq_getElem hp)
  refine ⟨b, off, rfl, hlo, h0.lt, fun i hi => ?_⟩
  exact ((hd i l[i] (List.getElem?_eq_getElem hi)).keep (Keeps.of_below hb 0) (Nat.zero_le _)).m
end Go.Proofs.YtebcocehdjoafaaDoor
