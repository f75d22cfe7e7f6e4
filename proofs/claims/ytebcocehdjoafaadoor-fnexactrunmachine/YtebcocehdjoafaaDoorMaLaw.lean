/- What the exact law over RunMachine wants besides. -/
import Derived.Test.YtebcocehdjoafaaDoorMaOpen
import Derived.Test.YtebcocehdjoafaaDoorOwnMore
import Derived.Test.YtebcocehdjoafaaDoorMsRun
import Derived.Test.YtebcocehdjoafaaDoorToInts
namespace Go.Proofs.YtebcocehdjoafaaDoor
open Go.ChangeShapes Go.WideShapes Go.ChangeAt Go.RowKit
set_option linter.unusedVariables false

/-- A list that was copied can be marked. -/
theorem marksOfSteps2 {lo : Nat} {w w' : World} {v : Value} {l : List InsD} (h : ListAt lo 5 InsAt w v l) (hb : Below w.heap.size w w') : MarkAt lo w.heap.size 5 InsM w' v l.length := by
  obtain ⟨a, cap, rfl, _, hc⟩ := h
  refine ⟨a, cap, rfl, fun hp => ?_⟩
  obtain ⟨b, off, rfl, hlo, hd⟩ := hc hp
  have h0 := hd 0 l[0] (List.getElem?_eq_getElem hp)
  refine ⟨b, off, rfl, hlo, h0.lt, fun i hi => ?_⟩
  exact ((hd i l[i] (List.getElem?_eq_getElem hi)).keep (Keeps.of_below hb 0) (Nat.zero_le _)).m
theorem macN_len (l : List InsD) (k : Nat) : ∀ m : MacS, (macN wordV l k m).1.length ≤ m.told.length + k := by
  induction k with
  | zero => intro m; exact Nat.le_refl _
  | succ k ih =>
    intro m
    unfold macN
    cases hx : l[m.pc]? with
    | none => exact Nat.le_add_right _ _
    | some x =>
      dsimp only
      by_cases h11 : x.op = 11
      · rw [if_pos h11]; exact Nat.le_add_right _ _
      · have ht := told_step (i := x) (m := m) h11
        rw [if_neg h11]
        by_cases h0 : (macDo wordV x m).1 = 0
        · rw [if_pos h0]
          have := ih (macDo wordV x m).2
          omega
        · rw [if_neg h0]
          show (macDo wordV x m).2.told.length ≤ _
          omega
theorem macOf_len (l : List InsD) (reads : List Int) (fuel : Int) : (macOf wordV l reads fuel).1.length ≤ 50000 := by
  unfold macOf
  split
  · have := macN_len l (min fuel 40000).toNat (macStart reads)
    simp only [macStart, List.length_nil] at this
    unfold macStart
    omega
  · simp
theorem ownForm {w : World} {lo : Nat} {v : Value} {l : List Int} (h : OwnInts w lo v l) : ∃ p c, v = .slice p l.length c := by
  rcases h.2 with ⟨rfl, h0⟩ | ⟨g, cap, cur, rfl, _⟩
  · exact ⟨none, 0, by rw [h0]⟩
  · exact ⟨_, cap, rfl⟩
end Go.Proofs.YtebcocehdjoafaaDoor
