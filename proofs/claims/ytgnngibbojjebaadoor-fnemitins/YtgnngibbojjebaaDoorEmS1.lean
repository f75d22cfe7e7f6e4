/- Code from homes: the model's parts. -/
import Derived.Test.YtgnngibbojjebaaDoorEmDef
import Derived.Test.YtgnngibbojjebaaDoorStO
import Derived.Test.YtgnngibbojjebaaDoorEmIn
namespace Go.Proofs.YtgnngibbojjebaaDoor
open Go.ChangeShapes Go.WideShapes Go.ChangeAt Go.RowKit
set_option linter.unusedVariables false

theorem l15Home_any (h : Int) (w : World) :
    Calls Tryd.prog 36 #[.int .i64 h] w fun e w' => e = .returned (.bool (homeB h)) ∧ w' = w := by
  obtain ⟨q, HQ⟩ : ∃ q, Hid (homeB h = q) := ⟨_, rfl⟩
  rw [HQ.out]
  go_enter Tryd.func36, Tryd.ntmps36
  go_wp2_with fail
  refine (l1In_any h 0 39 _).mono ?_
  have e9 : (decide (0 ≤ h) && decide (h ≤ 39)) = q := HQ.out
  rw [e9]
  rintro e w1 ⟨rfl, hw1⟩
  subst hw1
  go_wp2
  go_ret
  exact ⟨rfl, rfl⟩
theorem l2Makes_any (op : Int) (w : World) :
    Calls Tryd.prog 37 #[.int .i64 op] w fun e w' => e = .returned (.bool (makesV op)) ∧ w' = w := by
  obtain ⟨q, HQ⟩ : ∃ q, Hid (wordOkV op = q) := ⟨_, rfl⟩
  obtain ⟨m, HM⟩ : ∃ q, Hid (makesV op = q) := ⟨_, rfl⟩
  rw [HM.out]
  have hqm : m = (q || (op == 20) || (op == 21) || (op == 24) || (op == 25)) := by
    rw [← HM.out, ← HQ.out, Bool.eq_iff_iff]
    simp [makesV, wordOkV]
    omega
  have HQM : Hid (m = (q || (op == 20) || (op == 21) || (op == 24) || (op == 25))) := hqm
  clear hqm
  cases q with
  | true =>
    go_enter Tryd.func37, Tryd.ntmps37
    go_wp2_with fail
    refine (spec_wordOk op _).mono ?_
    rw [HQ.out]
    rintro e w1 ⟨rfl, hw1⟩
    subst hw1
    go_wp2
    go_ret
    exact ⟨by rw [HQM.out]; rfl, rfl⟩
  | false =>
    by_cases h0 : op = 20
    · have e0 : (op == 20) = true := by simpa using h0
      clear h0
      go_enter Tryd.func37, Tryd.ntmps37
      go_wp2_with fail
      refine (spec_wordOk op _).mono ?_
      rw [HQ.out]
      rintro e w1 ⟨rfl, hw1⟩
      subst hw1
      go_wp2
      go_ret
      exact ⟨by rw [HQM.out, e0]; rfl, rfl⟩
    have e0 : (op == 20) = false := by simpa using h0
    by_cases h1 : op = 21
    · have e1 : (op == 21) = true := by simpa using h1
      clear h0 h1
      go_enter Tryd.func37, Tryd.ntmps37
      go_wp2_with fail
      refine (spec_wordOk op _).mono ?_
      rw [HQ.out]
      rintro e w1 ⟨rfl, hw1⟩
      subst hw1
      go_wp2
      go_ret
      exact ⟨by rw [HQM.out, e0, e1]; rfl, rfl⟩
    have e1 : (op == 21) = false := by simpa using h1
    by_cases h4 : op = 24
    · have e4 : (op == 24) = true := by simpa using h4
      clear h0 h1 h4
      go_enter Tryd.func37, Tryd.ntmps37
      go_wp2_with fail
      refine (spec_wordOk op _).mono ?_
      rw [HQ.out]
      rintro e w1 ⟨rfl, hw1⟩
      subst hw1
      go_wp2
      go_ret
      exact ⟨by rw [HQM.out, e0, e1, e4]; rfl, rfl⟩
    have e4 : (op == 24) = false := by simpa using h4
    clear h0 h1 h4
    go_enter Tryd.func37, Tryd.ntmps37
    go_wp2_with fail
    refine (spec_wordOk op _).mono ?_
    rw [HQ.out]
    rintro e w1 ⟨rfl, hw1⟩
    subst hw1
    go_wp2
    go_ret
    exact ⟨by rw [HQM.out, e0, e1, e4]; rfl, rfl⟩

/-- What a home has is taken. -/
def GivesTake (w : World) (l : List InsD) (r : Int) (e : Ending) (w' : World) : Prop := ∃ a c, e = .returned (.tuple #[.slice a l.length c, .int .i64 r]) ∧ OwnSteps w' w.heap.size (.slice a l.length c) l ∧ Below w.heap.size w w'
theorem ownSteps_one (w : World) (x0 x1 x2 x3 x4 : Int) : OwnSteps (w.alloc (.cells #[.int .i64 x0, .int .i64 x1, .int .i64 x2, .int .i64 x3, .int .i64 x4] 32)) w.heap.size (.slice (some ⟨w.heap.size, 0, none⟩) 1 1) [⟨x0, x1, x2, x3, x4⟩] :=
  ⟨by simp [stC], .inr ⟨w.heap.size, 1, _, rfl, Nat.le_refl _, World.alloc_heap_new w _, Nat.le_refl _, by decide, rfl, by simp [stC]⟩⟩
theorem l15Take_any (h way : Int) (w : World) (hh : homeB h = true) :
    Calls Tryd.prog 38 #[.int .i64 h, .int .i64 way] w fun e w' => GivesTake w (takeL h way) (takeR h way) e w' := by
  have hb := homeB_iff.1 hh
  by_cases h4 : 4 ≤ h
  · have hlt : ¬ h < 4 := by omega
    have e9 : takeL h way = [⟨3, way, 0, 0, h - 4⟩] := by unfold takeL; rw [if_pos h4]
    have e8 : takeR h way = way := by unfold takeR; rw [if_pos h4]
    rw [e9, e8]
    clear e9 e8
    go_enter Tryd.func38, Tryd.ntmps38
    go_wp2
    go_ret2
    exact ⟨_, _, rfl, ownSteps_one w 3 way 0 0 (h - 4), by repeat (first | exact Below.refl _ _ | apply Below.drew | refine Below.alloc ?_ (by simp <;> omega) _ | refine Below.setCell ?_ (by simp <;> omega) _)⟩
  · have hlt : h < 4 := by omega
    have e9 : takeL h way = [] := by unfold takeL; rw [if_neg h4]
    have e8 : takeR h way = h := by unfold takeR; rw [if_neg h4]
    rw [e9, e8]
    clear e9 e8
    go_enter Tryd.func38, Tryd.ntmps38
    go_wp2
    go_ret2
    exact ⟨_, _, rfl, ownSteps_new (World.alloc_heap_new w _) (Nat.le_refl _), by repeat (first | exact Below.refl _ _ | apply Below.drew | refine Below.alloc ?_ (by simp <;> omega) _ | refine Below.setCell ?_ (by simp <;> omega) _)⟩
end Go.Proofs.YtgnngibbojjebaaDoor
