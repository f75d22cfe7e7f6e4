/- All that is wanted of l1In. Code from homes: the model's parts. Code from homes: the model gives to a home, and copies. Code from homes: the model's EmitIns. -/
import Derived.Test.YtkejplddeelahaaGreatDoorKMa
import Derived.Test.YtkejplddeelahaaGreatDoorKEmA
import Derived.Test.YtkejplddeelahaaGreatDoorKSt
namespace Go.Proofs.YtkejplddeelahaaGreatDoor
end Go.Proofs.YtkejplddeelahaaGreatDoor

namespace Go.Proofs.YtkejplddeelahaaGreatDoor
open Go.ChangeShapes Go.WideShapes Go.ChangeAt Go.RowKit
set_option linter.unusedVariables false

theorem l15Home_any (h : Int) (w : World) :
    Calls Tryz.prog 100 #[.int .i64 h] w fun e w' => e = .returned (.bool (homeB h)) ∧ w' = w := by
  obtain ⟨q, HQ⟩ : ∃ q, Hid (homeB h = q) := ⟨_, rfl⟩
  rw [HQ.out]
  go_enter Tryz.func100, Tryz.ntmps100
  go_wp2_with fail
  refine (l1In_any h 0 39 _).mono ?_
  have e9 : (decide (0 ≤ h) && decide (h ≤ 39)) = q := HQ.out
  rw [e9]
  rintro e w1 ⟨rfl, hw1⟩
  subst hw1
  go_wp2
  go_ret
  exact ⟨rfl, rfl⟩
theorem l2Makes_any (op : Int) (w : World) :
    Calls Tryz.prog 101 #[.int .i64 op] w fun e w' => e = .returned (.bool (makesV op)) ∧ w' = w := by
  obtain ⟨q, HQ⟩ : ∃ q, Hid (wordOkV op = q) := ⟨_, rfl⟩
  obtain ⟨m, HM⟩ : ∃ q, Hid (makesV op = q) := ⟨_, rfl⟩
  rw [HM.out]
  have hqm : m = (q || (op == 20) || (op == 21) || (op == 24) || (op == 25)) := by
    rw [← HM.out, ← HQ.out, Bool.eq_iff_iff]
    simp [makesV, wordOkV]
    omega
  have HQM : Hid (m = (q || (op == 20) || (op == 21) || (op == 24) || (op == 25))) := hqm
  clear hqm
  cases q with
  | true =>
    go_enter Tryz.func101, Tryz.ntmps101
    go_wp2_with fail
    refine (spec_wordOk op _).mono ?_
    rw [HQ.out]
    rintro e w1 ⟨rfl, hw1⟩
    subst hw1
    go_wp2
    go_ret
    exact ⟨by rw [HQM.out]; rfl, rfl⟩
  | false =>
    by_cases h0 : op = 20
    · have e0 : (op == 20) = true := by simpa using h0
      clear h0
      go_enter Tryz.func101, Tryz.ntmps101
      go_wp2_with fail
      refine (spec_wordOk op _).mono ?_
      rw [HQ.out]
      rintro e w1 ⟨rfl, hw1⟩
      subst hw1
      go_wp2
      go_ret
      exact ⟨by rw [HQM.out, e0]; rfl, rfl⟩
    have e0 : (op == 20) = false := by simpa using h0
    by_cases h1 : op = 21
    · have e1 : (op == 21) = true := by simpa using h1
      clear h0 h1
      go_enter Tryz.func101, Tryz.ntmps101
      go_wp2_with fail
      refine (spec_wordOk op _).mono ?_
      rw [HQ.out]
      rintro e w1 ⟨rfl, hw1⟩
      subst hw1
      go_wp2
      go_ret
      exact ⟨by rw [HQM.out, e0, e1]; rfl, rfl⟩
    have e1 : (op == 21) = false := by simpa using h1
    by_cases h4 : op = 24
    · have e4 : (op == 24) = true := by simpa using h4
      clear h0 h1 h4
      go_enter Tryz.func101, Tryz.ntmps101
      go_wp2_with fail
      refine (spec_wordOk op _).mono ?_
      rw [HQ.out]
      rintro e w1 ⟨rfl, hw1⟩
      subst hw1
      go_wp2
      go_ret
      exact ⟨by rw [HQM.out, e0, e1, e4]; rfl, rfl⟩
    have e4 : (op == 24) = false := by simpa using h4
    clear h0 h1 h4
    go_enter Tryz.func101, Tryz.ntmps101
    go_wp2_with fail
    refine (spec_wordOk op _).mono ?_
    rw [HQ.out]
    rintro e w1 ⟨rfl, hw1⟩
    subst hw1
    go_wp2
    go_ret
    exact ⟨by rw [HQM.out, e0, e1, e4]; rfl, rfl⟩

/-- What a home has is taken. -/
def GivesTake (w : World) (l : List InsD) (r : Int) (e : Ending) (w' : World) : Prop := ∃ a c, e = .returned (.tuple #[.slice a l.length c, .int .i64 r]) ∧ OwnSteps w' w.heap.size (.slice a l.length c) l ∧ Below w.heap.size w w'
theorem ownSteps_one (w : World) (x0 x1 x2 x3 x4 : Int) : OwnSteps (w.alloc (.cells #[.int .i64 x0, .int .i64 x1, .int .i64 x2, .int .i64 x3, .int .i64 x4] 46)) w.heap.size (.slice (some ⟨w.heap.size, 0, none⟩) 1 1) [⟨x0, x1, x2, x3, x4⟩] :=
  ⟨by simp [stC], .inr ⟨w.heap.size, 1, _, rfl, Nat.le_refl _, World.alloc_heap_new w _, Nat.le_refl _, by decide, rfl, by simp [stC]⟩⟩
theorem l15Take_any (h way : Int) (w : World) (hh : homeB h = true) :
    Calls Tryz.prog 102 #[.int .i64 h, .int .i64 way] w fun e w' => GivesTake w (takeL h way) (takeR h way) e w' := by
  have hb := homeB_iff.1 hh
  by_cases h4 : 4 ≤ h
  · have hlt : ¬ h < 4 := by omega
    have e9 : takeL h way = [⟨3, way, 0, 0, h - 4⟩] := by unfold takeL; rw [if_pos h4]
    have e8 : takeR h way = way := by unfold takeR; rw [if_pos h4]
    rw [e9, e8]
    clear e9 e8
    go_enter Tryz.func102, Tryz.ntmps102
    go_wp2
    go_ret2
    exact ⟨_, _, rfl, ownSteps_one w 3 way 0 0 (h - 4), by repeat (first | exact Below.refl _ _ | apply Below.drew | refine Below.alloc ?_ (by simp <;> omega) _ | refine Below.setCell ?_ (by simp <;> omega) _)⟩
  · have hlt : h < 4 := by omega
    have e9 : takeL h way = [] := by unfold takeL; rw [if_neg h4]
    have e8 : takeR h way = h := by unfold takeR; rw [if_neg h4]
    rw [e9, e8]
    clear e9 e8
    go_enter Tryz.func102, Tryz.ntmps102
    go_wp2
    go_ret2
    exact ⟨_, _, rfl, ownSteps_new (World.alloc_heap_new w _) (Nat.le_refl _), by repeat (first | exact Below.refl _ _ | apply Below.drew | refine Below.alloc ?_ (by simp <;> omega) _ | refine Below.setCell ?_ (by simp <;> omega) _)⟩
end Go.Proofs.YtkejplddeelahaaGreatDoor

namespace Go.Proofs.YtkejplddeelahaaGreatDoor
open Go.ChangeShapes Go.WideShapes Go.ChangeAt Go.RowKit
set_option linter.unusedVariables false

theorem stepsAt_ein (w : World) (x0 x1 x2 x3 x4 : Int) : StepsAt (w.alloc (.cells #[.int .i64 x0, .int .i64 x1, .int .i64 x2, .int .i64 x3, .int .i64 x4] 46)) (.slice (some ⟨w.heap.size, 0, none⟩) 1 1) [⟨x0, x1, x2, x3, x4⟩] := (ownSteps_one w x0 x1 x2 x3 x4).at
theorem ownSteps_two (w : World) (x0 x1 x2 x3 x4 y0 y1 y2 y3 y4 : Int) : OwnSteps (w.alloc (.cells #[.int .i64 x0, .int .i64 x1, .int .i64 x2, .int .i64 x3, .int .i64 x4, .int .i64 y0, .int .i64 y1, .int .i64 y2, .int .i64 y3, .int .i64 y4] 46)) w.heap.size (.slice (some ⟨w.heap.size, 0, none⟩) 2 2) [⟨x0, x1, x2, x3, x4⟩, ⟨y0, y1, y2, y3, y4⟩] :=
  ⟨by simp [stC], .inr ⟨w.heap.size, 2, _, rfl, Nat.le_refl _, World.alloc_heap_new w _, Nat.le_refl _, by decide, rfl, by simp [stC]⟩⟩
/-- A list of the call's own that grew. -/
def GivesIn (lo : Nat) (w : World) (l : List InsD) (e : Ending) (w' : World) : Prop := ∃ v, e = .returned v ∧ OwnSteps w' lo v l ∧ Below lo w w'

set_option maxRecDepth 100000 in
set_option maxHeartbeats 1000000 in
theorem l15Give_any (lo : Nat) (v : Value) (l : List InsD) (op r0 a b n h : Int) (w : World) (hv : OwnSteps w lo v l) (hlo : lo ≤ w.heap.size) (hn : l.length ≤ 1000000) (hh : homeB h = true) :
    Calls Tryz.prog 103 #[v, .agg #[.int .i64 op, .int .i64 r0, .int .i64 a, .int .i64 b, .int .i64 n], .int .i64 h] w fun e w' => GivesIn lo w (l ++ giveL h op a b n) e w' := by
  have hb := homeB_iff.1 hh
  obtain ⟨w0, hw0⟩ : ∃ W, w.alloc (.cells #[.int .i64 op, .int .i64 r0, .int .i64 a, .int .i64 b, .int .i64 n] 46) = W := ⟨_, rfl⟩
  have HB0 : Hid (Below w.heap.size w w0) := by show Below _ _ _; rw [← hw0]; exact Bel.alloc _ _
  have HX0 : Hid (w0.heap[w.heap.size]? = some (.cells #[.int .i64 op, .int .i64 r0, .int .i64 a, .int .i64 b, .int .i64 n] 46 (0, 0))) := by show _ = _; rw [← hw0]; exact World.alloc_heap_new _ _
  obtain ⟨r, HRR⟩ : ∃ r, Hid (takeR h 6 = r) := ⟨_, rfl⟩
  obtain ⟨w1, hw1⟩ : ∃ W, w0.setCell ⟨w.heap.size, 1, none⟩ (.int .i64 r) = W := ⟨_, rfl⟩
  have HX1 : Hid (w1.heap[w.heap.size]? = some (.cells #[.int .i64 op, .int .i64 r, .int .i64 a, .int .i64 b, .int .i64 n] 46 (0, 0))) := by
    show _ = _
    rw [← hw1]
    have h9 := HX0.out
    simp [World.setCell, Array.getElem?_modify, h9]
  have HB1 : Hid (Below w.heap.size w w1) := by show Below _ _ _; rw [← hw1]; exact HB0.out.setCell (p := ⟨w.heap.size, 1, none⟩) (Nat.le_refl _) _
  have HS1 : Hid (w.heap.size ≤ w1.heap.size) := HB1.out.size
  have HV1 : Hid (OwnSteps w1 lo v l) := hv.keep HB1.out
  obtain ⟨va, vn, vc, hvv⟩ : ∃ a n c, v = .slice a n c := by obtain ⟨a, c, e, _⟩ := hv.row; exact ⟨a, _, c, e⟩
  subst hvv
  have q0 : w1.cell? ⟨w.heap.size, 0, none⟩ = some (.int .i64 op) := by simp [World.cell?, HX1.out]
  have q1 : w1.cell? ⟨w.heap.size, 1, none⟩ = some (.int .i64 r) := by simp [World.cell?, HX1.out]
  have q2 : w1.cell? ⟨w.heap.size, 2, none⟩ = some (.int .i64 a) := by simp [World.cell?, HX1.out]
  have q3 : w1.cell? ⟨w.heap.size, 3, none⟩ = some (.int .i64 b) := by simp [World.cell?, HX1.out]
  have q4 : w1.cell? ⟨w.heap.size, 4, none⟩ = some (.int .i64 n) := by simp [World.cell?, HX1.out]
  have p1 : w0.cell? ⟨w.heap.size, 1, none⟩ = some (.int .i64 r0) := by simp [World.cell?, HX0.out]
  have g1 : w0.frozen? ⟨w.heap.size, 1, none⟩ = false := by simp [World.frozen?, HX0.out]
  clear hv
  by_cases h4 : 4 ≤ h
  · have hlt : ¬ h < 4 := by omega
    have e6 : r = 6 := by rw [← HRR.out]; unfold takeR; rw [if_pos h4]
    subst e6
    have HE9 : Hid (l ++ giveL h op a b n = l ++ [⟨op, 6, a, b, n⟩, ⟨4, 0, 6, 0, h - 4⟩]) := by show _ = _; unfold giveL; rw [if_pos h4]
    obtain ⟨v', w2, hrun, ho2, hg2, _⟩ := add_steps lo (.slice va vn vc) (.slice (some ⟨w1.heap.size, 0, none⟩) 2 2) l [⟨op, 6, a, b, n⟩, ⟨4, 0, 6, 0, h - 4⟩] (w1.alloc (.cells #[.int .i64 op, .int .i64 6, .int .i64 a, .int .i64 b, .int .i64 n, .int .i64 4, .int .i64 0, .int .i64 6, .int .i64 0, .int .i64 (h - 4)] 46)) (HV1.out.keep (Bel.alloc _ _)) (by have := HS1.out; simp; omega) (ownSteps_two w1 op 6 a b n 4 0 6 0 (h - 4)).at (by simp; omega) 28
    have HRUN : Hid (∀ ty, (Builtin.append_ #[28, 28] ty #[.slice va vn vc, .slice (some ⟨w1.heap.size, 0, none⟩) 2 2]).run Tryz.prog (w1.alloc (.cells #[.int .i64 op, .int .i64 6, .int .i64 a, .int .i64 b, .int .i64 n, .int .i64 4, .int .i64 0, .int .i64 6, .int .i64 0, .int .i64 (h - 4)] 46)) = .ok v' w2) := fun ty => hrun
    have HO2 : Hid (OwnSteps w2 lo v' (l ++ [⟨op, 6, a, b, n⟩, ⟨4, 0, 6, 0, h - 4⟩])) := ho2
    have HB2 : Hid (Below lo w w2) := ((HB1.out.mono hlo).alloc (by have := HS1.out; omega) _).trans ((HV1.out.keep (Bel.alloc _ _)).under (by have := HS1.out; simp; omega) hg2)
    clear hrun ho2 hg2
    go_enter Tryz.func103, Tryz.ntmps103
    go_wp2_with (at_builtin; refine wpList_appendS _ rfl _ _ 28 28 rfl _ _ _ _ rfl rfl (HRUN.out _) ?_)
    go_ret
    exact ⟨_, rfl, by rw [HE9.out]; exact HO2.out, HB2.out⟩
  · have hlt : h < 4 := by omega
    have e6 : r = h := by rw [← HRR.out]; unfold takeR; rw [if_neg h4]
    subst e6
    have HE9 : Hid (l ++ giveL r op a b n = l ++ [⟨op, r, a, b, n⟩]) := by show _ = _; unfold giveL; rw [if_neg h4]
    obtain ⟨v', w2, hrun, ho2, hg2, _⟩ := add_steps lo (.slice va vn vc) (.slice (some ⟨w1.heap.size, 0, none⟩) 1 1) l [⟨op, r, a, b, n⟩] (w1.alloc (.cells #[.int .i64 op, .int .i64 r, .int .i64 a, .int .i64 b, .int .i64 n] 46)) (HV1.out.keep (Bel.alloc _ _)) (by have := HS1.out; simp; omega) (ownSteps_one w1 op r a b n).at (by simp; omega) 28
    have HRUN : Hid (∀ ty, (Builtin.append_ #[28, 28] ty #[.slice va vn vc, .slice (some ⟨w1.heap.size, 0, none⟩) 1 1]).run Tryz.prog (w1.alloc (.cells #[.int .i64 op, .int .i64 r, .int .i64 a, .int .i64 b, .int .i64 n] 46)) = .ok v' w2) := fun ty => hrun
    have HO2 : Hid (OwnSteps w2 lo v' (l ++ [⟨op, r, a, b, n⟩])) := ho2
    have HB2 : Hid (Below lo w w2) := ((HB1.out.mono hlo).alloc (by have := HS1.out; omega) _).trans ((HV1.out.keep (Bel.alloc _ _)).under (by have := HS1.out; simp; omega) hg2)
    clear hrun ho2 hg2
    go_enter Tryz.func103, Tryz.ntmps103
    go_wp2_with (at_builtin; refine wpList_appendS _ rfl _ _ 28 28 rfl _ _ _ _ rfl rfl (HRUN.out _) ?_)
    go_ret
    exact ⟨_, rfl, by rw [HE9.out]; exact HO2.out, HB2.out⟩

set_option maxRecDepth 100000 in
set_option maxHeartbeats 1000000 in
theorem l15Copy_any (op d a b n : Int) (w : World) (hd : homeB d = true) (ha : homeB a = true) :
    Calls Tryz.prog 104 #[.agg #[.int .i64 op, .int .i64 d, .int .i64 a, .int .i64 b, .int .i64 n]] w fun e w' => GivesSteps w (copyL d a) e w' := by
  have hdb := homeB_iff.1 hd
  have hab := homeB_iff.1 ha
  obtain ⟨w0, hw0⟩ : ∃ W, w.alloc (.cells #[.int .i64 op, .int .i64 d, .int .i64 a, .int .i64 b, .int .i64 n] 78) = W := ⟨_, rfl⟩
  have HB0 : Hid (Below w.heap.size w w0) := by show Below _ _ _; rw [← hw0]; exact Bel.alloc _ _
  have HX0 : Hid (w0.heap[w.heap.size]? = some (.cells #[.int .i64 op, .int .i64 d, .int .i64 a, .int .i64 b, .int .i64 n] 78 (0, 0))) := by show _ = _; rw [← hw0]; exact World.alloc_heap_new _ _
  have c1 : w0.cell? ⟨w.heap.size, 1, none⟩ = some (.int .i64 d) := by simp [World.cell?, HX0.out]
  have c2 : w0.cell? ⟨w.heap.size, 2, none⟩ = some (.int .i64 a) := by simp [World.cell?, HX0.out]
  by_cases h4 : 4 ≤ d
  · have hlt : ¬ d < 4 := by omega
    obtain ⟨r, HRR⟩ : ∃ r, Hid (takeR a 4 = r) := ⟨_, rfl⟩
    obtain ⟨T, HTT⟩ : ∃ T, Hid (takeL a 4 = T) := ⟨_, rfl⟩
    have HE9 : Hid (copyL d a = T ++ [⟨4, 0, r, 0, d - 4⟩]) := by show _ = _; unfold copyL; rw [if_pos h4, HTT.out, HRR.out]
    have hTl : T.length ≤ 1 := by rw [← HTT.out]; exact takeL_len a 4
    go_enter Tryz.func104, Tryz.ntmps104
    go_wp2_with fail
    try rw [hw0]
    refine (l15Take_any a 4 _ ha).mono ?_
    rw [HRR.out, HTT.out]
    rintro e w1 ⟨ta, tc, rfl, ot, b1⟩
    have HO1 : Hid (OwnSteps w1 w0.heap.size (.slice ta T.length tc) T) := ot
    have HB1 : Hid (Below w.heap.size w w1) := Bel.after HB0.out b1
    have d1 := Bel.keeps b1 c1
    have HS01 : Hid (w.heap.size ≤ w0.heap.size) := HB0.out.size
    have HS1 : Hid (w0.heap.size ≤ w1.heap.size) := b1.size
    clear ot b1 c1 c2 hw0
    obtain ⟨tl, HTL⟩ : ∃ tl, Hid (T.length = tl) := ⟨_, rfl⟩
    rw [HTL.out] at HO1 hTl ⊢
    obtain ⟨v', w2, hrun, ho2, hg2, _⟩ := add_steps w0.heap.size (.slice ta tl tc) (.slice (some ⟨w1.heap.size, 0, none⟩) 1 1) T [⟨4, 0, r, 0, d - 4⟩] (w1.alloc (.cells #[.int .i64 4, .int .i64 0, .int .i64 r, .int .i64 0, .int .i64 (d - 4)] 46)) (HO1.out.keep (Bel.alloc _ _)) (by have := HS1.out; simp; omega) (ownSteps_one w1 4 0 r 0 (d - 4)).at (by have := HTL.out; simp; omega) 28
    have HRUN : Hid (∀ ty, (Builtin.append_ #[28, 28] ty #[.slice ta tl tc, .slice (some ⟨w1.heap.size, 0, none⟩) 1 1]).run Tryz.prog (w1.alloc (.cells #[.int .i64 4, .int .i64 0, .int .i64 r, .int .i64 0, .int .i64 (d - 4)] 46)) = .ok v' w2) := fun ty => hrun
    have HO2 : Hid (OwnSteps w2 w.heap.size v' (T ++ [⟨4, 0, r, 0, d - 4⟩])) := ho2.low HS01.out
    have HB2 : Hid (Below w.heap.size w w2) := (HB1.out.alloc (by have := HS1.out; have := HS01.out; omega) _).trans (((HO1.out.keep (Bel.alloc _ _)).under (by have := HS1.out; simp; omega) hg2).mono HS01.out)
    clear hrun ho2 hg2
    go_wp2_with (at_builtin; refine wpList_appendS _ rfl _ _ 28 28 rfl _ _ _ _ rfl rfl (HRUN.out _) ?_)
    go_ret
    exact ⟨_, rfl, by rw [HE9.out]; exact HO2.out, HB2.out⟩
  · have hlt : d < 4 := by omega
    by_cases h5 : 4 ≤ a
    · have hlt5 : ¬ a < 4 := by omega
      have HE9 : Hid (copyL d a = [⟨3, d, 0, 0, a - 4⟩]) := by show _ = _; unfold copyL; rw [if_neg h4, if_pos h5]
      go_enter Tryz.func104, Tryz.ntmps104
      go_wp2
      go_ret
      exact ⟨_, rfl, by rw [HE9.out]; exact (ownSteps_one w0 3 d 0 0 (a - 4)).low HB0.out.size, Bel.after HB0.out (Bel.alloc _ _)⟩
    · have hlt5 : a < 4 := by omega
      have HE9 : Hid (copyL d a = [⟨2, d, a, 0, 0⟩]) := by show _ = _; unfold copyL; rw [if_neg h4, if_neg h5]
      go_enter Tryz.func104, Tryz.ntmps104
      go_wp2
      go_ret
      exact ⟨_, rfl, by rw [HE9.out]; exact (ownSteps_one w0 2 d a 0 0).low HB0.out.size, Bel.after HB0.out (Bel.alloc _ _)⟩
end Go.Proofs.YtkejplddeelahaaGreatDoor

namespace Go.Proofs.YtkejplddeelahaaGreatDoor
open Go.ChangeShapes Go.WideShapes Go.ChangeAt Go.RowKit
set_option linter.unusedVariables false

theorem hX_uS {op d a b n : Int} (h : homesX ⟨op, d, a, b, n⟩ = true) : ∀ z ∈ usesV op a b, homeB z = true := by
  unfold homesX at h
  rw [Bool.and_eq_true, List.all_eq_true] at h
  exact h.2
theorem hXs {op d a b n : Int} (h : homesX ⟨op, d, a, b, n⟩ = true) : emitX ⟨op, d, a, b, n⟩ = stepsX ⟨op, d, a, b, n⟩ := by unfold emitX; rw [h]; rfl
theorem hXno {op d a b n : Int} (h : homesX ⟨op, d, a, b, n⟩ = false) : emitX ⟨op, d, a, b, n⟩ = [] := by unfold emitX; rw [h]; rfl

set_option maxRecDepth 100000 in
set_option maxHeartbeats 8000000 in
theorem spec_emitIns (op d a b n : Int) (w : World) :
    Calls Tryz.prog 51 #[.agg #[.int .i64 op, .int .i64 d, .int .i64 a, .int .i64 b, .int .i64 n]] w fun e w' => GivesSteps w (emitX ⟨op, d, a, b, n⟩) e w' := by
  obtain ⟨w0, hw0⟩ : ∃ W, (w.alloc (.cells #[.int .i64 op, .int .i64 d, .int .i64 a, .int .i64 b, .int .i64 n] 78)).alloc (.cells #[] 46) = W := ⟨_, rfl⟩
  have HB0 : Hid (Below w.heap.size w w0) := by show Below _ _ _; rw [← hw0]; repeat (first | exact Below.refl _ _ | apply Below.drew | refine Below.alloc ?_ (by simp <;> omega) _ | refine Below.setCell ?_ (by simp <;> omega) _)
  have HX0 : Hid (w0.heap[w.heap.size]? = some (.cells #[.int .i64 op, .int .i64 d, .int .i64 a, .int .i64 b, .int .i64 n] 78 (0, 0))) := by show _ = _; rw [← hw0, Below.heap_alloc _ _ _ (by simp)]; exact World.alloc_heap_new _ _
  have HN0 : Hid (OwnSteps w0 w.heap.size (.slice (some ⟨w.heap.size + 1, 0, none⟩) 0 0) []) := by
    refine ownSteps_new ?_ (by omega)
    have h := World.alloc_heap_new (w.alloc (.cells #[.int .i64 op, .int .i64 d, .int .i64 a, .int .i64 b, .int .i64 n] 78)) (.cells #[] 46)
    rw [World.size_alloc, hw0] at h
    exact h
  obtain ⟨L, HL⟩ : ∃ L, Hid (emitX ⟨op, d, a, b, n⟩ = L) := ⟨_, rfl⟩
  obtain ⟨U, HU⟩ : ∃ U, Hid (usesV op a b = U) := ⟨_, rfl⟩
  rw [HL.out]
  have z0 : w0.cell? ⟨w.heap.size, 0, none⟩ = some (.int .i64 op) := by simp [World.cell?, HX0.out]
  have z1 : w0.cell? ⟨w.heap.size, 1, none⟩ = some (.int .i64 d) := by simp [World.cell?, HX0.out]
  have z2 : w0.cell? ⟨w.heap.size, 2, none⟩ = some (.int .i64 a) := by simp [World.cell?, HX0.out]
  have z3 : w0.cell? ⟨w.heap.size, 3, none⟩ = some (.int .i64 b) := by simp [World.cell?, HX0.out]
  have z4 : w0.cell? ⟨w.heap.size, 4, none⟩ = some (.int .i64 n) := by simp [World.cell?, HX0.out]
  go_enter Tryz.func51, Tryz.ntmps51
  go_wp2_with fail
  try rw [hw0]
  clear hw0 z0 z1 z2 z3 z4
  refine (spec_insUses op d a b n _).mono ?_
  rw [HU.out]
  rintro e w1 ⟨u, k0, rfl, _, hr, b1⟩
  have HB1 : Hid (Below w.heap.size w w1) := Bel.after HB0.out b1
  have HX1 : Hid (w1.heap[w.heap.size]? = some (.cells #[.int .i64 op, .int .i64 d, .int .i64 a, .int .i64 b, .int .i64 n] 78 (0, 0))) := (b1.block _ (Array.getElem?_eq_some_iff.1 HX0.out).1).trans HX0.out
  have HN1 : Hid (OwnSteps w1 w.heap.size (.slice (some ⟨w.heap.size + 1, 0, none⟩) 0 0) []) := HN0.out.keep b1
  have HI1 : Hid (IntsAt w1 u U) := hr.at
  obtain ⟨ua, uc, hua⟩ := intsAt_form hr.at
  obtain ⟨m, HM⟩ : ∃ m, Hid (U.length = m) := ⟨_, rfl⟩
  rw [HM.out] at hua
  subst hua
  have HS1 : Hid (w.heap.size ≤ w1.heap.size) := HB1.out.size
  have hm9 : m ≤ 2 := by
    rw [← HM.out, ← HU.out]
    rcases usesV_forms op a b with e | e | e <;> rw [e] <;> simp
  clear hr b1
  go_wp2_with fail
  go_loopw [5] (fun i wr => ∃ k : Nat, k ≤ m ∧ i = .int .i64 k ∧ wr = w1 ∧ (∀ j x, j < k → U[j]? = some x → homeB x = true)) (fun i _ => m - (intOf i).toNat)
  case atStart => exact ⟨0, Nat.zero_le _, rfl, rfl, fun j x hj => absurd hj (by omega)⟩
  case round =>
    obtain ⟨k, hk, rfl, rfl, hin⟩ := hrel
    have HIN : Hid (∀ j x, j < k → U[j]? = some x → homeB x = true) := hin
    clear hin
    by_cases hlt : (k : Int) < (m : Int)
    · obtain ⟨x, HX⟩ : ∃ x, Hid (U[k]? = some x) := ⟨U[k]'(by have := HM.out; omega), List.getElem?_eq_getElem _⟩
      obtain ⟨sb, soff, rfl, hz⟩ := intsAt_cell HI1.out HX.out
      obtain ⟨t, HT⟩ : ∃ t, Hid (homeB x = t) := ⟨_, rfl⟩
      go_wp2_with fail
      refine (l15Home_any x _).mono ?_
      rw [HT.out]
      rintro e w2 ⟨rfl, hw2⟩
      subst hw2
      cases t with
      | false =>
        have hL : ([] : List InsD) = L := by
          rw [← HL.out]
          refine (hXno ?_).symm
          cases e9 : homesX ⟨op, d, a, b, n⟩ with
          | false => rfl
          | true =>
            have h9 := hX_uS e9 x (by rw [HU.out]; exact List.mem_of_getElem? HX.out)
            rw [HT.out] at h9
            cases h9
        go_wp2
        go_ret
        exact ⟨_, rfl, by rw [← hL]; exact HN1.out, HB1.out⟩
      | true =>
        go_wp2
        go_roundw
        case rel =>
          refine ⟨k + 1, by omega, by go_num, (by first | rfl | trivial), fun j y hj hy => ?_⟩
          by_cases hjk : j = k
          · subst hjk
            have e := HX.out.symm.trans hy
            simp only [Option.some.injEq] at e
            subst e
            exact HT.out
          · exact HIN.out j y (by omega) hy
        case measure => simp [intOf]; omega
    · have hkm : k = m := by omega
      subst hkm
      have HALL : Hid (∀ z ∈ usesV op a b, homeB z = true) := fun z hz => by
        rw [HU.out] at hz
        obtain ⟨j, hj⟩ := List.getElem?_of_mem hz
        exact HIN.out j z (by have h8 := (List.getElem?_eq_some_iff.1 hj).1; have := HM.out; omega) hj
      clear HIN
      obtain ⟨q, HQ⟩ : ∃ q, Hid (makesV op = q) := ⟨_, rfl⟩
      obtain ⟨t, HT⟩ : ∃ t, Hid (homeB d = t) := ⟨_, rfl⟩
      have c0 : wr.cell? ⟨w.heap.size, 0, none⟩ = some (.int .i64 op) := by simp [World.cell?, HX1.out]
      have c1 : wr.cell? ⟨w.heap.size, 1, none⟩ = some (.int .i64 d) := by simp [World.cell?, HX1.out]
      have c2 : wr.cell? ⟨w.heap.size, 2, none⟩ = some (.int .i64 a) := by simp [World.cell?, HX1.out]
      have c3 : wr.cell? ⟨w.heap.size, 3, none⟩ = some (.int .i64 b) := by simp [World.cell?, HX1.out]
      have c4 : wr.cell? ⟨w.heap.size, 4, none⟩ = some (.int .i64 n) := by simp [World.cell?, HX1.out]
      go_wp2_with fail
      refine (l2Makes_any op _).mono ?_
      rw [HQ.out]
      rintro e w2 ⟨rfl, hw2⟩
      subst hw2
      cases q with
      | true =>
        go_wp2_with fail
        refine (l15Home_any d _).mono ?_
        rw [HT.out]
        rintro e w3 ⟨rfl, hw3⟩
        subst hw3
        cases t with
        | false =>
          have hL : ([] : List InsD) = L := by
            rw [← HL.out]
            refine (hXno ?_).symm
            unfold homesX
            dsimp only
            rw [HQ.out, HT.out]
            rfl
          go_wp2
          go_ret
          exact ⟨_, rfl, by rw [← hL]; exact HN1.out, HB1.out⟩
        | true =>
          have HST : Hid (stepsX ⟨op, d, a, b, n⟩ = L) := by
            show _ = _
            rw [← HL.out]
            refine (hXs ?_).symm
            unfold homesX
            dsimp only
            rw [HQ.out, HT.out, Bool.and_eq_true, List.all_eq_true]
            exact ⟨rfl, HALL.out⟩
          by_cases h0 : op = 20
          · subst h0
            have hk0 : k = 0 := by have := HM.out; rw [← HU.out] at this; simp [usesV] at this; omega
            subst hk0
            have HE9 : Hid (([] : List InsD) ++ giveL d 1 0 0 n = L) := by show _ = _; rw [← HST.out]; rfl
            go_wp2_with fail
            refine (l15Give_any w.heap.size (.slice (some ⟨w.heap.size + 1, 0, none⟩) 0 0) [] 1 0 0 0 n d _ HN1.out HS1.out (by simp) HT.out).mono ?_
            rintro e w9 ⟨v9, rfl, o9, b9⟩
            have HO9 : Hid (OwnSteps w9 w.heap.size v9 L) := by show OwnSteps _ _ _ _; rw [← HE9.out]; exact o9
            have HB9 : Hid (Below w.heap.size w w9) := HB1.out.trans b9
            clear o9 b9
            go_wp2
            go_ret
            exact ⟨_, rfl, HO9.out, HB9.out⟩
          have e0 : (op == 20) = false := by simpa using h0
          by_cases h1 : op = 21
          · clear e0 h0
            subst h1
            have hk0 : k = 1 := by have := HM.out; rw [← HU.out] at this; simp [usesV] at this; omega
            subst hk0
            obtain ⟨r, HRR⟩ : ∃ r, Hid (takeR a 4 = r) := ⟨_, rfl⟩
            obtain ⟨TA, HTA⟩ : ∃ T, Hid (takeL a 4 = T) := ⟨_, rfl⟩
            have HE9 : Hid (TA ++ giveL d 5 r 0 0 = L) := by show _ = _; rw [← HST.out, ← HTA.out, ← HRR.out]; rfl
            go_wp2_with fail
            refine (l15Take_any a 4 _ (HALL.out a (by simp [usesV]))).mono ?_
            rw [HRR.out, HTA.out]
            rintro e w4 ⟨ta, tc, rfl, ot, b4⟩
            have HO4 : Hid (OwnSteps w4 w.heap.size (.slice ta TA.length tc) TA) := ot.low HS1.out
            have HB4 : Hid (Below w.heap.size w w4) := Bel.after HB1.out b4
            have HN4 : Hid (OwnSteps w4 w.heap.size (.slice (some ⟨w.heap.size + 1, 0, none⟩) 0 0) []) := HN1.out.keep b4
            have hx4 := (b4.block _ (Array.getElem?_eq_some_iff.1 HX1.out).1).trans HX1.out
            have d0 : w4.cell? ⟨w.heap.size, 0, none⟩ = some (.int .i64 21) := by simp [World.cell?, hx4]
            have d1 : w4.cell? ⟨w.heap.size, 1, none⟩ = some (.int .i64 d) := by simp [World.cell?, hx4]
            have d2 : w4.cell? ⟨w.heap.size, 2, none⟩ = some (.int .i64 a) := by simp [World.cell?, hx4]
            have d3 : w4.cell? ⟨w.heap.size, 3, none⟩ = some (.int .i64 b) := by simp [World.cell?, hx4]
            have d4 : w4.cell? ⟨w.heap.size, 4, none⟩ = some (.int .i64 n) := by simp [World.cell?, hx4]
            have HX4 : Hid (w4.heap[w.heap.size]? = some (.cells #[.int .i64 21, .int .i64 d, .int .i64 a, .int .i64 b, .int .i64 n] 78 (0, 0))) := hx4
            have HS4 : Hid (w.heap.size ≤ w4.heap.size) := HB4.out.size
            clear ot b4 c0 c1 c2 c3 c4 hx4
            obtain ⟨tl, HTL⟩ : ∃ tl, Hid (TA.length = tl) := ⟨_, rfl⟩
            rw [HTL.out] at HO4 ⊢
            have htl : tl ≤ 1 := by rw [← HTL.out, ← HTA.out]; exact takeL_len a 4
            go_wp2_with fail
            refine (l15Give_any w.heap.size (.slice ta tl tc) TA 5 0 r 0 0 d _ HO4.out HS4.out (by have := HTL.out; omega) HT.out).mono ?_
            rintro e w9 ⟨v9, rfl, o9, b9⟩
            have HO9 : Hid (OwnSteps w9 w.heap.size v9 L) := by show OwnSteps _ _ _ _; rw [← HE9.out]; exact o9
            have HB9 : Hid (Below w.heap.size w w9) := HB4.out.trans b9
            clear o9 b9
            go_wp2
            go_ret
            exact ⟨_, rfl, HO9.out, HB9.out⟩
          have e1 : (op == 21) = false := by simpa using h1
          by_cases h4 : op = 24
          · clear e0 e1 h0 h1
            subst h4
            have hk0 : k = 0 := by have := HM.out; rw [← HU.out] at this; simp [usesV] at this; omega
            subst hk0
            have HE9 : Hid (([] : List InsD) ++ giveL d 8 0 0 0 = L) := by show _ = _; rw [← HST.out]; rfl
            go_wp2_with fail
            refine (l15Give_any w.heap.size (.slice (some ⟨w.heap.size + 1, 0, none⟩) 0 0) [] 8 0 0 0 0 d _ HN1.out HS1.out (by simp) HT.out).mono ?_
            rintro e w9 ⟨v9, rfl, o9, b9⟩
            have HO9 : Hid (OwnSteps w9 w.heap.size v9 L) := by show OwnSteps _ _ _ _; rw [← HE9.out]; exact o9
            have HB9 : Hid (Below w.heap.size w w9) := HB1.out.trans b9
            clear o9 b9
            go_wp2
            go_ret
            exact ⟨_, rfl, HO9.out, HB9.out⟩
          have e4 : (op == 24) = false := by simpa using h4
          by_cases h5 : op = 25
          · clear e0 e1 e4 h0 h1 h4
            subst h5
            have hk0 : k = 1 := by have := HM.out; rw [← HU.out] at this; simp [usesV] at this; omega
            subst hk0
            obtain ⟨r, HRR⟩ : ∃ r, Hid (takeR a 4 = r) := ⟨_, rfl⟩
            obtain ⟨TA, HTA⟩ : ∃ T, Hid (takeL a 4 = T) := ⟨_, rfl⟩
            have HE9 : Hid (copyL d a = L) := by show _ = _; rw [← HST.out]; rfl
            go_wp2_with fail
            refine (l15Take_any a 4 _ (HALL.out a (by simp [usesV]))).mono ?_
            rw [HRR.out, HTA.out]
            rintro e w4 ⟨ta, tc, rfl, ot, b4⟩
            have HO4 : Hid (OwnSteps w4 w.heap.size (.slice ta TA.length tc) TA) := ot.low HS1.out
            have HB4 : Hid (Below w.heap.size w w4) := Bel.after HB1.out b4
            have HN4 : Hid (OwnSteps w4 w.heap.size (.slice (some ⟨w.heap.size + 1, 0, none⟩) 0 0) []) := HN1.out.keep b4
            have hx4 := (b4.block _ (Array.getElem?_eq_some_iff.1 HX1.out).1).trans HX1.out
            have d0 : w4.cell? ⟨w.heap.size, 0, none⟩ = some (.int .i64 25) := by simp [World.cell?, hx4]
            have d1 : w4.cell? ⟨w.heap.size, 1, none⟩ = some (.int .i64 d) := by simp [World.cell?, hx4]
            have d2 : w4.cell? ⟨w.heap.size, 2, none⟩ = some (.int .i64 a) := by simp [World.cell?, hx4]
            have d3 : w4.cell? ⟨w.heap.size, 3, none⟩ = some (.int .i64 b) := by simp [World.cell?, hx4]
            have d4 : w4.cell? ⟨w.heap.size, 4, none⟩ = some (.int .i64 n) := by simp [World.cell?, hx4]
            have HX4 : Hid (w4.heap[w.heap.size]? = some (.cells #[.int .i64 25, .int .i64 d, .int .i64 a, .int .i64 b, .int .i64 n] 78 (0, 0))) := hx4
            have HS4 : Hid (w.heap.size ≤ w4.heap.size) := HB4.out.size
            clear ot b4 c0 c1 c2 c3 c4 hx4
            obtain ⟨tl, HTL⟩ : ∃ tl, Hid (TA.length = tl) := ⟨_, rfl⟩
            rw [HTL.out] at HO4 ⊢
            have htl : tl ≤ 1 := by rw [← HTL.out, ← HTA.out]; exact takeL_len a 4
            go_wp2_with fail
            refine (l15Copy_any 25 d a b n _ HT.out (HALL.out a (by simp [usesV]))).mono ?_
            rintro e w9 ⟨v9, rfl, o9, b9⟩
            have HO9 : Hid (OwnSteps w9 w.heap.size v9 L) := by show OwnSteps _ _ _ _; rw [← HE9.out]; exact o9.low HS4.out
            have HB9 : Hid (Below w.heap.size w w9) := Bel.after HB4.out b9
            clear o9 b9
            go_wp2
            go_ret
            exact ⟨_, rfl, HO9.out, HB9.out⟩
          have e5 : (op == 25) = false := by simpa using h5
          have hw9 : 1 ≤ op ∧ op ≤ 10 := by have h9 := HQ.out; simp [makesV] at h9; omega
          have n2 : ¬ op = 22 := by omega
          have n3 : ¬ op = 23 := by omega
          have e2 : (op == 22) = false := by simpa using n2
          have e3 : (op == 23) = false := by simpa using n3
          have hk0 : k = 2 := by have := HM.out; rw [← HU.out, usesV_word hw9.1 hw9.2] at this; simp at this; omega
          subst hk0
          have HWO : Hid (wordOkV op = true) := wordOkV_yes hw9.1 hw9.2
          have HALA : Hid (homeB a = true ∧ homeB b = true) := ⟨HALL.out a (by rw [usesV_word hw9.1 hw9.2]; simp), HALL.out b (by rw [usesV_word hw9.1 hw9.2]; simp)⟩
          obtain ⟨r, HRR⟩ : ∃ r, Hid (takeR a 4 = r) := ⟨_, rfl⟩
          obtain ⟨TA, HTA⟩ : ∃ T, Hid (takeL a 4 = T) := ⟨_, rfl⟩
          obtain ⟨qr, HQR⟩ : ∃ r, Hid (takeR b 5 = r) := ⟨_, rfl⟩
          obtain ⟨TB, HTB⟩ : ∃ T, Hid (takeL b 5 = T) := ⟨_, rfl⟩
          have HE9 : Hid ((TA ++ TB) ++ giveL d (11 + op) r qr 0 = L) := by show _ = _; rw [← HST.out, ← HTA.out, ← HRR.out, ← HTB.out, ← HQR.out, List.append_assoc]; simp [stepsX, h0, h1, h4, h5, n2, n3, hw9.1, hw9.2]
          clear h0 h1 h4 h5 n2 n3
          go_wp2_with fail
          refine (l15Take_any a 4 _ HALA.out.1).mono ?_
          rw [HRR.out, HTA.out]
          rintro e w4 ⟨ta, tc, rfl, ot, b4⟩
          have HO4 : Hid (OwnSteps w4 w.heap.size (.slice ta TA.length tc) TA) := ot.low HS1.out
          have HB4 : Hid (Below w.heap.size w w4) := Bel.after HB1.out b4
          have HN4 : Hid (OwnSteps w4 w.heap.size (.slice (some ⟨w.heap.size + 1, 0, none⟩) 0 0) []) := HN1.out.keep b4
          have hx4 := (b4.block _ (Array.getElem?_eq_some_iff.1 HX1.out).1).trans HX1.out
          have d0 : w4.cell? ⟨w.heap.size, 0, none⟩ = some (.int .i64 op) := by simp [World.cell?, hx4]
          have d1 : w4.cell? ⟨w.heap.size, 1, none⟩ = some (.int .i64 d) := by simp [World.cell?, hx4]
          have d2 : w4.cell? ⟨w.heap.size, 2, none⟩ = some (.int .i64 a) := by simp [World.cell?, hx4]
          have d3 : w4.cell? ⟨w.heap.size, 3, none⟩ = some (.int .i64 b) := by simp [World.cell?, hx4]
          have d4 : w4.cell? ⟨w.heap.size, 4, none⟩ = some (.int .i64 n) := by simp [World.cell?, hx4]
          have HX4 : Hid (w4.heap[w.heap.size]? = some (.cells #[.int .i64 op, .int .i64 d, .int .i64 a, .int .i64 b, .int .i64 n] 78 (0, 0))) := hx4
          have HS4 : Hid (w.heap.size ≤ w4.heap.size) := HB4.out.size
          clear ot b4 c0 c1 c2 c3 c4 hx4
          obtain ⟨tl, HTL⟩ : ∃ tl, Hid (TA.length = tl) := ⟨_, rfl⟩
          rw [HTL.out] at HO4 ⊢
          have htl : tl ≤ 1 := by rw [← HTL.out, ← HTA.out]; exact takeL_len a 4
          go_wp2_with fail
          refine (l15Take_any b 5 _ HALA.out.2).mono ?_
          rw [HQR.out, HTB.out]
          rintro e w5 ⟨tb, tcb, rfl, ot, b5⟩
          obtain ⟨v6, w6, hrun, ho6, hg6, hnn6⟩ := add_steps w.heap.size (.slice ta tl tc) (.slice tb TB.length tcb) TA TB w5 (HO4.out.keep b5) (Nat.le_trans HS4.out b5.size) ot.at (by have h8 := takeL_len b 5; rw [HTB.out] at h8; have := HTL.out; omega) 28
          have HRUN : Hid (∀ ty, (Builtin.append_ #[28, 28] ty #[.slice ta tl tc, .slice tb TB.length tcb]).run Tryz.prog w5 = .ok v6 w6) := fun ty => hrun
          have HB5 : Below w.heap.size w w5 := Bel.after HB4.out b5
          have HB6 : Hid (Below w.heap.size w w6) := HB5.trans ((HO4.out.keep b5).under (Nat.le_trans HS4.out b5.size) hg6)
          have HO6 : Hid (OwnSteps w6 w.heap.size v6 (TA ++ TB)) := ho6
          have hx5 := (b5.block _ (Array.getElem?_eq_some_iff.1 HX4.out).1).trans HX4.out
          have hne : some w.heap.size ≠ (Value.slice ta tl tc).ownBlock := fun e9 => by
            rcases (HO4.out.keep b5).2 with ⟨e8, _⟩ | ⟨g8, c8, cur8, e8, _, hg8, _⟩
            · rw [e8] at e9; simp [Value.ownBlock] at e9
            · rw [e8] at e9
              simp [Value.ownBlock] at e9
              rw [← e9, hx5] at hg8
              simp at hg8
          have hx6 := (hg6.block _ (Array.getElem?_eq_some_iff.1 hx5).1 hne).trans hx5
          have f0 : w6.cell? ⟨w.heap.size, 0, none⟩ = some (.int .i64 op) := by simp [World.cell?, hx6]
          have f1 : w6.cell? ⟨w.heap.size, 1, none⟩ = some (.int .i64 d) := by simp [World.cell?, hx6]
          obtain ⟨va, vn, vc, hvv⟩ : ∃ a n c, v6 = .slice a n c := by obtain ⟨a, c, e, _⟩ := ho6.row; exact ⟨a, _, c, e⟩
          subst hvv
          have HS6 : Hid (w.heap.size ≤ w6.heap.size) := HB6.out.size
          have hl6 : (TA ++ TB).length ≤ 2 := by have h8 := takeL_len b 5; rw [HTB.out] at h8; have := HTL.out; rw [List.length_append]; omega
          clear ot b5 hrun ho6 hg6 hnn6 HB5 hx5 hx6 hne d0 d1 d2 d3 d4
          obtain ⟨bl, HBL⟩ : ∃ bl, Hid (TB.length = bl) := ⟨_, rfl⟩
          rw [HBL.out] at HRUN ⊢
          go_wp2_with (at_builtin; refine wpList_appendS _ rfl _ _ 28 28 rfl _ _ _ _ rfl rfl (HRUN.out _) ?_)
          refine (spec_wordOk op _).mono ?_
          rw [HWO.out]
          rintro e w7 ⟨rfl, hw7⟩
          subst hw7
          go_wp2_with fail
          refine (l15Give_any w.heap.size (.slice va vn vc) (TA ++ TB) (11 + op) 0 r qr 0 d _ HO6.out HS6.out (by omega) HT.out).mono ?_
          rintro e w9 ⟨v9, rfl, o9, b9⟩
          have HO9 : Hid (OwnSteps w9 w.heap.size v9 L) := by show OwnSteps _ _ _ _; rw [← HE9.out]; exact o9
          have HB9 : Hid (Below w.heap.size w w9) := HB6.out.trans b9
          clear o9 b9
          go_wp2
          go_ret
          exact ⟨_, rfl, HO9.out, HB9.out⟩
      | false =>
        have HST : Hid (stepsX ⟨op, d, a, b, n⟩ = L) := by
          show _ = _
          rw [← HL.out]
          refine (hXs ?_).symm
          unfold homesX
          dsimp only
          rw [HQ.out, Bool.and_eq_true, List.all_eq_true]
          exact ⟨rfl, HALL.out⟩
        have hq9 := HQ.out
        simp [makesV] at hq9
        have e0 : (op == 20) = false := by simp; omega
        have e1 : (op == 21) = false := by simp; omega
        have e4 : (op == 24) = false := by simp; omega
        have e5 : (op == 25) = false := by simp; omega
        by_cases h2 : op = 22
        · clear e0 e1 e4 e5 hq9
          subst h2
          have hk0 : k = 2 := by have := HM.out; rw [← HU.out] at this; simp [usesV] at this; omega
          subst hk0
          obtain ⟨r, HRR⟩ : ∃ r, Hid (takeR a 4 = r) := ⟨_, rfl⟩
          obtain ⟨TA, HTA⟩ : ∃ T, Hid (takeL a 4 = T) := ⟨_, rfl⟩
          obtain ⟨qr, HQR⟩ : ∃ r, Hid (takeR b 5 = r) := ⟨_, rfl⟩
          obtain ⟨TB, HTB⟩ : ∃ T, Hid (takeL b 5 = T) := ⟨_, rfl⟩
          have HE9 : Hid ((TA ++ TB) ++ [⟨6, 0, r, qr, 0⟩] = L) := by show _ = _; rw [← HST.out, ← HTA.out, ← HRR.out, ← HTB.out, ← HQR.out, List.append_assoc]; rfl
          go_wp2_with fail
          refine (l15Take_any a 4 _ (HALL.out a (by simp [usesV]))).mono ?_
          rw [HRR.out, HTA.out]
          rintro e w4 ⟨ta, tc, rfl, ot, b4⟩
          have HO4 : Hid (OwnSteps w4 w.heap.size (.slice ta TA.length tc) TA) := ot.low HS1.out
          have HB4 : Hid (Below w.heap.size w w4) := Bel.after HB1.out b4
          have HN4 : Hid (OwnSteps w4 w.heap.size (.slice (some ⟨w.heap.size + 1, 0, none⟩) 0 0) []) := HN1.out.keep b4
          have hx4 := (b4.block _ (Array.getElem?_eq_some_iff.1 HX1.out).1).trans HX1.out
          have d0 : w4.cell? ⟨w.heap.size, 0, none⟩ = some (.int .i64 22) := by simp [World.cell?, hx4]
          have d1 : w4.cell? ⟨w.heap.size, 1, none⟩ = some (.int .i64 d) := by simp [World.cell?, hx4]
          have d2 : w4.cell? ⟨w.heap.size, 2, none⟩ = some (.int .i64 a) := by simp [World.cell?, hx4]
          have d3 : w4.cell? ⟨w.heap.size, 3, none⟩ = some (.int .i64 b) := by simp [World.cell?, hx4]
          have d4 : w4.cell? ⟨w.heap.size, 4, none⟩ = some (.int .i64 n) := by simp [World.cell?, hx4]
          have HX4 : Hid (w4.heap[w.heap.size]? = some (.cells #[.int .i64 22, .int .i64 d, .int .i64 a, .int .i64 b, .int .i64 n] 78 (0, 0))) := hx4
          have HS4 : Hid (w.heap.size ≤ w4.heap.size) := HB4.out.size
          clear ot b4 c0 c1 c2 c3 c4 hx4
          obtain ⟨tl, HTL⟩ : ∃ tl, Hid (TA.length = tl) := ⟨_, rfl⟩
          rw [HTL.out] at HO4 ⊢
          have htl : tl ≤ 1 := by rw [← HTL.out, ← HTA.out]; exact takeL_len a 4
          go_wp2_with fail
          refine (l15Take_any b 5 _ (HALL.out b (by simp [usesV]))).mono ?_
          rw [HQR.out, HTB.out]
          rintro e w5 ⟨tb, tcb, rfl, ot, b5⟩
          obtain ⟨v6, w6, hrun, ho6, hg6, hnn6⟩ := add_steps w.heap.size (.slice ta tl tc) (.slice tb TB.length tcb) TA TB w5 (HO4.out.keep b5) (Nat.le_trans HS4.out b5.size) ot.at (by have h8 := takeL_len b 5; rw [HTB.out] at h8; have := HTL.out; omega) 28
          have HRUN : Hid (∀ ty, (Builtin.append_ #[28, 28] ty #[.slice ta tl tc, .slice tb TB.length tcb]).run Tryz.prog w5 = .ok v6 w6) := fun ty => hrun
          have HB5 : Below w.heap.size w w5 := Bel.after HB4.out b5
          have HB6 : Hid (Below w.heap.size w w6) := HB5.trans ((HO4.out.keep b5).under (Nat.le_trans HS4.out b5.size) hg6)
          have HO6 : Hid (OwnSteps w6 w.heap.size v6 (TA ++ TB)) := ho6
          have hx5 := (b5.block _ (Array.getElem?_eq_some_iff.1 HX4.out).1).trans HX4.out
          have hne : some w.heap.size ≠ (Value.slice ta tl tc).ownBlock := fun e9 => by
            rcases (HO4.out.keep b5).2 with ⟨e8, _⟩ | ⟨g8, c8, cur8, e8, _, hg8, _⟩
            · rw [e8] at e9; simp [Value.ownBlock] at e9
            · rw [e8] at e9
              simp [Value.ownBlock] at e9
              rw [← e9, hx5] at hg8
              simp at hg8
          have hx6 := (hg6.block _ (Array.getElem?_eq_some_iff.1 hx5).1 hne).trans hx5
          have f0 : w6.cell? ⟨w.heap.size, 0, none⟩ = some (.int .i64 22) := by simp [World.cell?, hx6]
          have f1 : w6.cell? ⟨w.heap.size, 1, none⟩ = some (.int .i64 d) := by simp [World.cell?, hx6]
          obtain ⟨va, vn, vc, hvv⟩ : ∃ a n c, v6 = .slice a n c := by obtain ⟨a, c, e, _⟩ := ho6.row; exact ⟨a, _, c, e⟩
          subst hvv
          have HS6 : Hid (w.heap.size ≤ w6.heap.size) := HB6.out.size
          have hl6 : (TA ++ TB).length ≤ 2 := by have h8 := takeL_len b 5; rw [HTB.out] at h8; have := HTL.out; rw [List.length_append]; omega
          clear ot b5 hrun ho6 hg6 hnn6 HB5 hx5 hx6 hne d0 d1 d2 d3 d4
          obtain ⟨bl, HBL⟩ : ∃ bl, Hid (TB.length = bl) := ⟨_, rfl⟩
          rw [HBL.out] at HRUN ⊢
          obtain ⟨v9, w9, hrun9, ho9, hg9, _⟩ := add_steps w.heap.size (.slice va vn vc) (.slice (some ⟨w6.heap.size, 0, none⟩) 1 1) (TA ++ TB) [⟨6, 0, r, qr, 0⟩] (w6.alloc (.cells #[.int .i64 6, .int .i64 0, .int .i64 r, .int .i64 qr, .int .i64 0] 46)) (HO6.out.keep (Bel.alloc _ _)) (by have := HS6.out; simp; omega) (ownSteps_one w6 6 0 r qr 0).at (by rw [List.length_singleton]; omega) 28
          have HRUN9 : Hid (∀ ty, (Builtin.append_ #[28, 28] ty #[.slice va vn vc, .slice (some ⟨w6.heap.size, 0, none⟩) 1 1]).run Tryz.prog (w6.alloc (.cells #[.int .i64 6, .int .i64 0, .int .i64 r, .int .i64 qr, .int .i64 0] 46)) = .ok v9 w9) := fun ty => hrun9
          have HO9 : Hid (OwnSteps w9 w.heap.size v9 L) := by show OwnSteps _ _ _ _; rw [← HE9.out]; exact ho9
          have HB9 : Hid (Below w.heap.size w w9) := (HB6.out.alloc HS6.out _).trans ((HO6.out.keep (Bel.alloc _ _)).under (by have := HS6.out; simp; omega) hg9)
          clear hrun9 ho9 hg9
          go_wp2_with first
            | (at_builtin; refine wpList_appendS _ rfl _ _ 28 28 rfl (.slice va vn vc) (.slice (some ⟨w6.heap.size, 0, none⟩) 1 1) _ _ rfl rfl (HRUN9.out _) ?_)
            | (at_builtin; refine wpList_appendS _ rfl _ _ 28 28 rfl (.slice ta tl tc) (.slice tb bl tcb) _ _ rfl rfl (HRUN.out _) ?_)
          go_ret
          exact ⟨_, rfl, HO9.out, HB9.out⟩
        have e2 : (op == 22) = false := by simpa using h2
        by_cases h3 : op = 23
        · clear e0 e1 e2 e4 e5 hq9 h2
          subst h3
          have hk0 : k = 1 := by have := HM.out; rw [← HU.out] at this; simp [usesV] at this; omega
          subst hk0
          obtain ⟨r, HRR⟩ : ∃ r, Hid (takeR a 4 = r) := ⟨_, rfl⟩
          obtain ⟨TA, HTA⟩ : ∃ T, Hid (takeL a 4 = T) := ⟨_, rfl⟩
          have HE9 : Hid (TA ++ [⟨7, 0, r, 0, 0⟩] = L) := by show _ = _; rw [← HST.out, ← HTA.out, ← HRR.out]; rfl
          go_wp2_with fail
          refine (l15Take_any a 4 _ (HALL.out a (by simp [usesV]))).mono ?_
          rw [HRR.out, HTA.out]
          rintro e w4 ⟨ta, tc, rfl, ot, b4⟩
          have HO4 : Hid (OwnSteps w4 w.heap.size (.slice ta TA.length tc) TA) := ot.low HS1.out
          have HB4 : Hid (Below w.heap.size w w4) := Bel.after HB1.out b4
          have HN4 : Hid (OwnSteps w4 w.heap.size (.slice (some ⟨w.heap.size + 1, 0, none⟩) 0 0) []) := HN1.out.keep b4
          have hx4 := (b4.block _ (Array.getElem?_eq_some_iff.1 HX1.out).1).trans HX1.out
          have d0 : w4.cell? ⟨w.heap.size, 0, none⟩ = some (.int .i64 23) := by simp [World.cell?, hx4]
          have d1 : w4.cell? ⟨w.heap.size, 1, none⟩ = some (.int .i64 d) := by simp [World.cell?, hx4]
          have d2 : w4.cell? ⟨w.heap.size, 2, none⟩ = some (.int .i64 a) := by simp [World.cell?, hx4]
          have d3 : w4.cell? ⟨w.heap.size, 3, none⟩ = some (.int .i64 b) := by simp [World.cell?, hx4]
          have d4 : w4.cell? ⟨w.heap.size, 4, none⟩ = some (.int .i64 n) := by simp [World.cell?, hx4]
          have HX4 : Hid (w4.heap[w.heap.size]? = some (.cells #[.int .i64 23, .int .i64 d, .int .i64 a, .int .i64 b, .int .i64 n] 78 (0, 0))) := hx4
          have HS4 : Hid (w.heap.size ≤ w4.heap.size) := HB4.out.size
          clear ot b4 c0 c1 c2 c3 c4 hx4
          obtain ⟨tl, HTL⟩ : ∃ tl, Hid (TA.length = tl) := ⟨_, rfl⟩
          rw [HTL.out] at HO4 ⊢
          have htl : tl ≤ 1 := by rw [← HTL.out, ← HTA.out]; exact takeL_len a 4
          obtain ⟨v9, w9, hrun9, ho9, hg9, _⟩ := add_steps w.heap.size (.slice ta tl tc) (.slice (some ⟨w4.heap.size, 0, none⟩) 1 1) TA [⟨7, 0, r, 0, 0⟩] (w4.alloc (.cells #[.int .i64 7, .int .i64 0, .int .i64 r, .int .i64 0, .int .i64 0] 46)) (HO4.out.keep (Bel.alloc _ _)) (by have := HS4.out; simp; omega) (ownSteps_one w4 7 0 r 0 0).at (by have := HTL.out; rw [List.length_singleton]; omega) 28
          have HRUN9 : Hid (∀ ty, (Builtin.append_ #[28, 28] ty #[.slice ta tl tc, .slice (some ⟨w4.heap.size, 0, none⟩) 1 1]).run Tryz.prog (w4.alloc (.cells #[.int .i64 7, .int .i64 0, .int .i64 r, .int .i64 0, .int .i64 0] 46)) = .ok v9 w9) := fun ty => hrun9
          have HO9 : Hid (OwnSteps w9 w.heap.size v9 L) := by show OwnSteps _ _ _ _; rw [← HE9.out]; exact ho9
          have HB9 : Hid (Below w.heap.size w w9) := (HB4.out.alloc HS4.out _).trans ((HO4.out.keep (Bel.alloc _ _)).under (by have := HS4.out; simp; omega) hg9)
          clear hrun9 ho9 hg9
          go_wp2_with (at_builtin; refine wpList_appendS _ rfl _ _ 28 28 rfl _ _ _ _ rfl rfl (HRUN9.out _) ?_)
          go_ret
          exact ⟨_, rfl, HO9.out, HB9.out⟩
        have e3 : (op == 23) = false := by simpa using h3
        have hw9 : ¬ (1 ≤ op ∧ op ≤ 10) := by omega
        have hk0 : k = 0 := by have := HM.out; rw [← HU.out] at this; simp [usesV, hw9, h2, h3, show ¬ op = 21 by omega, show ¬ op = 25 by omega] at this; omega
        subst hk0
        have HWO : Hid (wordOkV op = false) := by show _ = _; unfold wordOkV; simpa using hw9
        have hL : ([] : List InsD) = L := by
          rw [← HST.out]
          have hk2 : ¬ op = 20 ∧ ¬ op = 21 ∧ ¬ op = 22 ∧ ¬ op = 23 ∧ ¬ op = 24 ∧ ¬ op = 25 := by omega
          obtain ⟨k0, k1, k2, k3, k4, k5⟩ := hk2
          unfold stepsX
          dsimp only
          rw [if_neg k0, if_neg k1, if_neg k2, if_neg k3, if_neg k4, if_neg k5, if_neg hw9]
        clear h2 h3 hw9 hq9
        go_wp2_with fail
        refine (spec_wordOk op _).mono ?_
        rw [HWO.out]
        rintro e w7 ⟨rfl, hw7⟩
        subst hw7
        go_wp2
        go_ret
        exact ⟨_, rfl, by rw [← hL]; exact HN1.out, HB1.out⟩
end Go.Proofs.YtkejplddeelahaaGreatDoor
