/- Code from homes: the model gives to a home, and copies. -/
import Derived.Test.YtgnngibbojjebaaDoorEmS1
namespace Go.Proofs.YtgnngibbojjebaaDoor
open Go.ChangeShapes Go.WideShapes Go.ChangeAt Go.RowKit
set_option linter.unusedVariables false

theorem stepsAt_ein (w : World) (x0 x1 x2 x3 x4 : Int) : StepsAt (w.alloc (.cells #[.int .i64 x0, .int .i64 x1, .int .i64 x2, .int .i64 x3, .int .i64 x4] 32)) (.slice (some ⟨w.heap.size, 0, none⟩) 1 1) [⟨x0, x1, x2, x3, x4⟩] := (ownSteps_one w x0 x1 x2 x3 x4).at
theorem ownSteps_two (w : World) (x0 x1 x2 x3 x4 y0 y1 y2 y3 y4 : Int) : OwnSteps (w.alloc (.cells #[.int .i64 x0, .int .i64 x1, .int .i64 x2, .int .i64 x3, .int .i64 x4, .int .i64 y0, .int .i64 y1, .int .i64 y2, .int .i64 y3, .int .i64 y4] 32)) w.heap.size (.slice (some ⟨w.heap.size, 0, none⟩) 2 2) [⟨x0, x1, x2, x3, x4⟩, ⟨y0, y1, y2, y3, y4⟩] :=
  ⟨by simp [stC], .inr ⟨w.heap.size, 2, _, rfl, Nat.le_refl _, World.alloc_heap_new w _, Nat.le_refl _, by decide, rfl, by simp [stC]⟩⟩
/-- A list of the call's own that grew. -/
def GivesIn (lo : Nat) (w : World) (l : List InsD) (e : Ending) (w' : World) : Prop := ∃ v, e = .returned v ∧ OwnSteps w' lo v l ∧ Below lo w w'

set_option maxRecDepth 100000 in
set_option maxHeartbeats 1000000 in
theorem l15Give_any (lo : Nat) (v : Value) (l : List InsD) (op r0 a b n h : Int) (w : World) (hv : OwnSteps w lo v l) (hlo : lo ≤ w.heap.size) (hn : l.length ≤ 1000000) (hh : homeB h = true) :
    Calls Tryd.prog 39 #[v, .agg #[.int .i64 op, .int .i64 r0, .int .i64 a, .int .i64 b, .int .i64 n], .int .i64 h] w fun e w' => GivesIn lo w (l ++ giveL h op a b n) e w' := by
  have hb := homeB_iff.1 hh
  obtain ⟨w0, hw0⟩ : ∃ W, w.alloc (.cells #[.int .i64 op, .int .i64 r0, .int .i64 a, .int .i64 b, .int .i64 n] 32) = W := ⟨_, rfl⟩
  have HB0 : Hid (Below w.heap.size w w0) := by show Below _ _ _; rw [← hw0]; exact Bel.alloc _ _
  have HX0 : Hid (w0.heap[w.heap.size]? = some (.cells #[.int .i64 op, .int .i64 r0, .int .i64 a, .int .i64 b, .int .i64 n] 32 (0, 0))) := by show _ = _; rw [← hw0]; exact World.alloc_heap_new _ _
  obtain ⟨r, HRR⟩ : ∃ r, Hid (takeR h 6 = r) := ⟨_, rfl⟩
  obtain ⟨w1, hw1⟩ : ∃ W, w0.setCell ⟨w.heap.size, 1, none⟩ (.int .i64 r) = W := ⟨_, rfl⟩
  have HX1 : Hid (w1.heap[w.heap.size]? = some (.cells #[.int .i64 op, .int .i64 r, .int .i64 a, .int .i64 b, .int .i64 n] 32 (0, 0))) := by
    show _ = _
    rw [← hw1]
    have h9 := HX0.out
    simp [World.setCell, Array.getElem?_modify, h9]
  have HB1 : Hid (Below w.heap.size w w1) := by show Below _ _ _; rw [← hw1]; exact HB0.out.setCell (p := ⟨w.heap.size, 1, none⟩) (Nat.le_refl _) _
  have HS1 : Hid (w.heap.size ≤ w1.heap.size) := HB1.out.size
  have HV1 : Hid (OwnSteps w1 lo v l) := hv.keep HB1.out
  obtain ⟨va, vn, vc, hvv⟩ : ∃ a n c, v = .slice a n c := by obtain ⟨a, c, e, _⟩ := hv.row; exact ⟨a, _, c, e⟩
  subst hvv
  have q0 : w1.cell? ⟨w.heap.size, 0, none⟩ = some (.int .i64 op) := by simp [World.cell?, HX1.out]
  have q1 : w1.cell? ⟨w.heap.size, 1, none⟩ = some (.int .i64 r) := by simp [World.cell?, HX1.out]
  have q2 : w1.cell? ⟨w.heap.size, 2, none⟩ = some (.int .i64 a) := by simp [World.cell?, HX1.out]
  have q3 : w1.cell? ⟨w.heap.size, 3, none⟩ = some (.int .i64 b) := by simp [World.cell?, HX1.out]
  have q4 : w1.cell? ⟨w.heap.size, 4, none⟩ = some (.int .i64 n) := by simp [World.cell?, HX1.out]
  have p1 : w0.cell? ⟨w.heap.size, 1, none⟩ = some (.int .i64 r0) := by simp [World.cell?, HX0.out]
  have g1 : w0.frozen? ⟨w.heap.size, 1, none⟩ = false := by simp [World.frozen?, HX0.out]
  clear hv
  by_cases h4 : 4 ≤ h
  · have hlt : ¬ h < 4 := by omega
    have e6 : r = 6 := by rw [← HRR.out]; unfold takeR; rw [if_pos h4]
    subst e6
    have HE9 : Hid (l ++ giveL h op a b n = l ++ [⟨op, 6, a, b, n⟩, ⟨4, 0, 6, 0, h - 4⟩]) := by show _ = _; unfold giveL; rw [if_pos h4]
    obtain ⟨v', w2, hrun, ho2, hg2, _⟩ := add_steps lo (.slice va vn vc) (.slice (some ⟨w1.heap.size, 0, none⟩) 2 2) l [⟨op, 6, a, b, n⟩, ⟨4, 0, 6, 0, h - 4⟩] (w1.alloc (.cells #[.int .i64 op, .int .i64 6, .int .i64 a, .int .i64 b, .int .i64 n, .int .i64 4, .int .i64 0, .int .i64 6, .int .i64 0, .int .i64 (h - 4)] 32)) (HV1.out.keep (Bel.alloc _ _)) (by have := HS1.out; simp; omega) (ownSteps_two w1 op 6 a b n 4 0 6 0 (h - 4)).at (by simp; omega) 27
    have HRUN : Hid (∀ ty, (Builtin.append_ #[27, 27] ty #[.slice va vn vc, .slice (some ⟨w1.heap.size, 0, none⟩) 2 2]).run Tryd.prog (w1.alloc (.cells #[.int .i64 op, .int .i64 6, .int .i64 a, .int .i64 b, .int .i64 n, .int .i64 4, .int .i64 0, .int .i64 6, .int .i64 0, .int .i64 (h - 4)] 32)) = .ok v' w2) := fun ty => hrun
    have HO2 : Hid (OwnSteps w2 lo v' (l ++ [⟨op, 6, a, b, n⟩, ⟨4, 0, 6, 0, h - 4⟩])) := ho2
    have HB2 : Hid (Below lo w w2) := ((HB1.out.mono hlo).alloc (by have := HS1.out; omega) _).trans ((HV1.out.keep (Bel.alloc _ _)).under (by have := HS1.out; simp; omega) hg2)
    clear hrun ho2 hg2
    go_enter Tryd.func39, Tryd.ntmps39
    go_wp2_with (at_builtin; refine wpList_appendS _ rfl _ _ 27 27 rfl _ _ _ _ rfl rfl (HRUN.out _) ?_)
    go_ret
    exact ⟨_, rfl, by rw [HE9.out]; exact HO2.out, HB2.out⟩
  · have hlt : h < 4 := by omega
    have e6 : r = h := by rw [← HRR.out]; unfold takeR; rw [if_neg h4]
    subst e6
    have HE9 : Hid (l ++ giveL r op a b n = l ++ [⟨op, r, a, b, n⟩]) := by show _ = _; unfold giveL; rw [if_neg h4]
    obtain ⟨v', w2, hrun, ho2, hg2, _⟩ := add_steps lo (.slice va vn vc) (.slice (some ⟨w1.heap.size, 0, none⟩) 1 1) l [⟨op, r, a, b, n⟩] (w1.alloc (.cells #[.int .i64 op, .int .i64 r, .int .i64 a, .int .i64 b, .int .i64 n] 32)) (HV1.out.keep (Bel.alloc _ _)) (by have := HS1.out; simp; omega) (ownSteps_one w1 op r a b n).at (by simp; omega) 27
    have HRUN : Hid (∀ ty, (Builtin.append_ #[27, 27] ty #[.slice va vn vc, .slice (some ⟨w1.heap.size, 0, none⟩) 1 1]).run Tryd.prog (w1.alloc (.cells #[.int .i64 op, .int .i64 r, .int .i64 a, .int .i64 b, .int .i64 n] 32)) = .ok v' w2) := fun ty => hrun
    have HO2 : Hid (OwnSteps w2 lo v' (l ++ [⟨op, r, a, b, n⟩])) := ho2
    have HB2 : Hid (Below lo w w2) := ((HB1.out.mono hlo).alloc (by have := HS1.out; omega) _).trans ((HV1.out.keep (Bel.alloc _ _)).under (by have := HS1.out; simp; omega) hg2)
    clear hrun ho2 hg2
    go_enter Tryd.func39, Tryd.ntmps39
    go_wp2_with (at_builtin; refine wpList_appendS _ rfl _ _ 27 27 rfl _ _ _ _ rfl rfl (HRUN.out _) ?_)
    go_ret
    exact ⟨_, rfl, by rw [HE9.out]; exact HO2.out, HB2.out⟩

set_option maxRecDepth 100000 in
set_option maxHeartbeats 1000000 in
theorem l15Copy_any (op d a b n : Int) (w : World) (hd : homeB d = true) (ha : homeB a = true) :
    Calls Tryd.prog 40 #[.agg #[.int .i64 op, .int .i64 d, .int .i64 a, .int .i64 b, .int .i64 n]] w fun e w' => GivesSteps w (copyL d a) e w' := by
  have hdb := homeB_iff.1 hd
  have hab := homeB_iff.1 ha
  obtain ⟨w0, hw0⟩ : ∃ W, w.alloc (.cells #[.int .i64 op, .int .i64 d, .int .i64 a, .int .i64 b, .int .i64 n] 25) = W := ⟨_, rfl⟩
  have HB0 : Hid (Below w.heap.size w w0) := by show Below _ _ _; rw [← hw0]; exact Bel.alloc _ _
  have HX0 : Hid (w0.heap[w.heap.size]? = some (.cells #[.int .i64 op, .int .i64 d, .int .i64 a, .int .i64 b, .int .i64 n] 25 (0, 0))) := by show _ = _; rw [← hw0]; exact World.alloc_heap_new _ _
  have c1 : w0.cell? ⟨w.heap.size, 1, none⟩ = some (.int .i64 d) := by simp [World.cell?, HX0.out]
  have c2 : w0.cell? ⟨w.heap.size, 2, none⟩ = some (.int .i64 a) := by simp [World.cell?, HX0.out]
  by_cases h4 : 4 ≤ d
  · have hlt : ¬ d < 4 := by omega
    obtain ⟨r, HRR⟩ : ∃ r, Hid (takeR a 4 = r) := ⟨_, rfl⟩
    obtain ⟨T, HTT⟩ : ∃ T, Hid (takeL a 4 = T) := ⟨_, rfl⟩
    have HE9 : Hid (copyL d a = T ++ [⟨4, 0, r, 0, d - 4⟩]) := by show _ = _; unfold copyL; rw [if_pos h4, HTT.out, HRR.out]
    have hTl : T.length ≤ 1 := by rw [← HTT.out]; exact takeL_len a 4
    go_enter Tryd.func40, Tryd.ntmps40
    go_wp2_with fail
    try rw [hw0]
    refine (l15Take_any a 4 _ ha).mono ?_
    rw [HRR.out, HTT.out]
    rintro e w1 ⟨ta, tc, rfl, ot, b1⟩
    have HO1 : Hid (OwnSteps w1 w0.heap.size (.slice ta T.length tc) T) := ot
    have HB1 : Hid (Below w.heap.size w w1) := Bel.after HB0.out b1
    have d1 := Bel.keeps b1 c1
    have HS01 : Hid (w.heap.size ≤ w0.heap.size) := HB0.out.size
    have HS1 : Hid (w0.heap.size ≤ w1.heap.size) := b1.size
    clear ot b1 c1 c2 hw0
    obtain ⟨tl, HTL⟩ : ∃ tl, Hid (T.length = tl) := ⟨_, rfl⟩
    rw [HTL.out] at HO1 hTl ⊢
    obtain ⟨v', w2, hrun, ho2, hg2, _⟩ := add_steps w0.heap.size (.slice ta tl tc) (.slice (some ⟨w1.heap.size, 0, none⟩) 1 1) T [⟨4, 0, r, 0, d - 4⟩] (w1.alloc (.cells #[.int .i64 4, .int .i64 0, .int .i64 r, .int .i64 0, .int .i64 (d - 4)] 32)) (HO1.out.keep (Bel.alloc _ _)) (by have := HS1.out; simp; omega) (ownSteps_one w1 4 0 r 0 (d - 4)).at (by have := HTL.out; simp; omega) 27
    have HRUN : Hid (∀ ty, (Builtin.append_ #[27, 27] ty #[.slice ta tl tc, .slice (some ⟨w1.heap.size, 0, none⟩) 1 1]).run Tryd.prog (w1.alloc (.cells #[.int .i64 4, .int .i64 0, .int .i64 r, .int .i64 0, .int .i64 (d - 4)] 32)) = .ok v' w2) := fun ty => hrun
    have HO2 : Hid (OwnSteps w2 w.heap.size v' (T ++ [⟨4, 0, r, 0, d - 4⟩])) := ho2.low HS01.out
    have HB2 : Hid (Below w.heap.size w w2) := (HB1.out.alloc (by have := HS1.out; have := HS01.out; omega) _).trans (((HO1.out.keep (Bel.alloc _ _)).under (by have := HS1.out; simp; omega) hg2).mono HS01.out)
    clear hrun ho2 hg2
    go_wp2_with (at_builtin; refine wpList_appendS _ rfl _ _ 27 27 rfl _ _ _ _ rfl rfl (HRUN.out _) ?_)
    go_ret
    exact ⟨_, rfl, by rw [HE9.out]; exact HO2.out, HB2.out⟩
  · have hlt : d < 4 := by omega
    by_cases h5 : 4 ≤ a
    · have hlt5 : ¬ a < 4 := by omega
      have HE9 : Hid (copyL d a = [⟨3, d, 0, 0, a - 4⟩]) := by show _ = _; unfold copyL; rw [if_neg h4, if_pos h5]
      go_enter Tryd.func40, Tryd.ntmps40
      go_wp2
      go_ret
      exact ⟨_, rfl, by rw [HE9.out]; exact (ownSteps_one w0 3 d 0 0 (a - 4)).low HB0.out.size, Bel.after HB0.out (Bel.alloc _ _)⟩
    · have hlt5 : a < 4 := by omega
      have HE9 : Hid (copyL d a = [⟨2, d, a, 0, 0⟩]) := by show _ = _; unfold copyL; rw [if_neg h4, if_neg h5]
      go_enter Tryd.func40, Tryd.ntmps40
      go_wp2
      go_ret
      exact ⟨_, rfl, by rw [HE9.out]; exact (ownSteps_one w0 2 d a 0 0).low HB0.out.size, Bel.after HB0.out (Bel.alloc _ _)⟩
end Go.Proofs.YtgnngibbojjebaaDoor
