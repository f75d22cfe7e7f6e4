/- StepOk, of both sides. -/
import Derived.Test.YtebcocehdjoafaaDoorMaDef
import Derived.Test.YtebcocehdjoafaaDoorStMem
import Derived.Test.YtebcocehdjoafaaDoorHmIn
import Derived.Deep.RegionHeld3
namespace Go.Proofs.YtebcocehdjoafaaDoor
open Go.ChangeShapes Go.WideShapes Go.ChangeAt Go.RowKit
set_option linter.unusedVariables false

/-- A bool is returned; the world only grows. -/
def AnsB (w : World) (b : Bool) (e : Ending) (w' : World) : Prop := e = .returned (.bool b) ∧ Below w.heap.size w w'

/-- The program's table of forms. -/
def FTab (w : World) : Prop := ∀ i : Nat, i < 12 → w.cell? ⟨0, i * 4, none⟩ = some (.int .i64 (formAt i).r) ∧ w.cell? ⟨0, i * 4 + 1, none⟩ = some (.int .i64 (formAt i).a) ∧ w.cell? ⟨0, i * 4 + 2, none⟩ = some (.int .i64 (formAt i).b) ∧ w.cell? ⟨0, i * 4 + 3, none⟩ = some (.int .i64 (formAt i).n)
theorem FTab.keep {w w' : World} (h : FTab w) (hb : Below w.heap.size w w') : FTab w' := fun i hi => by
  obtain ⟨a, b, c, d⟩ := h i hi
  exact ⟨Bel.keeps hb a, Bel.keeps hb b, Bel.keeps hb c, Bel.keeps hb d⟩

theorem isReg_any (x : Int) (w : World) :
    Calls Tryd.prog 46 #[.int .i64 x] w fun e w' => e = .returned (.bool (decide (0 ≤ x) && decide (x < 8))) ∧ w' = w := by
  by_cases a : x ≥ 0
  · have a2 : 0 ≤ x := a
    go_enter Tryd.func46, Tryd.ntmps46
    go_wp2
    go_ret
    exact ⟨by simp [a2], rfl⟩
  · have a2 : ¬ 0 ≤ x := a
    go_enter Tryd.func46, Tryd.ntmps46
    go_wp2
    go_ret
    exact ⟨by simp <;> omega, rfl⟩

theorem holds_any (p x n : Int) (w : World) :
    Calls Tryd.prog 32 #[.int .i64 p, .int .i64 x, .int .i64 n] w fun e w' => e = .returned (.bool (holdsB p x n)) ∧ w' = w := by
  by_cases h1 : p = 1
  · subst h1
    obtain ⟨q, HQ⟩ : ∃ q, Hid ((decide (0 ≤ x) && decide (x < 8)) = q) := ⟨_, rfl⟩
    go_enter Tryd.func32, Tryd.ntmps32
    go_wp2_with fail
    refine (isReg_any x _).mono ?_
    rw [HQ.out]
    rintro e w1 ⟨rfl, hw1⟩
    subst hw1
    go_wp2
    go_ret
    exact ⟨by rw [← HQ.out]; simp [holdsB], rfl⟩
  have e1 : (p == 1) = false := by simpa using h1
  by_cases h2 : p = 2
  · subst h2
    by_cases a : x ≥ 0
    · have a2 : 0 ≤ x := a
      go_enter Tryd.func32, Tryd.ntmps32
      go_wp2
      go_ret
      exact ⟨by simp [holdsB, a2], rfl⟩
    · have a2 : ¬ 0 ≤ x := a
      go_enter Tryd.func32, Tryd.ntmps32
      go_wp2
      go_ret
      exact ⟨by simp [holdsB] <;> omega, rfl⟩
  have e2 : (p == 2) = false := by simpa using h2
  by_cases h3 : p = 3
  · subst h3
    by_cases a : x ≥ 0
    · have a2 : 0 ≤ x := a
      go_enter Tryd.func32, Tryd.ntmps32
      go_wp2
      go_ret
      exact ⟨by simp [holdsB, a2], rfl⟩
    · have a2 : ¬ 0 ≤ x := a
      go_enter Tryd.func32, Tryd.ntmps32
      go_wp2
      go_ret
      exact ⟨by simp [holdsB] <;> omega, rfl⟩
  have e3 : (p == 3) = false := by simpa using h3
  by_cases h4 : p = 4
  · subst h4
    go_enter Tryd.func32, Tryd.ntmps32
    go_wp2
    go_ret
    exact ⟨by simp [holdsB], rfl⟩
  have e4 : (p == 4) = false := by simpa using h4
  go_enter Tryd.func32, Tryd.ntmps32
  go_wp2
  go_ret
  refine ⟨?_, rfl⟩
  by_cases hx : x = 0 <;> simp [holdsB, h1, h2, h3, h4, hx]

/-- A form is returned. -/
def GivesForm (w : World) (op : Int) (e : Ending) (w' : World) : Prop :=
  e = .returned (.tuple #[.agg #[.int .i64 (formV op).r, .int .i64 (formV op).a, .int .i64 (formV op).b, .int .i64 (formV op).n], .bool (formOk op)]) ∧ Below w.heap.size w w'

/-- The number of an op of chapter 1. -/
theorem opWord {op : Int} (hr : -9223372036854775808 ≤ op ∧ op ≤ 9223372036854775807) : wordOkV (IntKind.i64.wrap (op - 11)) = decide (12 ≤ op ∧ op ≤ 21) := by
  have e : IntKind.i64.wrap (op - 11) = if op < -9223372036854775797 then op - 11 + 18446744073709551616 else op - 11 := by
    rw [IntKind.wrap_i64]
    split <;> omega
  rw [e]
  unfold wordOkV
  congr 1
  simp only [eq_iff_iff]
  split <;> omega

set_option maxHeartbeats 1000000 in
theorem formOf_any (op : Int) (w : World) (hr : -9223372036854775808 ≤ op ∧ op ≤ 9223372036854775807) (hT : FTab w) :
    Calls Tryd.prog 31 #[.int .i64 op] w fun e w' => GivesForm w op e w' := by
  have hw := opWord hr
  obtain ⟨y, HY⟩ : ∃ y, Hid (IntKind.i64.wrap (op - 11) = y) := ⟨_, rfl⟩
  rw [HY.out] at hw
  have hy : IntKind.i64.wrap (op - 11) = y := HY.out
  have h0 : 0 < w.heap.size := World.block_lt_of_cell? w _ (hT 0 (by omega)).1
  by_cases h1 : 12 ≤ op ∧ op ≤ 21
  · have hw1 : wordOkV y = true := by rw [hw]; simp [h1.1, h1.2]
    have H1 : Hid (12 ≤ op ∧ op ≤ 21) := h1
    clear h1 hw hT
    go_enter Tryd.func31, Tryd.ntmps31
    go_wp2_with fail
    refine (impl_wordOk y _).mono ?_
    rintro e w1 ⟨rfl, hw1'⟩
    subst hw1'
    rw [hw1]
    go_wp2
    refine bodyPost_ret (v := .tuple #[.agg #[.int .i64 1, .int .i64 1, .int .i64 1, .int .i64 0], .bool true]) (by simp [results, Tryd.results31, go_sem]) rfl ?_
    refine ⟨?_, by repeat (first | exact Below.refl _ _ | apply Below.drew | refine Below.alloc ?_ (by simp <;> omega) _ | refine Below.setCell ?_ (by simp <;> omega) _)⟩
    rw [formV_word H1.out.1 H1.out.2, formOk_yes (by have := H1.out; omega) H1.out.2]
  · have hw1 : wordOkV y = false := by rw [hw]; simpa using h1
    by_cases h2 : 1 ≤ op ∧ op ≤ 11
    · obtain ⟨k, rfl⟩ : ∃ k : Nat, op = (k : Int) := ⟨op.toNat, by omega⟩
      have hlt : ¬ (k : Int) < 1 := by omega
      have hgt : ¬ (11 : Int) < (k : Int) := by omega
      have hk12 : (k : Int) < 12 := by omega
      obtain ⟨c0, c1, c2, c3⟩ := hT k (by omega)
      have HF : Hid (formV (k : Int) = formAt k) := by
        have := formV_tab (op := (k : Int)) (by omega)
        show _ = _
        simpa using this
      obtain ⟨fm, HG⟩ : ∃ f, Hid (formAt k = f) := ⟨_, rfl⟩
      rw [HG.out] at c0 c1 c2 c3
      obtain ⟨f0, f1, f2, f3⟩ := fm
      dsimp only at c0 c1 c2 c3
      have HK : Hid (1 ≤ (k : Int) ∧ (k : Int) ≤ 11) := h2
      clear hT h1 h2 hw hr
      go_enter Tryd.func31, Tryd.ntmps31
      go_wp2_with fail
      refine (impl_wordOk y _).mono ?_
      rintro e w1 ⟨rfl, hw1'⟩
      subst hw1'
      rw [hw1]
      go_wp2
      refine bodyPost_ret (v := .tuple #[.agg #[.int .i64 f0, .int .i64 f1, .int .i64 f2, .int .i64 f3], .bool true]) (by simp [results, Tryd.results31, go_sem]) rfl ?_
      refine ⟨?_, by repeat (first | exact Below.refl _ _ | apply Below.drew | refine Below.alloc ?_ (by simp <;> omega) _ | refine Below.setCell ?_ (by simp <;> omega) _)⟩
      rw [HF.out, HG.out, formOk_yes (by have := HK.out; omega) (by have := HK.out; omega)]
    · have H3 : Hid (op < 1 ∨ 21 < op) := by show _ ∨ _; omega
      have HV : Hid (formV op = ⟨0, 0, 0, 0⟩) := by
        show _ = _
        unfold formV
        rw [if_neg h1]
        have : op.toNat = 0 ∨ 12 ≤ op.toNat := by omega
        unfold formAt
        split <;> first | omega | rfl
      have hout : ¬ op < 1 → (11 : Int) < op := by omega
      clear hT h1 h2 hw hr
      by_cases hlt : op < 1
      · clear hout
        go_enter Tryd.func31, Tryd.ntmps31
        go_wp2_with fail
        refine (impl_wordOk y _).mono ?_
        rintro e w1 ⟨rfl, hw1'⟩
        subst hw1'
        rw [hw1]
        go_wp2
        refine bodyPost_ret (v := .tuple #[.agg #[.int .i64 0, .int .i64 0, .int .i64 0, .int .i64 0], .bool false]) (by simp [results, Tryd.results31, go_sem]) rfl ?_
        refine ⟨?_, by repeat (first | exact Below.refl _ _ | apply Below.drew | refine Below.alloc ?_ (by simp <;> omega) _ | refine Below.setCell ?_ (by simp <;> omega) _)⟩
        rw [HV.out, formOk_no H3.out]
      · have hgt := hout hlt
        clear hout
        go_enter Tryd.func31, Tryd.ntmps31
        go_wp2_with fail
        refine (impl_wordOk y _).mono ?_
        rintro e w1 ⟨rfl, hw1'⟩
        subst hw1'
        rw [hw1]
        go_wp2
        refine bodyPost_ret (v := .tuple #[.agg #[.int .i64 0, .int .i64 0, .int .i64 0, .int .i64 0], .bool false]) (by simp [results, Tryd.results31, go_sem]) rfl ?_
        refine ⟨?_, by repeat (first | exact Below.refl _ _ | apply Below.drew | refine Below.alloc ?_ (by simp <;> omega) _ | refine Below.setCell ?_ (by simp <;> omega) _)⟩
        rw [HV.out, formOk_no H3.out]

set_option maxHeartbeats 2000000 in
theorem impl_stepOk (op d a b n len : Int) (w : World) (hr : -9223372036854775808 ≤ op ∧ op ≤ 9223372036854775807) (hT : FTab w) :
    Calls Tryd.prog 10 #[.agg #[.int .i64 op, .int .i64 d, .int .i64 a, .int .i64 b, .int .i64 n], .int .i64 len] w fun e w' => AnsB w (stepOkB ⟨op, d, a, b, n⟩ len) e w' := by
  have HS : Hid (stepOkB ⟨op, d, a, b, n⟩ len = (formOk op && (holdsB (formV op).r d len && (holdsB (formV op).a a len && (holdsB (formV op).b b len && holdsB (formV op).n n len))))) := rfl
  rw [HS.out]
  clear HS
  have HT : Hid (FTab w) := hT
  have HO : Hid (-9223372036854775808 ≤ op ∧ op ≤ 9223372036854775807) := hr
  clear hT hr
  obtain ⟨ok, HK⟩ : ∃ ok, Hid (formOk op = ok) := ⟨_, rfl⟩
  obtain ⟨fm, HF⟩ : ∃ f, Hid (formV op = f) := ⟨_, rfl⟩
  obtain ⟨f0, f1, f2, f3⟩ := fm
  rw [HK.out, HF.out]
  obtain ⟨p0, P0⟩ : ∃ p, Hid (holdsB f0 d len = p) := ⟨_, rfl⟩
  obtain ⟨p1, P1⟩ : ∃ p, Hid (holdsB f1 a len = p) := ⟨_, rfl⟩
  obtain ⟨p2, P2⟩ : ∃ p, Hid (holdsB f2 b len = p) := ⟨_, rfl⟩
  obtain ⟨p3, P3⟩ : ∃ p, Hid (holdsB f3 n len = p) := ⟨_, rfl⟩
  dsimp only
  rw [P0.out, P1.out, P2.out, P3.out]
  go_enter Tryd.func10, Tryd.ntmps10
  go_wp2_with fail
  refine (formOf_any op _ HO.out (HT.out.keep (Bel.alloc _ _))).mono ?_
  rintro e w1 ⟨rfl, b1⟩
  obtain ⟨c0, c1, c2, c3, c4⟩ := (insBox_new w _ op d a b n).keep b1
  have HB : Hid (Below w.heap.size w w1) := Bel.after (Bel.alloc _ _) b1
  have hlt : w.heap.size < w1.heap.size := by have := b1.size; simp at this; omega
  clear b1
  rw [HK.out, HF.out]
  dsimp only
  cases ok with
  | false =>
    go_wp2
    go_ret
    exact ⟨rfl, HB.out.alloc (Nat.le_of_lt hlt) _⟩
  | true =>
    go_wp2_with fail
    refine (holds_any f0 d len _).mono ?_
    rintro e w2 ⟨rfl, hw2⟩
    subst hw2
    rw [P0.out]
    cases p0 with
    | false =>
      go_wp2
      go_ret
      exact ⟨rfl, HB.out.alloc (Nat.le_of_lt hlt) _⟩
    | true =>
      go_wp2_with fail
      refine (holds_any f1 a len _).mono ?_
      rintro e w2 ⟨rfl, hw2⟩
      subst hw2
      rw [P1.out]
      cases p1 with
      | false =>
        go_wp2
        go_ret
        exact ⟨rfl, HB.out.alloc (Nat.le_of_lt hlt) _⟩
      | true =>
        go_wp2_with fail
        refine (holds_any f2 b len _).mono ?_
        rintro e w2 ⟨rfl, hw2⟩
        subst hw2
        rw [P2.out]
        cases p2 with
        | false =>
          go_wp2
          go_ret
          exact ⟨rfl, HB.out.alloc (Nat.le_of_lt hlt) _⟩
        | true =>
          go_wp2_with fail
          refine (holds_any f3 n len _).mono ?_
          rintro e w2 ⟨rfl, hw2⟩
          subst hw2
          rw [P3.out]
          go_wp2
          go_ret
          exact ⟨rfl, HB.out.alloc (Nat.le_of_lt hlt) _⟩

theorem l14Reg_any (x : Int) (w : World) :
    Calls Tryd.prog 33 #[.int .i64 x] w fun e w' => e = .returned (.bool (decide (0 ≤ x) && decide (x ≤ 7))) ∧ w' = w := by
  go_enter Tryd.func33, Tryd.ntmps33
  go_wp2_with fail
  refine (l1In_any x 0 7 _).mono ?_
  rintro e w1 ⟨rfl, hw1⟩
  subst hw1
  go_wp2
  go_ret
  exact ⟨rfl, rfl⟩

/-- The model's test, by the kind of op, where the registers are right. -/
def specOk (op d a b n len : Int) : Bool :=
  if op = 1 then decide (a = 0) && decide (b = 0)
  else if op = 2 ∨ op = 5 then decide (b = 0) && decide (n = 0)
  else if op = 3 then (decide (0 ≤ n) && decide (n ≤ 39)) && (decide (a = 0) && decide (b = 0))
  else if op = 4 then (decide (0 ≤ n) && decide (n ≤ 39)) && (decide (d = 0) && decide (b = 0))
  else if op = 6 then decide (d = 0) && decide (n = 0)
  else if op = 7 ∨ op = 11 then decide (d = 0) && (decide (b = 0) && decide (n = 0))
  else if op = 8 then decide (a = 0) && (decide (b = 0) && decide (n = 0))
  else if op = 9 then (decide (0 ≤ n) && decide (n < len)) && (decide (d = 0) && (decide (a = 0) && decide (b = 0)))
  else if op = 10 then (decide (0 ≤ n) && decide (n < len)) && (decide (d = 0) && decide (b = 0))
  else decide (12 ≤ op ∧ op ≤ 21) && decide (n = 0)
theorem specOk_is (op d a b n len : Int) (hd : 0 ≤ d ∧ d ≤ 7) (ha : 0 ≤ a ∧ a ≤ 7) (hb : 0 ≤ b ∧ b ≤ 7) : stepOkB ⟨op, d, a, b, n⟩ len = specOk op d a b n len := by
  have reg : ∀ x : Int, 0 ≤ x ∧ x ≤ 7 → holdsB 1 x len = true := fun x hx => by simp [holdsB]; omega
  have nul : ∀ x : Int, holdsB 0 x len = decide (x = 0) := fun x => by simp [holdsB]
  have slot : ∀ x : Int, holdsB 2 x len = (decide (0 ≤ x) && decide (x ≤ 39)) := fun x => by
    simp only [holdsB]
    by_cases h : x ≤ 39
    · have : x < 40 := by omega
      simp [h, this]
    · have : ¬ x < 40 := by omega
      simp [h, this]
  have place : ∀ x : Int, holdsB 3 x len = (decide (0 ≤ x) && decide (x < len)) := fun x => by simp [holdsB]
  have num : ∀ x : Int, holdsB 4 x len = true := fun x => by simp [holdsB]
  unfold stepOkB
  dsimp only
  rcases op_kinds op with rfl | rfl | rfl | rfl | rfl | rfl | rfl | rfl | rfl | rfl | rfl | h | h
  · show (true && (holdsB 1 d len && (holdsB 0 a len && (holdsB 0 b len && holdsB 4 n len)))) = (decide (a = 0) && decide (b = 0))
    rw [reg d hd, nul a, nul b, num n]
    generalize decide (d = 0) = z1
    generalize decide (a = 0) = z2
    generalize decide (b = 0) = z3
    generalize decide (n = 0) = z4
    generalize decide (0 ≤ n) = z5
    generalize decide (n ≤ 39) = z6
    generalize decide (n < len) = z7
    cases z1 <;> cases z2 <;> cases z3 <;> cases z4 <;> cases z5 <;> cases z6 <;> cases z7 <;> rfl
  · show (true && (holdsB 1 d len && (holdsB 1 a len && (holdsB 0 b len && holdsB 0 n len)))) = (decide (b = 0) && decide (n = 0))
    rw [reg d hd, reg a ha, nul b, nul n]
    generalize decide (d = 0) = z1
    generalize decide (a = 0) = z2
    generalize decide (b = 0) = z3
    generalize decide (n = 0) = z4
    generalize decide (0 ≤ n) = z5
    generalize decide (n ≤ 39) = z6
    generalize decide (n < len) = z7
    cases z1 <;> cases z2 <;> cases z3 <;> cases z4 <;> cases z5 <;> cases z6 <;> cases z7 <;> rfl
  · show (true && (holdsB 1 d len && (holdsB 0 a len && (holdsB 0 b len && holdsB 2 n len)))) = ((decide (0 ≤ n) && decide (n ≤ 39)) && (decide (a = 0) && decide (b = 0)))
    rw [reg d hd, nul a, nul b, slot n]
    generalize decide (d = 0) = z1
    generalize decide (a = 0) = z2
    generalize decide (b = 0) = z3
    generalize decide (n = 0) = z4
    generalize decide (0 ≤ n) = z5
    generalize decide (n ≤ 39) = z6
    generalize decide (n < len) = z7
    cases z1 <;> cases z2 <;> cases z3 <;> cases z4 <;> cases z5 <;> cases z6 <;> cases z7 <;> rfl
  · show (true && (holdsB 0 d len && (holdsB 1 a len && (holdsB 0 b len && holdsB 2 n len)))) = ((decide (0 ≤ n) && decide (n ≤ 39)) && (decide (d = 0) && decide (b = 0)))
    rw [nul d, reg a ha, nul b, slot n]
    generalize decide (d = 0) = z1
    generalize decide (a = 0) = z2
    generalize decide (b = 0) = z3
    generalize decide (n = 0) = z4
    generalize decide (0 ≤ n) = z5
    generalize decide (n ≤ 39) = z6
    generalize decide (n < len) = z7
    cases z1 <;> cases z2 <;> cases z3 <;> cases z4 <;> cases z5 <;> cases z6 <;> cases z7 <;> rfl
  · show (true && (holdsB 1 d len && (holdsB 1 a len && (holdsB 0 b len && holdsB 0 n len)))) = (decide (b = 0) && decide (n = 0))
    rw [reg d hd, reg a ha, nul b, nul n]
    generalize decide (d = 0) = z1
    generalize decide (a = 0) = z2
    generalize decide (b = 0) = z3
    generalize decide (n = 0) = z4
    generalize decide (0 ≤ n) = z5
    generalize decide (n ≤ 39) = z6
    generalize decide (n < len) = z7
    cases z1 <;> cases z2 <;> cases z3 <;> cases z4 <;> cases z5 <;> cases z6 <;> cases z7 <;> rfl
  · show (true && (holdsB 0 d len && (holdsB 1 a len && (holdsB 1 b len && holdsB 0 n len)))) = (decide (d = 0) && decide (n = 0))
    rw [nul d, reg a ha, reg b hb, nul n]
    generalize decide (d = 0) = z1
    generalize decide (a = 0) = z2
    generalize decide (b = 0) = z3
    generalize decide (n = 0) = z4
    generalize decide (0 ≤ n) = z5
    generalize decide (n ≤ 39) = z6
    generalize decide (n < len) = z7
    cases z1 <;> cases z2 <;> cases z3 <;> cases z4 <;> cases z5 <;> cases z6 <;> cases z7 <;> rfl
  · show (true && (holdsB 0 d len && (holdsB 1 a len && (holdsB 0 b len && holdsB 0 n len)))) = (decide (d = 0) && (decide (b = 0) && decide (n = 0)))
    rw [nul d, reg a ha, nul b, nul n]
    generalize decide (d = 0) = z1
    generalize decide (a = 0) = z2
    generalize decide (b = 0) = z3
    generalize decide (n = 0) = z4
    generalize decide (0 ≤ n) = z5
    generalize decide (n ≤ 39) = z6
    generalize decide (n < len) = z7
    cases z1 <;> cases z2 <;> cases z3 <;> cases z4 <;> cases z5 <;> cases z6 <;> cases z7 <;> rfl
  · show (true && (holdsB 1 d len && (holdsB 0 a len && (holdsB 0 b len && holdsB 0 n len)))) = (decide (a = 0) && (decide (b = 0) && decide (n = 0)))
    rw [reg d hd, nul a, nul b, nul n]
    generalize decide (d = 0) = z1
    generalize decide (a = 0) = z2
    generalize decide (b = 0) = z3
    generalize decide (n = 0) = z4
    generalize decide (0 ≤ n) = z5
    generalize decide (n ≤ 39) = z6
    generalize decide (n < len) = z7
    cases z1 <;> cases z2 <;> cases z3 <;> cases z4 <;> cases z5 <;> cases z6 <;> cases z7 <;> rfl
  · show (true && (holdsB 0 d len && (holdsB 0 a len && (holdsB 0 b len && holdsB 3 n len)))) = ((decide (0 ≤ n) && decide (n < len)) && (decide (d = 0) && (decide (a = 0) && decide (b = 0))))
    rw [nul d, nul a, nul b, place n]
    generalize decide (d = 0) = z1
    generalize decide (a = 0) = z2
    generalize decide (b = 0) = z3
    generalize decide (n = 0) = z4
    generalize decide (0 ≤ n) = z5
    generalize decide (n ≤ 39) = z6
    generalize decide (n < len) = z7
    cases z1 <;> cases z2 <;> cases z3 <;> cases z4 <;> cases z5 <;> cases z6 <;> cases z7 <;> rfl
  · show (true && (holdsB 0 d len && (holdsB 1 a len && (holdsB 0 b len && holdsB 3 n len)))) = ((decide (0 ≤ n) && decide (n < len)) && (decide (d = 0) && decide (b = 0)))
    rw [nul d, reg a ha, nul b, place n]
    generalize decide (d = 0) = z1
    generalize decide (a = 0) = z2
    generalize decide (b = 0) = z3
    generalize decide (n = 0) = z4
    generalize decide (0 ≤ n) = z5
    generalize decide (n ≤ 39) = z6
    generalize decide (n < len) = z7
    cases z1 <;> cases z2 <;> cases z3 <;> cases z4 <;> cases z5 <;> cases z6 <;> cases z7 <;> rfl
  · show (true && (holdsB 0 d len && (holdsB 1 a len && (holdsB 0 b len && holdsB 0 n len)))) = (decide (d = 0) && (decide (b = 0) && decide (n = 0)))
    rw [nul d, reg a ha, nul b, nul n]
    generalize decide (d = 0) = z1
    generalize decide (a = 0) = z2
    generalize decide (b = 0) = z3
    generalize decide (n = 0) = z4
    generalize decide (0 ≤ n) = z5
    generalize decide (n ≤ 39) = z6
    generalize decide (n < len) = z7
    cases z1 <;> cases z2 <;> cases z3 <;> cases z4 <;> cases z5 <;> cases z6 <;> cases z7 <;> rfl
  · rw [formV_word h.1 h.2, formOk_yes (by omega) h.2]
    unfold specOk
    rw [if_neg (by omega), if_neg (by omega), if_neg (by omega), if_neg (by omega), if_neg (by omega), if_neg (by omega), if_neg (by omega), if_neg (by omega), if_neg (by omega)]
    simp [reg d hd, reg a ha, reg b hb, nul, h.1, h.2]
  · rw [formOk_no h]
    unfold specOk
    rw [if_neg (by omega), if_neg (by omega), if_neg (by omega), if_neg (by omega), if_neg (by omega), if_neg (by omega), if_neg (by omega), if_neg (by omega), if_neg (by omega)]
    simp
    omega

theorem retB {x y : Bool} (h : x = y) : Ending.returned (.bool x) = .returned (.bool y) := by rw [h]

set_option maxRecDepth 100000 in
set_option maxHeartbeats 8000000 in
theorem spec_stepOk (op d a b n len : Int) (w : World) (hr : -9223372036854775808 ≤ op ∧ op ≤ 9223372036854775807) :
    Calls Tryd.prog 11 #[.agg #[.int .i64 op, .int .i64 d, .int .i64 a, .int .i64 b, .int .i64 n], .int .i64 len] w fun e w' => AnsB w (stepOkB ⟨op, d, a, b, n⟩ len) e w' := by
  have HO : Hid (-9223372036854775808 ≤ op ∧ op ≤ 9223372036854775807) := hr
  clear hr
  obtain ⟨rd, RD⟩ : ∃ r, Hid ((decide (0 ≤ d) && decide (d ≤ 7)) = r) := ⟨_, rfl⟩
  obtain ⟨ra, RA⟩ : ∃ r, Hid ((decide (0 ≤ a) && decide (a ≤ 7)) = r) := ⟨_, rfl⟩
  obtain ⟨rb, RB⟩ : ∃ r, Hid ((decide (0 ≤ b) && decide (b ≤ 7)) = r) := ⟨_, rfl⟩
  obtain ⟨sl, SL⟩ : ∃ r, Hid ((decide (0 ≤ n) && decide (n ≤ 39)) = r) := ⟨_, rfl⟩
  go_enter Tryd.func11, Tryd.ntmps11
  go_wp2_with fail
  refine (l14Reg_any d _).mono ?_
  rintro e w1 ⟨rfl, hw1⟩
  subst hw1
  rw [RD.out]
  cases rd with
  | false =>
    go_wp2
    go_ret
    refine ⟨retB ?_, by repeat (first | exact Below.refl _ _ | apply Below.drew | refine Below.alloc ?_ (by simp <;> omega) _ | refine Below.setCell ?_ (by simp <;> omega) _)⟩
    rw [stepOkB_noreg]
    rintro ⟨h1, h2, h3⟩
    have := RD.out
    simp at this
    dsimp only at h1 h2 h3
    omega
  | true =>
    go_wp2_with fail
    refine (l14Reg_any a _).mono ?_
    rintro e w1 ⟨rfl, hw1⟩
    subst hw1
    rw [RA.out]
    cases ra with
    | false =>
      go_wp2
      go_ret
      refine ⟨retB ?_, by repeat (first | exact Below.refl _ _ | apply Below.drew | refine Below.alloc ?_ (by simp <;> omega) _ | refine Below.setCell ?_ (by simp <;> omega) _)⟩
      rw [stepOkB_noreg]
      rintro ⟨h1, h2, h3⟩
      have := RA.out
      simp at this
      dsimp only at h1 h2 h3
      omega
    | true =>
      go_wp2_with fail
      refine (l14Reg_any b _).mono ?_
      rintro e w1 ⟨rfl, hw1⟩
      subst hw1
      rw [RB.out]
      cases rb with
      | false =>
        go_wp2
        go_ret
        refine ⟨retB ?_, by repeat (first | exact Below.refl _ _ | apply Below.drew | refine Below.alloc ?_ (by simp <;> omega) _ | refine Below.setCell ?_ (by simp <;> omega) _)⟩
        rw [stepOkB_noreg]
        rintro ⟨h1, h2, h3⟩
        have := RB.out
        simp at this
        dsimp only at h1 h2 h3
        omega
      | true =>
        have HI : Hid (stepOkB ⟨op, d, a, b, n⟩ len = specOk op d a b n len) := specOk_is op d a b n len (by have := RD.out; simp at this; omega) (by have := RA.out; simp at this; omega) (by have := RB.out; simp at this; omega)
        clear RD RA RB
        go_wp2_with fail
        refine (l1In_any n 0 39 _).mono ?_
        rintro e w1 ⟨rfl, hw1⟩
        subst hw1
        rw [SL.out]
        by_cases hn0 : n ≥ 0
        · rcases op_kinds op with rfl | rfl | rfl | rfl | rfl | rfl | rfl | rfl | rfl | rfl | rfl | h | h
          · have HS : Hid (stepOkB ⟨1, d, a, b, n⟩ len = (decide (a = 0) && decide (b = 0))) := HI.out.trans rfl
            by_cases za : a = 0
            · subst za
              go_wp2
              go_ret
              exact ⟨retB (by rw [HS.out, Bool.eq_iff_iff]; simp <;> omega), by repeat (first | exact Below.refl _ _ | apply Below.drew | refine Below.alloc ?_ (by simp <;> omega) _ | refine Below.setCell ?_ (by simp <;> omega) _)⟩
            · have ea : (a == 0) = false := by simpa using za
              go_wp2
              go_ret
              exact ⟨retB (by rw [HS.out, Bool.eq_iff_iff]; simp <;> omega), by repeat (first | exact Below.refl _ _ | apply Below.drew | refine Below.alloc ?_ (by simp <;> omega) _ | refine Below.setCell ?_ (by simp <;> omega) _)⟩
          · have HS : Hid (stepOkB ⟨2, d, a, b, n⟩ len = (decide (b = 0) && decide (n = 0))) := HI.out.trans rfl
            by_cases zb : b = 0
            · subst zb
              go_wp2
              go_ret
              exact ⟨retB (by rw [HS.out, Bool.eq_iff_iff]; simp <;> omega), by repeat (first | exact Below.refl _ _ | apply Below.drew | refine Below.alloc ?_ (by simp <;> omega) _ | refine Below.setCell ?_ (by simp <;> omega) _)⟩
            · have eb : (b == 0) = false := by simpa using zb
              go_wp2
              go_ret
              exact ⟨retB (by rw [HS.out, Bool.eq_iff_iff]; simp <;> omega), by repeat (first | exact Below.refl _ _ | apply Below.drew | refine Below.alloc ?_ (by simp <;> omega) _ | refine Below.setCell ?_ (by simp <;> omega) _)⟩
          · have HS : Hid (stepOkB ⟨3, d, a, b, n⟩ len = ((decide (0 ≤ n) && decide (n ≤ 39)) && (decide (a = 0) && decide (b = 0)))) := HI.out.trans rfl
            cases sl with
            | false =>
              go_wp2
              go_ret
              exact ⟨retB (by rw [HS.out, SL.out, Bool.eq_iff_iff]; simp <;> omega), by repeat (first | exact Below.refl _ _ | apply Below.drew | refine Below.alloc ?_ (by simp <;> omega) _ | refine Below.setCell ?_ (by simp <;> omega) _)⟩
            | true =>
              by_cases za : a = 0
              · subst za
                go_wp2
                go_ret
                exact ⟨retB (by rw [HS.out, SL.out, Bool.eq_iff_iff]; simp <;> omega), by repeat (first | exact Below.refl _ _ | apply Below.drew | refine Below.alloc ?_ (by simp <;> omega) _ | refine Below.setCell ?_ (by simp <;> omega) _)⟩
              · have ea : (a == 0) = false := by simpa using za
                go_wp2
                go_ret
                exact ⟨retB (by rw [HS.out, SL.out, Bool.eq_iff_iff]; simp <;> omega), by repeat (first | exact Below.refl _ _ | apply Below.drew | refine Below.alloc ?_ (by simp <;> omega) _ | refine Below.setCell ?_ (by simp <;> omega) _)⟩
          · have HS : Hid (stepOkB ⟨4, d, a, b, n⟩ len = ((decide (0 ≤ n) && decide (n ≤ 39)) && (decide (d = 0) && decide (b = 0)))) := HI.out.trans rfl
            cases sl with
            | false =>
              go_wp2
              go_ret
              exact ⟨retB (by rw [HS.out, SL.out, Bool.eq_iff_iff]; simp <;> omega), by repeat (first | exact Below.refl _ _ | apply Below.drew | refine Below.alloc ?_ (by simp <;> omega) _ | refine Below.setCell ?_ (by simp <;> omega) _)⟩
            | true =>
              by_cases zd : d = 0
              · subst zd
                go_wp2
                go_ret
                exact ⟨retB (by rw [HS.out, SL.out, Bool.eq_iff_iff]; simp <;> omega), by repeat (first | exact Below.refl _ _ | apply Below.drew | refine Below.alloc ?_ (by simp <;> omega) _ | refine Below.setCell ?_ (by simp <;> omega) _)⟩
              · have ed : (d == 0) = false := by simpa using zd
                go_wp2
                go_ret
                exact ⟨retB (by rw [HS.out, SL.out, Bool.eq_iff_iff]; simp <;> omega), by repeat (first | exact Below.refl _ _ | apply Below.drew | refine Below.alloc ?_ (by simp <;> omega) _ | refine Below.setCell ?_ (by simp <;> omega) _)⟩
          · have HS : Hid (stepOkB ⟨5, d, a, b, n⟩ len = (decide (b = 0) && decide (n = 0))) := HI.out.trans rfl
            by_cases zb : b = 0
            · subst zb
              go_wp2
              go_ret
              exact ⟨retB (by rw [HS.out, Bool.eq_iff_iff]; simp <;> omega), by repeat (first | exact Below.refl _ _ | apply Below.drew | refine Below.alloc ?_ (by simp <;> omega) _ | refine Below.setCell ?_ (by simp <;> omega) _)⟩
            · have eb : (b == 0) = false := by simpa using zb
              go_wp2
              go_ret
              exact ⟨retB (by rw [HS.out, Bool.eq_iff_iff]; simp <;> omega), by repeat (first | exact Below.refl _ _ | apply Below.drew | refine Below.alloc ?_ (by simp <;> omega) _ | refine Below.setCell ?_ (by simp <;> omega) _)⟩
          · have HS : Hid (stepOkB ⟨6, d, a, b, n⟩ len = (decide (d = 0) && decide (n = 0))) := HI.out.trans rfl
            by_cases zd : d = 0
            · subst zd
              go_wp2
              go_ret
              exact ⟨retB (by rw [HS.out, Bool.eq_iff_iff]; simp <;> omega), by repeat (first | exact Below.refl _ _ | apply Below.drew | refine Below.alloc ?_ (by simp <;> omega) _ | refine Below.setCell ?_ (by simp <;> omega) _)⟩
            · have ed : (d == 0) = false := by simpa using zd
              go_wp2
              go_ret
              exact ⟨retB (by rw [HS.out, Bool.eq_iff_iff]; simp <;> omega), by repeat (first | exact Below.refl _ _ | apply Below.drew | refine Below.alloc ?_ (by simp <;> omega) _ | refine Below.setCell ?_ (by simp <;> omega) _)⟩
          · have HS : Hid (stepOkB ⟨7, d, a, b, n⟩ len = (decide (d = 0) && (decide (b = 0) && decide (n = 0)))) := HI.out.trans rfl
            by_cases zd : d = 0
            · subst zd
              by_cases zb : b = 0
              · subst zb
                go_wp2
                go_ret
                exact ⟨retB (by rw [HS.out, Bool.eq_iff_iff]; simp <;> omega), by repeat (first | exact Below.refl _ _ | apply Below.drew | refine Below.alloc ?_ (by simp <;> omega) _ | refine Below.setCell ?_ (by simp <;> omega) _)⟩
              · have eb : (b == 0) = false := by simpa using zb
                go_wp2
                go_ret
                exact ⟨retB (by rw [HS.out, Bool.eq_iff_iff]; simp <;> omega), by repeat (first | exact Below.refl _ _ | apply Below.drew | refine Below.alloc ?_ (by simp <;> omega) _ | refine Below.setCell ?_ (by simp <;> omega) _)⟩
            · have ed : (d == 0) = false := by simpa using zd
              go_wp2
              go_ret
              exact ⟨retB (by rw [HS.out, Bool.eq_iff_iff]; simp <;> omega), by repeat (first | exact Below.refl _ _ | apply Below.drew | refine Below.alloc ?_ (by simp <;> omega) _ | refine Below.setCell ?_ (by simp <;> omega) _)⟩
          · have HS : Hid (stepOkB ⟨8, d, a, b, n⟩ len = (decide (a = 0) && (decide (b = 0) && decide (n = 0)))) := HI.out.trans rfl
            by_cases za : a = 0
            · subst za
              by_cases zb : b = 0
              · subst zb
                go_wp2
                go_ret
                exact ⟨retB (by rw [HS.out, Bool.eq_iff_iff]; simp <;> omega), by repeat (first | exact Below.refl _ _ | apply Below.drew | refine Below.alloc ?_ (by simp <;> omega) _ | refine Below.setCell ?_ (by simp <;> omega) _)⟩
              · have eb : (b == 0) = false := by simpa using zb
                go_wp2
                go_ret
                exact ⟨retB (by rw [HS.out, Bool.eq_iff_iff]; simp <;> omega), by repeat (first | exact Below.refl _ _ | apply Below.drew | refine Below.alloc ?_ (by simp <;> omega) _ | refine Below.setCell ?_ (by simp <;> omega) _)⟩
            · have ea : (a == 0) = false := by simpa using za
              go_wp2
              go_ret
              exact ⟨retB (by rw [HS.out, Bool.eq_iff_iff]; simp <;> omega), by repeat (first | exact Below.refl _ _ | apply Below.drew | refine Below.alloc ?_ (by simp <;> omega) _ | refine Below.setCell ?_ (by simp <;> omega) _)⟩
          · have HS : Hid (stepOkB ⟨9, d, a, b, n⟩ len = ((decide (0 ≤ n) && decide (n < len)) && (decide (d = 0) && (decide (a = 0) && decide (b = 0))))) := HI.out.trans rfl
            by_cases hpl : n < len
            · by_cases zd : d = 0
              · subst zd
                by_cases za : a = 0
                · subst za
                  go_wp2
                  go_ret
                  exact ⟨retB (by rw [HS.out, Bool.eq_iff_iff]; simp <;> omega), by repeat (first | exact Below.refl _ _ | apply Below.drew | refine Below.alloc ?_ (by simp <;> omega) _ | refine Below.setCell ?_ (by simp <;> omega) _)⟩
                · have ea : (a == 0) = false := by simpa using za
                  go_wp2
                  go_ret
                  exact ⟨retB (by rw [HS.out, Bool.eq_iff_iff]; simp <;> omega), by repeat (first | exact Below.refl _ _ | apply Below.drew | refine Below.alloc ?_ (by simp <;> omega) _ | refine Below.setCell ?_ (by simp <;> omega) _)⟩
              · have ed : (d == 0) = false := by simpa using zd
                go_wp2
                go_ret
                exact ⟨retB (by rw [HS.out, Bool.eq_iff_iff]; simp <;> omega), by repeat (first | exact Below.refl _ _ | apply Below.drew | refine Below.alloc ?_ (by simp <;> omega) _ | refine Below.setCell ?_ (by simp <;> omega) _)⟩
            · go_wp2
              go_ret
              exact ⟨retB (by rw [HS.out, Bool.eq_iff_iff]; simp <;> omega), by repeat (first | exact Below.refl _ _ | apply Below.drew | refine Below.alloc ?_ (by simp <;> omega) _ | refine Below.setCell ?_ (by simp <;> omega) _)⟩
          · have HS : Hid (stepOkB ⟨10, d, a, b, n⟩ len = ((decide (0 ≤ n) && decide (n < len)) && (decide (d = 0) && decide (b = 0)))) := HI.out.trans rfl
            by_cases hpl : n < len
            · by_cases zd : d = 0
              · subst zd
                go_wp2
                go_ret
                exact ⟨retB (by rw [HS.out, Bool.eq_iff_iff]; simp <;> omega), by repeat (first | exact Below.refl _ _ | apply Below.drew | refine Below.alloc ?_ (by simp <;> omega) _ | refine Below.setCell ?_ (by simp <;> omega) _)⟩
              · have ed : (d == 0) = false := by simpa using zd
                go_wp2
                go_ret
                exact ⟨retB (by rw [HS.out, Bool.eq_iff_iff]; simp <;> omega), by repeat (first | exact Below.refl _ _ | apply Below.drew | refine Below.alloc ?_ (by simp <;> omega) _ | refine Below.setCell ?_ (by simp <;> omega) _)⟩
            · go_wp2
              go_ret
              exact ⟨retB (by rw [HS.out, Bool.eq_iff_iff]; simp <;> omega), by repeat (first | exact Below.refl _ _ | apply Below.drew | refine Below.alloc ?_ (by simp <;> omega) _ | refine Below.setCell ?_ (by simp <;> omega) _)⟩
          · have HS : Hid (stepOkB ⟨11, d, a, b, n⟩ len = (decide (d = 0) && (decide (b = 0) && decide (n = 0)))) := HI.out.trans rfl
            by_cases zd : d = 0
            · subst zd
              by_cases zb : b = 0
              · subst zb
                go_wp2
                go_ret
                exact ⟨retB (by rw [HS.out, Bool.eq_iff_iff]; simp <;> omega), by repeat (first | exact Below.refl _ _ | apply Below.drew | refine Below.alloc ?_ (by simp <;> omega) _ | refine Below.setCell ?_ (by simp <;> omega) _)⟩
              · have eb : (b == 0) = false := by simpa using zb
                go_wp2
                go_ret
                exact ⟨retB (by rw [HS.out, Bool.eq_iff_iff]; simp <;> omega), by repeat (first | exact Below.refl _ _ | apply Below.drew | refine Below.alloc ?_ (by simp <;> omega) _ | refine Below.setCell ?_ (by simp <;> omega) _)⟩
            · have ed : (d == 0) = false := by simpa using zd
              go_wp2
              go_ret
              exact ⟨retB (by rw [HS.out, Bool.eq_iff_iff]; simp <;> omega), by repeat (first | exact Below.refl _ _ | apply Below.drew | refine Below.alloc ?_ (by simp <;> omega) _ | refine Below.setCell ?_ (by simp <;> omega) _)⟩
          · have HS : Hid (stepOkB ⟨op, d, a, b, n⟩ len = (decide (12 ≤ op ∧ op ≤ 21) && decide (n = 0))) := by
              refine HI.out.trans ?_
              unfold specOk
              rw [if_neg (by omega), if_neg (by omega), if_neg (by omega), if_neg (by omega), if_neg (by omega), if_neg (by omega), if_neg (by omega), if_neg (by omega), if_neg (by omega)]
            have HW : Hid (wordOkV (IntKind.i64.wrap (op - 11)) = decide (12 ≤ op ∧ op ≤ 21)) := opWord HO.out
            obtain ⟨y, HY⟩ : ∃ y, Hid (IntKind.i64.wrap (op - 11) = y) := ⟨_, rfl⟩
            have hy : IntKind.i64.wrap (op - 11) = y := HY.out
            have HW2 : Hid (wordOkV y = true) := by
              show _ = _
              rw [← HY.out, HW.out]
              simp
              omega
            have q1 : (op == 1) = false := by simp; omega
            have q2 : (op == 2) = false := by simp; omega
            have q3 : (op == 3) = false := by simp; omega
            have q4 : (op == 4) = false := by simp; omega
            have q5 : (op == 5) = false := by simp; omega
            have q6 : (op == 6) = false := by simp; omega
            have q7 : (op == 7) = false := by simp; omega
            have q8 : (op == 8) = false := by simp; omega
            have q9 : (op == 9) = false := by simp; omega
            have q10 : (op == 10) = false := by simp; omega
            have q11 : (op == 11) = false := by simp; omega
            have HH : Hid (12 ≤ op ∧ op ≤ 21) := h
            clear h HW
            go_wp2_with fail
            refine (spec_wordOk y _).mono ?_
            rintro e w1 ⟨rfl, hw1⟩
            subst hw1
            rw [HW2.out]
            go_wp2
            go_ret
            exact ⟨retB (by have := HH.out; rw [HS.out, Bool.eq_iff_iff]; simp <;> omega), by repeat (first | exact Below.refl _ _ | apply Below.drew | refine Below.alloc ?_ (by simp <;> omega) _ | refine Below.setCell ?_ (by simp <;> omega) _)⟩
          · have HS : Hid (stepOkB ⟨op, d, a, b, n⟩ len = (decide (12 ≤ op ∧ op ≤ 21) && decide (n = 0))) := by
              refine HI.out.trans ?_
              unfold specOk
              rw [if_neg (by omega), if_neg (by omega), if_neg (by omega), if_neg (by omega), if_neg (by omega), if_neg (by omega), if_neg (by omega), if_neg (by omega), if_neg (by omega)]
            have HW : Hid (wordOkV (IntKind.i64.wrap (op - 11)) = decide (12 ≤ op ∧ op ≤ 21)) := opWord HO.out
            obtain ⟨y, HY⟩ : ∃ y, Hid (IntKind.i64.wrap (op - 11) = y) := ⟨_, rfl⟩
            have hy : IntKind.i64.wrap (op - 11) = y := HY.out
            have HW2 : Hid (wordOkV y = false) := by
              show _ = _
              rw [← HY.out, HW.out]
              simp
              omega
            have q1 : (op == 1) = false := by simp; omega
            have q2 : (op == 2) = false := by simp; omega
            have q3 : (op == 3) = false := by simp; omega
            have q4 : (op == 4) = false := by simp; omega
            have q5 : (op == 5) = false := by simp; omega
            have q6 : (op == 6) = false := by simp; omega
            have q7 : (op == 7) = false := by simp; omega
            have q8 : (op == 8) = false := by simp; omega
            have q9 : (op == 9) = false := by simp; omega
            have q10 : (op == 10) = false := by simp; omega
            have q11 : (op == 11) = false := by simp; omega
            have HH : Hid (op < 1 ∨ 21 < op) := h
            clear h HW
            go_wp2_with fail
            refine (spec_wordOk y _).mono ?_
            rintro e w1 ⟨rfl, hw1⟩
            subst hw1
            rw [HW2.out]
            go_wp2
            go_ret
            exact ⟨retB (by have := HH.out; rw [HS.out, Bool.eq_iff_iff]; simp <;> omega), by repeat (first | exact Below.refl _ _ | apply Below.drew | refine Below.alloc ?_ (by simp <;> omega) _ | refine Below.setCell ?_ (by simp <;> omega) _)⟩
        · rcases op_kinds op with rfl | rfl | rfl | rfl | rfl | rfl | rfl | rfl | rfl | rfl | rfl | h | h
          · have HS : Hid (stepOkB ⟨1, d, a, b, n⟩ len = (decide (a = 0) && decide (b = 0))) := HI.out.trans rfl
            by_cases za : a = 0
            · subst za
              go_wp2
              go_ret
              exact ⟨retB (by rw [HS.out, Bool.eq_iff_iff]; simp <;> omega), by repeat (first | exact Below.refl _ _ | apply Below.drew | refine Below.alloc ?_ (by simp <;> omega) _ | refine Below.setCell ?_ (by simp <;> omega) _)⟩
            · have ea : (a == 0) = false := by simpa using za
              go_wp2
              go_ret
              exact ⟨retB (by rw [HS.out, Bool.eq_iff_iff]; simp <;> omega), by repeat (first | exact Below.refl _ _ | apply Below.drew | refine Below.alloc ?_ (by simp <;> omega) _ | refine Below.setCell ?_ (by simp <;> omega) _)⟩
          · have HS : Hid (stepOkB ⟨2, d, a, b, n⟩ len = (decide (b = 0) && decide (n = 0))) := HI.out.trans rfl
            by_cases zb : b = 0
            · subst zb
              go_wp2
              go_ret
              exact ⟨retB (by rw [HS.out, Bool.eq_iff_iff]; simp <;> omega), by repeat (first | exact Below.refl _ _ | apply Below.drew | refine Below.alloc ?_ (by simp <;> omega) _ | refine Below.setCell ?_ (by simp <;> omega) _)⟩
            · have eb : (b == 0) = false := by simpa using zb
              go_wp2
              go_ret
              exact ⟨retB (by rw [HS.out, Bool.eq_iff_iff]; simp <;> omega), by repeat (first | exact Below.refl _ _ | apply Below.drew | refine Below.alloc ?_ (by simp <;> omega) _ | refine Below.setCell ?_ (by simp <;> omega) _)⟩
          · have HS : Hid (stepOkB ⟨3, d, a, b, n⟩ len = ((decide (0 ≤ n) && decide (n ≤ 39)) && (decide (a = 0) && decide (b = 0)))) := HI.out.trans rfl
            cases sl with
            | false =>
              go_wp2
              go_ret
              exact ⟨retB (by rw [HS.out, SL.out, Bool.eq_iff_iff]; simp <;> omega), by repeat (first | exact Below.refl _ _ | apply Below.drew | refine Below.alloc ?_ (by simp <;> omega) _ | refine Below.setCell ?_ (by simp <;> omega) _)⟩
            | true =>
              by_cases za : a = 0
              · subst za
                go_wp2
                go_ret
                exact ⟨retB (by rw [HS.out, SL.out, Bool.eq_iff_iff]; simp <;> omega), by repeat (first | exact Below.refl _ _ | apply Below.drew | refine Below.alloc ?_ (by simp <;> omega) _ | refine Below.setCell ?_ (by simp <;> omega) _)⟩
              · have ea : (a == 0) = false := by simpa using za
                go_wp2
                go_ret
                exact ⟨retB (by rw [HS.out, SL.out, Bool.eq_iff_iff]; simp <;> omega), by repeat (first | exact Below.refl _ _ | apply Below.drew | refine Below.alloc ?_ (by simp <;> omega) _ | refine Below.setCell ?_ (by simp <;> omega) _)⟩
          · have HS : Hid (stepOkB ⟨4, d, a, b, n⟩ len = ((decide (0 ≤ n) && decide (n ≤ 39)) && (decide (d = 0) && decide (b = 0)))) := HI.out.trans rfl
            cases sl with
            | false =>
              go_wp2
              go_ret
              exact ⟨retB (by rw [HS.out, SL.out, Bool.eq_iff_iff]; simp <;> omega), by repeat (first | exact Below.refl _ _ | apply Below.drew | refine Below.alloc ?_ (by simp <;> omega) _ | refine Below.setCell ?_ (by simp <;> omega) _)⟩
            | true =>
              by_cases zd : d = 0
              · subst zd
                go_wp2
                go_ret
                exact ⟨retB (by rw [HS.out, SL.out, Bool.eq_iff_iff]; simp <;> omega), by repeat (first | exact Below.refl _ _ | apply Below.drew | refine Below.alloc ?_ (by simp <;> omega) _ | refine Below.setCell ?_ (by simp <;> omega) _)⟩
              · have ed : (d == 0) = false := by simpa using zd
                go_wp2
                go_ret
                exact ⟨retB (by rw [HS.out, SL.out, Bool.eq_iff_iff]; simp <;> omega), by repeat (first | exact Below.refl _ _ | apply Below.drew | refine Below.alloc ?_ (by simp <;> omega) _ | refine Below.setCell ?_ (by simp <;> omega) _)⟩
          · have HS : Hid (stepOkB ⟨5, d, a, b, n⟩ len = (decide (b = 0) && decide (n = 0))) := HI.out.trans rfl
            by_cases zb : b = 0
            · subst zb
              go_wp2
              go_ret
              exact ⟨retB (by rw [HS.out, Bool.eq_iff_iff]; simp <;> omega), by repeat (first | exact Below.refl _ _ | apply Below.drew | refine Below.alloc ?_ (by simp <;> omega) _ | refine Below.setCell ?_ (by simp <;> omega) _)⟩
            · have eb : (b == 0) = false := by simpa using zb
              go_wp2
              go_ret
              exact ⟨retB (by rw [HS.out, Bool.eq_iff_iff]; simp <;> omega), by repeat (first | exact Below.refl _ _ | apply Below.drew | refine Below.alloc ?_ (by simp <;> omega) _ | refine Below.setCell ?_ (by simp <;> omega) _)⟩
          · have HS : Hid (stepOkB ⟨6, d, a, b, n⟩ len = (decide (d = 0) && decide (n = 0))) := HI.out.trans rfl
            by_cases zd : d = 0
            · subst zd
              go_wp2
              go_ret
              exact ⟨retB (by rw [HS.out, Bool.eq_iff_iff]; simp <;> omega), by repeat (first | exact Below.refl _ _ | apply Below.drew | refine Below.alloc ?_ (by simp <;> omega) _ | refine Below.setCell ?_ (by simp <;> omega) _)⟩
            · have ed : (d == 0) = false := by simpa using zd
              go_wp2
              go_ret
              exact ⟨retB (by rw [HS.out, Bool.eq_iff_iff]; simp <;> omega), by repeat (first | exact Below.refl _ _ | apply Below.drew | refine Below.alloc ?_ (by simp <;> omega) _ | refine Below.setCell ?_ (by simp <;> omega) _)⟩
          · have HS : Hid (stepOkB ⟨7, d, a, b, n⟩ len = (decide (d = 0) && (decide (b = 0) && decide (n = 0)))) := HI.out.trans rfl
            by_cases zd : d = 0
            · subst zd
              by_cases zb : b = 0
              · subst zb
                go_wp2
                go_ret
                exact ⟨retB (by rw [HS.out, Bool.eq_iff_iff]; simp <;> omega), by repeat (first | exact Below.refl _ _ | apply Below.drew | refine Below.alloc ?_ (by simp <;> omega) _ | refine Below.setCell ?_ (by simp <;> omega) _)⟩
              · have eb : (b == 0) = false := by simpa using zb
                go_wp2
                go_ret
                exact ⟨retB (by rw [HS.out, Bool.eq_iff_iff]; simp <;> omega), by repeat (first | exact Below.refl _ _ | apply Below.drew | refine Below.alloc ?_ (by simp <;> omega) _ | refine Below.setCell ?_ (by simp <;> omega) _)⟩
            · have ed : (d == 0) = false := by simpa using zd
              go_wp2
              go_ret
              exact ⟨retB (by rw [HS.out, Bool.eq_iff_iff]; simp <;> omega), by repeat (first | exact Below.refl _ _ | apply Below.drew | refine Below.alloc ?_ (by simp <;> omega) _ | refine Below.setCell ?_ (by simp <;> omega) _)⟩
          · have HS : Hid (stepOkB ⟨8, d, a, b, n⟩ len = (decide (a = 0) && (decide (b = 0) && decide (n = 0)))) := HI.out.trans rfl
            by_cases za : a = 0
            · subst za
              by_cases zb : b = 0
              · subst zb
                go_wp2
                go_ret
                exact ⟨retB (by rw [HS.out, Bool.eq_iff_iff]; simp <;> omega), by repeat (first | exact Below.refl _ _ | apply Below.drew | refine Below.alloc ?_ (by simp <;> omega) _ | refine Below.setCell ?_ (by simp <;> omega) _)⟩
              · have eb : (b == 0) = false := by simpa using zb
                go_wp2
                go_ret
                exact ⟨retB (by rw [HS.out, Bool.eq_iff_iff]; simp <;> omega), by repeat (first | exact Below.refl _ _ | apply Below.drew | refine Below.alloc ?_ (by simp <;> omega) _ | refine Below.setCell ?_ (by simp <;> omega) _)⟩
            · have ea : (a == 0) = false := by simpa using za
              go_wp2
              go_ret
              exact ⟨retB (by rw [HS.out, Bool.eq_iff_iff]; simp <;> omega), by repeat (first | exact Below.refl _ _ | apply Below.drew | refine Below.alloc ?_ (by simp <;> omega) _ | refine Below.setCell ?_ (by simp <;> omega) _)⟩
          · have HS : Hid (stepOkB ⟨9, d, a, b, n⟩ len = ((decide (0 ≤ n) && decide (n < len)) && (decide (d = 0) && (decide (a = 0) && decide (b = 0))))) := HI.out.trans rfl
            go_wp2
            go_ret
            exact ⟨retB (by rw [HS.out, Bool.eq_iff_iff]; simp <;> omega), by repeat (first | exact Below.refl _ _ | apply Below.drew | refine Below.alloc ?_ (by simp <;> omega) _ | refine Below.setCell ?_ (by simp <;> omega) _)⟩
          · have HS : Hid (stepOkB ⟨10, d, a, b, n⟩ len = ((decide (0 ≤ n) && decide (n < len)) && (decide (d = 0) && decide (b = 0)))) := HI.out.trans rfl
            go_wp2
            go_ret
            exact ⟨retB (by rw [HS.out, Bool.eq_iff_iff]; simp <;> omega), by repeat (first | exact Below.refl _ _ | apply Below.drew | refine Below.alloc ?_ (by simp <;> omega) _ | refine Below.setCell ?_ (by simp <;> omega) _)⟩
          · have HS : Hid (stepOkB ⟨11, d, a, b, n⟩ len = (decide (d = 0) && (decide (b = 0) && decide (n = 0)))) := HI.out.trans rfl
            by_cases zd : d = 0
            · subst zd
              by_cases zb : b = 0
              · subst zb
                go_wp2
                go_ret
                exact ⟨retB (by rw [HS.out, Bool.eq_iff_iff]; simp <;> omega), by repeat (first | exact Below.refl _ _ | apply Below.drew | refine Below.alloc ?_ (by simp <;> omega) _ | refine Below.setCell ?_ (by simp <;> omega) _)⟩
              · have eb : (b == 0) = false := by simpa using zb
                go_wp2
                go_ret
                exact ⟨retB (by rw [HS.out, Bool.eq_iff_iff]; simp <;> omega), by repeat (first | exact Below.refl _ _ | apply Below.drew | refine Below.alloc ?_ (by simp <;> omega) _ | refine Below.setCell ?_ (by simp <;> omega) _)⟩
            · have ed : (d == 0) = false := by simpa using zd
              go_wp2
              go_ret
              exact ⟨retB (by rw [HS.out, Bool.eq_iff_iff]; simp <;> omega), by repeat (first | exact Below.refl _ _ | apply Below.drew | refine Below.alloc ?_ (by simp <;> omega) _ | refine Below.setCell ?_ (by simp <;> omega) _)⟩
          · have HS : Hid (stepOkB ⟨op, d, a, b, n⟩ len = (decide (12 ≤ op ∧ op ≤ 21) && decide (n = 0))) := by
              refine HI.out.trans ?_
              unfold specOk
              rw [if_neg (by omega), if_neg (by omega), if_neg (by omega), if_neg (by omega), if_neg (by omega), if_neg (by omega), if_neg (by omega), if_neg (by omega), if_neg (by omega)]
            have HW : Hid (wordOkV (IntKind.i64.wrap (op - 11)) = decide (12 ≤ op ∧ op ≤ 21)) := opWord HO.out
            obtain ⟨y, HY⟩ : ∃ y, Hid (IntKind.i64.wrap (op - 11) = y) := ⟨_, rfl⟩
            have hy : IntKind.i64.wrap (op - 11) = y := HY.out
            have HW2 : Hid (wordOkV y = true) := by
              show _ = _
              rw [← HY.out, HW.out]
              simp
              omega
            have q1 : (op == 1) = false := by simp; omega
            have q2 : (op == 2) = false := by simp; omega
            have q3 : (op == 3) = false := by simp; omega
            have q4 : (op == 4) = false := by simp; omega
            have q5 : (op == 5) = false := by simp; omega
            have q6 : (op == 6) = false := by simp; omega
            have q7 : (op == 7) = false := by simp; omega
            have q8 : (op == 8) = false := by simp; omega
            have q9 : (op == 9) = false := by simp; omega
            have q10 : (op == 10) = false := by simp; omega
            have q11 : (op == 11) = false := by simp; omega
            have HH : Hid (12 ≤ op ∧ op ≤ 21) := h
            clear h HW
            go_wp2_with fail
            refine (spec_wordOk y _).mono ?_
            rintro e w1 ⟨rfl, hw1⟩
            subst hw1
            rw [HW2.out]
            go_wp2
            go_ret
            exact ⟨retB (by have := HH.out; rw [HS.out, Bool.eq_iff_iff]; simp <;> omega), by repeat (first | exact Below.refl _ _ | apply Below.drew | refine Below.alloc ?_ (by simp <;> omega) _ | refine Below.setCell ?_ (by simp <;> omega) _)⟩
          · have HS : Hid (stepOkB ⟨op, d, a, b, n⟩ len = (decide (12 ≤ op ∧ op ≤ 21) && decide (n = 0))) := by
              refine HI.out.trans ?_
              unfold specOk
              rw [if_neg (by omega), if_neg (by omega), if_neg (by omega), if_neg (by omega), if_neg (by omega), if_neg (by omega), if_neg (by omega), if_neg (by omega), if_neg (by omega)]
            have HW : Hid (wordOkV (IntKind.i64.wrap (op - 11)) = decide (12 ≤ op ∧ op ≤ 21)) := opWord HO.out
            obtain ⟨y, HY⟩ : ∃ y, Hid (IntKind.i64.wrap (op - 11) = y) := ⟨_, rfl⟩
            have hy : IntKind.i64.wrap (op - 11) = y := HY.out
            have HW2 : Hid (wordOkV y = false) := by
              show _ = _
              rw [← HY.out, HW.out]
              simp
              omega
            have q1 : (op == 1) = false := by simp; omega
            have q2 : (op == 2) = false := by simp; omega
            have q3 : (op == 3) = false := by simp; omega
            have q4 : (op == 4) = false := by simp; omega
            have q5 : (op == 5) = false := by simp; omega
            have q6 : (op == 6) = false := by simp; omega
            have q7 : (op == 7) = false := by simp; omega
            have q8 : (op == 8) = false := by simp; omega
            have q9 : (op == 9) = false := by simp; omega
            have q10 : (op == 10) = false := by simp; omega
            have q11 : (op == 11) = false := by simp; omega
            have HH : Hid (op < 1 ∨ 21 < op) := h
            clear h HW
            go_wp2_with fail
            refine (spec_wordOk y _).mono ?_
            rintro e w1 ⟨rfl, hw1⟩
            subst hw1
            rw [HW2.out]
            go_wp2
            go_ret
            exact ⟨retB (by have := HH.out; rw [HS.out, Bool.eq_iff_iff]; simp <;> omega), by repeat (first | exact Below.refl _ _ | apply Below.drew | refine Below.alloc ?_ (by simp <;> omega) _ | refine Below.setCell ?_ (by simp <;> omega) _)⟩
end Go.Proofs.YtebcocehdjoafaaDoor
