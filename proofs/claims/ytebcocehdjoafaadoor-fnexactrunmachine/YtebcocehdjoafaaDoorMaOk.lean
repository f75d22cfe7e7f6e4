/- MachineOk, of both sides. -/
import Derived.Test.YtebcocehdjoafaaDoorMaSt
namespace Go.Proofs.YtebcocehdjoafaaDoor
open Go.ChangeShapes Go.WideShapes Go.ChangeAt Go.RowKit
set_option linter.unusedVariables false

/-- Ops are numbers of 64 bits. -/
def OpsIn (l : List InsD) : Prop := ∀ x ∈ l, -9223372036854775808 ≤ x.op ∧ x.op ≤ 9223372036854775807
theorem OpsIn.at {l : List InsD} (h : OpsIn l) {k : Nat} {x : InsD} (hx : l[k]? = some x) : -9223372036854775808 ≤ x.op ∧ x.op ≤ 9223372036854775807 := h x (List.mem_of_getElem? hx)

theorem machineOkB_size {l : List InsD} (h : ¬ (1 ≤ l.length ∧ l.length ≤ 900)) : machineOkB l = false := by
  cases e : machineOkB l with
  | false => rfl
  | true => exact absurd ⟨(machineOkB_parts e).1, (machineOkB_parts e).2.1⟩ h
theorem machineOkB_bad {l : List InsD} {k : Nat} {x : InsD} (hx : l[k]? = some x) (h : stepOkB x l.length = false) : machineOkB l = false := by
  cases e : machineOkB l with
  | false => rfl
  | true =>
    have := (machineOkB_parts e).2.2.1 x (List.mem_of_getElem? hx)
    rw [h] at this
    cases this
theorem machineOkB_last {l : List InsD} {x : InsD} (h1 : 1 ≤ l.length) (h2 : l.length ≤ 900) (h : ∀ (k : Nat) (y : InsD), k < l.length → l[k]? = some y → stepOkB y l.length = true) (hx : l[l.length - 1]? = some x) : machineOkB l = (decide (x.op = 9) || decide (x.op = 11)) := by
  unfold machineOkB
  have hall : l.all (fun x => stepOkB x l.length) = true := by
    rw [List.all_eq_true]
    intro y hy
    obtain ⟨k, hk⟩ := List.getElem?_of_mem hy
    exact h k y (List.getElem?_eq_some_iff.1 hk).1 hk
  rw [List.getLast?_eq_getElem?, hx, hall]
  by_cases e : x.op = 9 <;> simp [h1, h2, e]

set_option maxHeartbeats 4000000 in
theorem impl_machineOk (v : Value) (l : List InsD) (w : World) (ha : StepsAt w v l) (ho : OpsIn l) (hT : FTab w) :
    Calls Tryd.prog 16 #[v] w fun e w' => AnsB w (machineOkB l) e w' := by
  obtain ⟨a, cap, rfl, hm, hc⟩ := ha
  obtain ⟨m, HM⟩ : ∃ m, Hid (l.length = m) := ⟨_, rfl⟩
  obtain ⟨R, HR⟩ : ∃ R, Hid (machineOkB l = R) := ⟨_, rfl⟩
  rw [HM.out] at hm hc ⊢
  rw [HR.out]
  have HC : Hid (0 < m → ∃ b off, a = some ⟨b, off, none⟩ ∧ 0 ≤ b ∧ ∀ i x, l[i]? = some x → InsAt w b (off + i * 5) x) := hc
  have HO : Hid (OpsIn l) := ho
  have HT : Hid (FTab w) := hT
  clear hc ho hT
  by_cases h1 : (m : Int) < 1
  · obtain rfl : R = false := by rw [← HR.out]; exact machineOkB_size (by have := HM.out; omega)
    go_enter Tryd.func16, Tryd.ntmps16
    go_wp2
    go_ret
    exact ⟨rfl, Below.refl _ _⟩
  by_cases h2 : (m : Int) > 900
  · obtain rfl : R = false := by rw [← HR.out]; exact machineOkB_size (by have := HM.out; omega)
    go_enter Tryd.func16, Tryd.ntmps16
    go_wp2
    go_ret
    exact ⟨rfl, Below.refl _ _⟩
  obtain ⟨b, off, rfl, _, hc1⟩ := HC.out (by omega)
  have HC1 : Hid (∀ i x, l[i]? = some x → InsAt w b (off + i * 5) x) := hc1
  clear hc1 HC
  go_enter Tryd.func16, Tryd.ntmps16
  go_wp2
  go_loopw [16] (fun i wr => ∃ k : Nat, k ≤ m ∧ i = .int .i64 k ∧ (∀ (j : Nat) (y : InsD), j < k → l[j]? = some y → stepOkB y m = true) ∧ Below w.heap.size w wr) (fun i _ => m - (intOf i).toNat)
  case atStart => exact ⟨0, Nat.zero_le _, rfl, fun j y hj => absurd hj (by omega), Below.refl _ _⟩
  case round =>
    obtain ⟨k, hk, rfl, hd, hb⟩ := hrel
    have HD : Hid (∀ (j : Nat) (y : InsD), j < k → l[j]? = some y → stepOkB y m = true) := hd
    have HB : Hid (Below w.heap.size w wr) := hb
    clear hd hb
    by_cases hlt : (k : Int) < (m : Int)
    · have hkl : k < l.length := by have := HM.out; omega
      obtain ⟨x, HX⟩ : ∃ x, Hid (l[k]? = some x) := ⟨l[k], List.getElem?_eq_getElem hkl⟩
      obtain ⟨c0, c1, c2, c3, c4⟩ := (HC1.out k x HX.out).keep (Keeps.of_below HB.out 0) (Nat.zero_le _)
      clear hkl
      have HXO : Hid (-9223372036854775808 ≤ x.op ∧ x.op ≤ 9223372036854775807) := HO.out.at HX.out
      obtain ⟨x0, x1, x2, x3, x4⟩ := x
      dsimp only at c0 c1 c2 c3 c4 HXO
      obtain ⟨q, HQ⟩ : ∃ q, Hid (stepOkB ⟨x0, x1, x2, x3, x4⟩ (m : Int) = q) := ⟨_, rfl⟩
      go_wp2_with fail
      refine (impl_stepOk x0 x1 x2 x3 x4 (m : Int) _ HXO.out ((HT.out.keep HB.out).keep (by repeat (first | exact Below.refl _ _ | apply Below.drew | refine Below.alloc ?_ (by simp <;> omega) _ | refine Below.setCell ?_ (by simp <;> omega) _)))).mono ?_
      rintro e w1 ⟨rfl, b1⟩
      rw [HQ.out]
      have HB1 : Hid (Below w.heap.size w w1) := by
        show Below _ _ _
        exact Bel.after (Bel.after HB.out (by repeat (first | exact Below.refl _ _ | apply Below.drew | refine Below.alloc ?_ (by simp <;> omega) _ | refine Below.setCell ?_ (by simp <;> omega) _))) b1
      clear b1
      cases q with
      | false =>
        go_wp2
        go_ret
        obtain rfl : R = false := by rw [← HR.out]; exact machineOkB_bad HX.out (by rw [HM.out]; exact HQ.out)
        exact ⟨rfl, HB1.out⟩
      | true =>
        go_wp2
        go_roundw
        case rel =>
          refine ⟨k + 1, by omega, by go_num, fun j y hj hy => ?_, HB1.out⟩
          by_cases hjk : j = k
          · subst hjk
            have e := HX.out.symm.trans hy
            simp only [Option.some.injEq] at e
            subst e
            exact HQ.out
          · exact HD.out j y (by omega) hy
        case measure => simp [intOf]; omega
    · have hkn : k = m := by omega
      subst hkn
      have hkl : k - 1 < l.length := by have := HM.out; omega
      obtain ⟨x, HX⟩ : ∃ x, Hid (l[k - 1]? = some x) := ⟨l[k - 1], List.getElem?_eq_getElem hkl⟩
      obtain ⟨c0, _⟩ := (HC1.out (k - 1) x HX.out).keep (Keeps.of_below HB.out 0) (Nat.zero_le _)
      obtain ⟨x0, x1, x2, x3, x4⟩ := x
      dsimp only at c0
      have hR : R = (decide (x0 = 9) || decide (x0 = 11)) := by
        rw [← HR.out]
        exact machineOkB_last (x := ⟨x0, x1, x2, x3, x4⟩) (by have := HM.out; omega) (by have := HM.out; omega) (by rw [HM.out]; exact HD.out) (by rw [HM.out]; exact HX.out)
      have HRR : Hid (R = (decide (x0 = 9) || decide (x0 = 11))) := hR
      clear hR
      obtain ⟨p, rfl⟩ : ∃ p, k = p + 1 := ⟨k - 1, by omega⟩
      rw [show p + 1 - 1 = p by omega] at c0
      by_cases h9 : x0 = 9
      · subst h9
        go_wp2
        go_ret
        exact ⟨retB (by rw [HRR.out]; rfl), HB.out⟩
      · have e9 : (x0 == 9) = false := by simpa using h9
        have HN : Hid (¬ x0 = 9) := h9
        clear h9
        go_wp2
        go_ret
        exact ⟨retB (by rw [HRR.out, Bool.eq_iff_iff]; have := HN.out; simp <;> omega), HB.out⟩

set_option maxHeartbeats 4000000 in
theorem spec_machineOk (v : Value) (l : List InsD) (w : World) (ha : StepsAt w v l) (ho : OpsIn l) :
    Calls Tryd.prog 14 #[v] w fun e w' => AnsB w (machineOkB l) e w' := by
  obtain ⟨a, cap, rfl, hm, hc⟩ := ha
  obtain ⟨m, HM⟩ : ∃ m, Hid (l.length = m) := ⟨_, rfl⟩
  obtain ⟨R, HR⟩ : ∃ R, Hid (machineOkB l = R) := ⟨_, rfl⟩
  rw [HM.out] at hm hc ⊢
  rw [HR.out]
  have HC : Hid (0 < m → ∃ b off, a = some ⟨b, off, none⟩ ∧ 0 ≤ b ∧ ∀ i x, l[i]? = some x → InsAt w b (off + i * 5) x) := hc
  have HO : Hid (OpsIn l) := ho
  clear hc ho
  obtain ⟨sz, HZ⟩ : ∃ z, Hid ((decide ((1 : Int) ≤ (m : Int)) && decide ((m : Int) ≤ 900)) = z) := ⟨_, rfl⟩
  cases sz with
  | false =>
    obtain rfl : R = false := by rw [← HR.out]; exact machineOkB_size (by have := HM.out; have h := HZ.out; simp at h; omega)
    go_enter Tryd.func14, Tryd.ntmps14
    go_wp2_with fail
    refine (l1In_any (m : Int) 1 900 _).mono ?_
    rintro e w1 ⟨rfl, hw1⟩
    subst hw1
    rw [HZ.out]
    go_wp2
    go_ret
    exact ⟨rfl, Below.refl _ _⟩
  | true =>
  have h1 : 1 ≤ m ∧ m ≤ 900 := by have h := HZ.out; simp at h; omega
  obtain ⟨b, off, rfl, _, hc1⟩ := HC.out (by omega)
  have HC1 : Hid (∀ i x, l[i]? = some x → InsAt w b (off + i * 5) x) := hc1
  clear hc1 HC
  go_enter Tryd.func14, Tryd.ntmps14
  go_wp2_with fail
  refine (l1In_any (m : Int) 1 900 _).mono ?_
  rintro e w1 ⟨rfl, hw1⟩
  replace hw1 := hw1.symm
  subst hw1
  rw [HZ.out]
  go_wp2
  go_loopw [4] (fun i wr => ∃ k : Nat, k ≤ m ∧ i = .int .i64 k ∧ (∀ (j : Nat) (y : InsD), j < k → l[j]? = some y → stepOkB y m = true) ∧ Below w.heap.size w wr) (fun i _ => m - (intOf i).toNat)
  case atStart => exact ⟨0, Nat.zero_le _, rfl, fun j y hj => absurd hj (by omega), Below.refl _ _⟩
  case round =>
    obtain ⟨k, hk, rfl, hd, hb⟩ := hrel
    have HD : Hid (∀ (j : Nat) (y : InsD), j < k → l[j]? = some y → stepOkB y m = true) := hd
    have HB : Hid (Below w.heap.size w wr) := hb
    clear hd hb
    by_cases hlt : (k : Int) < (m : Int)
    · have hkl : k < l.length := by have := HM.out; omega
      obtain ⟨x, HX⟩ : ∃ x, Hid (l[k]? = some x) := ⟨l[k], List.getElem?_eq_getElem hkl⟩
      obtain ⟨c0, c1, c2, c3, c4⟩ := (HC1.out k x HX.out).keep (Keeps.of_below HB.out 0) (Nat.zero_le _)
      clear hkl
      have HXO : Hid (-9223372036854775808 ≤ x.op ∧ x.op ≤ 9223372036854775807) := HO.out.at HX.out
      obtain ⟨x0, x1, x2, x3, x4⟩ := x
      dsimp only at c0 c1 c2 c3 c4 HXO
      obtain ⟨q, HQ⟩ : ∃ q, Hid (stepOkB ⟨x0, x1, x2, x3, x4⟩ (m : Int) = q) := ⟨_, rfl⟩
      go_wp2_with fail
      refine (spec_stepOk x0 x1 x2 x3 x4 (m : Int) _ HXO.out).mono ?_
      rintro e w1 ⟨rfl, b1⟩
      rw [HQ.out]
      have HB1 : Hid (Below w.heap.size w w1) := by
        show Below _ _ _
        exact Bel.after (Bel.after HB.out (by repeat (first | exact Below.refl _ _ | apply Below.drew | refine Below.alloc ?_ (by simp <;> omega) _ | refine Below.setCell ?_ (by simp <;> omega) _))) b1
      clear b1
      cases q with
      | false =>
        go_wp2
        go_ret
        obtain rfl : R = false := by rw [← HR.out]; exact machineOkB_bad HX.out (by rw [HM.out]; exact HQ.out)
        exact ⟨rfl, HB1.out⟩
      | true =>
        go_wp2
        go_roundw
        case rel =>
          refine ⟨k + 1, by omega, by go_num, fun j y hj hy => ?_, HB1.out⟩
          by_cases hjk : j = k
          · subst hjk
            have e := HX.out.symm.trans hy
            simp only [Option.some.injEq] at e
            subst e
            exact HQ.out
          · exact HD.out j y (by omega) hy
        case measure => simp [intOf]; omega
    · have hkn : k = m := by omega
      subst hkn
      have hkl : k - 1 < l.length := by have := HM.out; omega
      obtain ⟨x, HX⟩ : ∃ x, Hid (l[k - 1]? = some x) := ⟨l[k - 1], List.getElem?_eq_getElem hkl⟩
      obtain ⟨c0, _⟩ := (HC1.out (k - 1) x HX.out).keep (Keeps.of_below HB.out 0) (Nat.zero_le _)
      obtain ⟨x0, x1, x2, x3, x4⟩ := x
      dsimp only at c0
      have hR : R = (decide (x0 = 9) || decide (x0 = 11)) := by
        rw [← HR.out]
        exact machineOkB_last (x := ⟨x0, x1, x2, x3, x4⟩) (by have := HM.out; omega) (by have := HM.out; omega) (by rw [HM.out]; exact HD.out) (by rw [HM.out]; exact HX.out)
      have HRR : Hid (R = (decide (x0 = 9) || decide (x0 = 11))) := hR
      clear hR
      obtain ⟨p, rfl⟩ : ∃ p, k = p + 1 := ⟨k - 1, by omega⟩
      rw [show p + 1 - 1 = p by omega] at c0
      by_cases h9 : x0 = 9
      · subst h9
        go_wp2
        go_ret
        exact ⟨retB (by rw [HRR.out]; rfl), HB.out⟩
      · have e9 : (x0 == 9) = false := by simpa using h9
        have HN : Hid (¬ x0 = 9) := h9
        clear h9
        go_wp2
        go_ret
        exact ⟨retB (by rw [HRR.out, Bool.eq_iff_iff]; have := HN.out; simp <;> omega), HB.out⟩
end Go.Proofs.YtebcocehdjoafaaDoor
