/- Which op has a name, by both sides. -/
import Derived.Test.YtjcocpdicogecaaGreatDoorTxIm3K
import Derived.Test.YtjcocpdicogecaaGreatDoorTxSpK
namespace Go.Proofs.YtjcocpdicogecaaGreatDoor
open Go.ChangeShapes Go.WideShapes Go.ChangeAt Go.RowKit
set_option linter.unusedVariables false

theorem opOfL_none {l : List UInt8} (h : ∀ j, 1 ≤ j → j ≤ 21 → opNm j ≠ l) : opOfL l = 0 := by
  unfold opOfL
  have : (List.range 22).find? (fun k => decide (1 ≤ k) && decide (opNm k = l)) = none := by
    rw [List.find?_eq_none]
    intro k hk
    have hk2 : k < 22 := List.mem_range.1 hk
    simp only [Bool.and_eq_true, decide_eq_true_eq, not_and]
    exact fun h1 => h k h1 (by omega)
  rw [this]
  rfl
theorem retI {a b : Int} (h : a = b) : Ending.returned (.int .i64 a) = .returned (.int .i64 b) := by rw [h]
theorem bsl (l : List UInt8) : (bs l).toList = l := by rw [ByteArray.toList_eq, bs_list]
theorem eqs_yes {a b : List UInt8} (h : a = b) : ((bs a).toList == (bs b).toList) = true := by simp [h]
theorem eqs_no {a b : List UInt8} (h : a ≠ b) : ((bs a).toList == (bs b).toList) = false := by rw [bsl, bsl]; simpa using h

set_option maxRecDepth 100000 in
theorem stepOpOf_any (l : List UInt8) (w : World) (hT : Tabs w) :
    Calls Tryz.prog 48 #[.string (bs l)] w fun e w' => e = .returned (.int .i64 (opOfL l : Nat)) ∧ Below w.heap.size w w' := by
  have HT : Hid (Tabs w) := hT
  clear hT
  go_enter Tryz.func48, Tryz.ntmps48
  go_wp2_with fail
  go_loopw [3] (fun iv wr => ∃ k : Nat, 1 ≤ k ∧ k ≤ 22 ∧ iv = .int .i64 k ∧ Below w.heap.size w wr ∧ ∀ j, 1 ≤ j → j < k → opNm j ≠ l) (fun iv _ => 22 - (intOf iv).toNat)
  case atStart => exact ⟨1, by omega, by omega, rfl, Below.refl _ _, fun j h1 h2 => by omega⟩
  case round =>
    obtain ⟨k, hk1, hk2, rfl, hbr, hno⟩ := hrel
    have HBR : Hid (Below w.heap.size w wr) := hbr
    have HNO : Hid (∀ j, 1 ≤ j → j < k → opNm j ≠ l) := hno
    clear hbr hno
    by_cases hlt : (k : Int) < 22
    · have HK1 : Hid (k + 1 ≤ 22) := by show _ ≤ _; omega
      go_wp2_with fail
      refine (stepName_any k _ hk1 (by omega) (HT.out.keep HBR.out)).mono ?_
      rintro e w1 ⟨rfl, b1⟩
      have HB1 : Hid (Below w.heap.size w w1) := Bel.after HBR.out b1
      clear b1
      by_cases he : opNm k = l
      · have heq := eqs_yes he
        go_wp2
        go_ret
        exact ⟨by rw [← he, opOfL_nm k hk1 (by have := HK1.out; omega)]; rfl, HB1.out⟩
      · have heq := eqs_no he
        have HE : Hid (opNm k ≠ l) := he
        clear he
        go_wp2_with fail
        have hwk : wrap64 ((k : Int) + 1) = (k : Int) + 1 := by have := HK1.out; unfold wrap64; omega
        try rw [hwk]
        go_roundw
        case rel => exact ⟨k + 1, by have := HK1.out; omega, HK1.out, by go_num, HB1.out, fun j h1 h2 => by by_cases e9 : j = k; (subst e9; exact HE.out); exact HNO.out j h1 (by omega)⟩
        case measure => have h8 := HK1.out; simp [intOf]; omega
    · have hk : k = 22 := by omega
      subst hk
      go_wp2
      go_ret
      exact ⟨by rw [opOfL_none (fun j h1 h2 => HNO.out j h1 (by omega))]; rfl, HBR.out⟩

set_option maxRecDepth 100000 in
theorem spec_wordOf (l : List UInt8) (w : World) :
    Calls Tryz.prog 40 #[.string (bs l)] w fun e w' => ∃ k : Nat, e = .returned (.int .i64 k) ∧ k ≤ 10 ∧ (1 ≤ k → opNm (k + 11) = l) ∧ (k = 0 → ∀ j, 12 ≤ j → j ≤ 21 → opNm j ≠ l) ∧ Below w.heap.size w w' := by
  go_enter Tryz.func40, Tryz.ntmps40
  go_wp2_with fail
  refine (l1Names_any _).mono ?_
  rintro e w1 ⟨o, rfl, rfl, hc⟩
  have HC : Hid (∀ i : Nat, i < 11 → (w.alloc o).cell? ⟨w.heap.size, i, none⟩ = some (.string (bs (wNm i)))) := hc
  clear hc
  obtain ⟨w1, hw1⟩ : ∃ W, w.alloc o = W := ⟨_, rfl⟩
  have HB1 : Hid (Below w.heap.size w w1) := by show Below _ _ _; rw [← hw1]; exact Bel.alloc _ _
  rw [hw1] at HC ⊢
  clear hw1
  obtain ⟨g, HG⟩ : ∃ g, Hid (w.heap.size = g) := ⟨_, rfl⟩
  rw [HG.out] at HC ⊢
  go_wp2_with fail
  go_loopw [4] (fun iv wr => ∃ k : Nat, 1 ≤ k ∧ k ≤ 11 ∧ iv = .int .i64 k ∧ wr = w1 ∧ ∀ j, 1 ≤ j → j < k → opNm (j + 11) ≠ l) (fun iv _ => 11 - (intOf iv).toNat)
  case atStart => exact ⟨1, by omega, by omega, rfl, rfl, fun j h1 h2 => by omega⟩
  case round =>
    obtain ⟨k, hk1, hk2, rfl, rfl, hno⟩ := hrel
    have HNO : Hid (∀ j, 1 ≤ j → j < k → opNm (j + 11) ≠ l) := hno
    clear hno
    by_cases hlt : (k : Int) < 11
    · have HK1 : Hid (k + 1 ≤ 11) := by show _ ≤ _; omega
      have HK0 : Hid (1 ≤ k) := hk1
      have h9 := HC.out k (by omega)
      have h8 : wNm k = opNm (k + 11) := by unfold wNm; rw [if_neg (by omega)]
      rw [h8] at h9
      clear h8
      by_cases he : opNm (k + 11) = l
      · have heq := eqs_yes he
        have HE : Hid (opNm (k + 11) = l) := he
        clear he
        go_wp2
        go_ret
        exact ⟨k, rfl, by have := HK1.out; omega, fun _ => HE.out, fun e9 => by omega, HB1.out⟩
      · have heq := eqs_no he
        have HE : Hid (opNm (k + 11) ≠ l) := he
        clear he
        go_wp2_with fail
        have hwk : wrap64 ((k : Int) + 1) = (k : Int) + 1 := by have := HK1.out; unfold wrap64; omega
        try rw [hwk]
        go_roundw
        case rel => exact ⟨k + 1, by have := HK1.out; omega, HK1.out, by go_num, by first | rfl | trivial, fun j h1 h2 => by by_cases e9 : j = k; (subst e9; exact HE.out); exact HNO.out j h1 (by omega)⟩
        case measure => have h8 := HK1.out; simp [intOf]; omega
    · have hk : k = 11 := by omega
      subst hk
      go_wp2
      go_ret
      exact ⟨0, rfl, by omega, fun h => by omega, fun _ j h1 h2 => by have := HNO.out (j - 11) (by omega) (by omega); rwa [show j - 11 + 11 = j by omega] at this, HB1.out⟩

def sNm (i : Nat) : List UInt8 := opNm i
set_option maxRecDepth 100000 in
set_option maxHeartbeats 2000000 in
theorem l17Op_any (l : List UInt8) (w : World) :
    Calls Tryz.prog 25 #[.string (bs l)] w fun e w' => e = .returned (.int .i64 (opOfL l : Nat)) ∧ Below w.heap.size w w' := by
  go_enter Tryz.func25, Tryz.ntmps25
  obtain ⟨o, HO⟩ : ∃ o, Hid (Obj.cells #[.string (bs []), .string (bs (opNm 1)), .string (bs (opNm 2)), .string (bs (opNm 3)), .string (bs (opNm 4)), .string (bs (opNm 5)), .string (bs (opNm 6)), .string (bs (opNm 7)), .string (bs (opNm 8)), .string (bs (opNm 9)), .string (bs (opNm 10)), .string (bs (opNm 11))] 9 = o) := ⟨_, rfl⟩
  have HC : Hid (∀ i : Nat, i < 12 → (w.alloc o).cell? ⟨w.heap.size, i, none⟩ = some (.string (bs (opNm i)))) := fun i hi => by
    rw [← HO.out, World.cell?_alloc_new]
    have hc : i = 0 ∨ i = 1 ∨ i = 2 ∨ i = 3 ∨ i = 4 ∨ i = 5 ∨ i = 6 ∨ i = 7 ∨ i = 8 ∨ i = 9 ∨ i = 10 ∨ i = 11 := by omega
    rcases hc with rfl | rfl | rfl | rfl | rfl | rfl | rfl | rfl | rfl | rfl | rfl | rfl <;> rfl
  obtain ⟨w1, hw1⟩ : ∃ W, w.alloc o = W := ⟨_, rfl⟩
  have HB1 : Hid (Below w.heap.size w w1) := by show Below _ _ _; rw [← hw1]; exact Bel.alloc _ _
  have hwo : w.alloc (Obj.cells #[.string ⟨#[]⟩, .string ⟨#[115, 101, 116]⟩, .string ⟨#[109, 111, 118, 101]⟩, .string ⟨#[103, 101, 116]⟩, .string ⟨#[112, 117, 116]⟩, .string ⟨#[108, 111, 97, 100]⟩, .string ⟨#[115, 116, 111, 114, 101]⟩, .string ⟨#[111, 117, 116]⟩, .string ⟨#[114, 101, 97, 100]⟩, .string ⟨#[106, 117, 109, 112]⟩, .string ⟨#[122, 101, 114, 111]⟩, .string ⟨#[101, 110, 100]⟩] 9) = w1 := by rw [← hw1, ← HO.out]; rfl
  rw [hw1] at HC
  obtain ⟨g, HG⟩ : ∃ g, Hid (w.heap.size = g) := ⟨_, rfl⟩
  rw [HG.out] at HC
  go_wp2_with fail
  try rw [hwo]
  try rw [HG.out]
  clear hwo hw1
  go_loopw [4] (fun iv wr => ∃ k : Nat, 1 ≤ k ∧ k ≤ 12 ∧ iv = .int .i64 k ∧ wr = w1 ∧ ∀ j, 1 ≤ j → j < k → opNm j ≠ l) (fun iv _ => 12 - (intOf iv).toNat)
  case atStart => exact ⟨1, by omega, by omega, rfl, rfl, fun j h1 h2 => by omega⟩
  case round =>
    obtain ⟨k, hk1, hk2, rfl, rfl, hno⟩ := hrel
    have HNO : Hid (∀ j, 1 ≤ j → j < k → opNm j ≠ l) := hno
    clear hno
    by_cases hlt : (k : Int) < 12
    · have HK1 : Hid (k + 1 ≤ 12) := by show _ ≤ _; omega
      have HK0 : Hid (1 ≤ k) := hk1
      have h9 := HC.out k (by omega)
      by_cases he : opNm k = l
      · have heq := eqs_yes he
        have HE : Hid (opNm k = l) := he
        clear he
        go_wp2
        go_ret
        exact ⟨by rw [← HE.out, opOfL_nm k HK0.out (by have := HK1.out; omega)]; rfl, HB1.out⟩
      · have heq := eqs_no he
        have HE : Hid (opNm k ≠ l) := he
        clear he
        go_wp2_with fail
        have hwk : wrap64 ((k : Int) + 1) = (k : Int) + 1 := by have := HK1.out; unfold wrap64; omega
        try rw [hwk]
        go_roundw
        case rel => exact ⟨k + 1, by have := HK1.out; omega, HK1.out, by go_num, by first | rfl | trivial, fun j h1 h2 => by by_cases e9 : j = k; (subst e9; exact HE.out); exact HNO.out j h1 (by omega)⟩
        case measure => have h8 := HK1.out; simp [intOf]; omega
    · have hk : k = 12 := by omega
      subst hk
      go_wp2_with fail
      refine (spec_wordOf l _).mono ?_
      rintro e w2 ⟨q, rfl, hq10, hq1, hq0, b2⟩
      by_cases hz : q = 0
      · subst hz
        have HQ0 : Hid (∀ j, 12 ≤ j → j ≤ 21 → opNm j ≠ l) := hq0 rfl
        go_wp2
        go_ret
        exact ⟨by rw [opOfL_none (fun j h1 h2 => by by_cases h9 : j < 12; exact HNO.out j h1 h9; exact HQ0.out j (by omega) h2)]; rfl, Bel.after HB1.out b2⟩
      · have HQ1 : Hid (opNm (q + 11) = l) := hq1 (by omega)
        have HQ9 : Hid (1 ≤ q ∧ q ≤ 10) := ⟨by omega, hq10⟩
        have hpos : (0 : Int) < (q : Int) := by omega
        have HB2 : Hid (Below w.heap.size w w2) := Bel.after HB1.out b2
        clear hq1 hq0 hq10 b2
        go_wp2_with fail
        refine (spec_wordOf l _).mono ?_
        rintro e w3 ⟨q', rfl, hq10', hq1', hq0', b3⟩
        have hqq : q' = q := by
          by_cases hz' : q' = 0
          · exact absurd HQ1.out (hq0' hz' (q + 11) (by have := HQ9.out; omega) (by have := HQ9.out; omega))
          · have e1 := hq1' (by omega)
            have e2 := opOfL_nm (q' + 11) (by omega) (by omega)
            have e3 := opOfL_nm (q + 11) (by omega) (by have := HQ9.out; omega)
            rw [e1] at e2
            rw [HQ1.out] at e3
            omega
        subst hqq
        have hwq : wrap64 (11 + (q' : Int)) = 11 + (q' : Int) := by have := HQ9.out; unfold wrap64; omega
        have HB3 : Hid (Below w.heap.size w w3) := Bel.after HB2.out b3
        clear hq1' hq0' b3
        go_wp2
        go_ret
        refine ⟨?_, HB3.out⟩
        have e3 := opOfL_nm (q' + 11) (by omega) (by have := HQ9.out; omega)
        rw [HQ1.out] at e3
        rw [e3]
        exact retI (by omega)
end Go.Proofs.YtjcocpdicogecaaGreatDoor
