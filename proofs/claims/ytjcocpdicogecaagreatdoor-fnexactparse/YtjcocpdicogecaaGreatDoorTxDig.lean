/- The model's numerals. -/
import Derived.Test.YtjcocpdicogecaaGreatDoorTxTab
import Derived.Laws.IdiomStrings
namespace Go.Proofs.YtjcocpdicogecaaGreatDoor
open Go.ChangeShapes Go.WideShapes Go.ChangeAt Go.RowKit
set_option linter.unusedVariables false

def GivesTxt (w : World) (l : List UInt8) (e : Ending) (w' : World) : Prop := e = .returned (.string (bs l)) ∧ Below w.heap.size w w'
theorem digits_big {u : Nat} (h : 10 ≤ u) : Lib.decDigits u = Lib.decDigits (u / 10) ++ [UInt8.ofNat (48 + u % 10)] := by
  rw [Lib.decDigits, dif_neg (by omega)]
def LeftDig (u k : Nat) (l : List UInt8) : Prop := (k ≠ 0 → Lib.decDigits k ++ l = Lib.decDigits u) ∧ (k = 0 → l = Lib.decDigits u)
theorem LeftDig.next {u k : Nat} {l : List UInt8} (h : LeftDig u k l) (hk : k ≠ 0) : LeftDig u (k / 10) (UInt8.ofNat (48 + k % 10) :: l) := by
  have h1 := h.1 hk
  by_cases h9 : 10 ≤ k
  · rw [digits_big h9, List.append_assoc] at h1
    exact ⟨fun _ => h1, fun e => by omega⟩
  · rw [Lib.decDigits_one (by omega)] at h1
    refine ⟨fun e => by omega, fun _ => ?_⟩
    rw [show k % 10 = k by omega]
    exact h1

theorem dig_len {u : Nat} (h : u ≠ 0 ∧ u ≤ 9223372036854775808) : (Lib.decDigits u).length ≤ 20 := by
  have h9 := Lib.itoa_length_le (-(u : Int)) (by omega) (by omega)
  unfold Lib.itoa at h9
  rw [if_pos (by omega)] at h9
  simp at h9
  omega
theorem LeftDig.len {u k : Nat} {l : List UInt8} (h : LeftDig u k l) (hu : u ≠ 0 ∧ u ≤ 9223372036854775808) : l.length ≤ 20 := by
  have h9 := dig_len hu
  by_cases e : k = 0
  · rw [h.2 e]; exact h9
  · have h8 := congrArg List.length (h.1 e)
    rw [List.length_append] at h8
    omega
theorem conv_one {W : World} {B : Nat} {c : UInt8} {z : Int} (hz : z = (c.toNat : Int)) (hc : W.cell? ⟨B, 0, none⟩ = some (.int .u8 z)) :
    (convert 119 9 (.slice (some ⟨B, 0, none⟩) 1 1)).run Tryz.prog W = .ok (.string (bs [c])) W := by
  have h := run_convert_bytes_back (P := Tryz.prog) W 119 9 5 ⟨B, 0, none⟩ 1 [c] Tryz.underlying119 Tryz.underlying5 Tryz.underlying9 (fun j hj => by
    simp at hj
    subst hj
    simpa [Addr.add, hz] using hc)
  exact h
theorem dig_byte (k : Nat) : ((48 + k % 10 : Nat) : Int) = ((UInt8.ofNat (48 + k % 10)).toNat : Int) := by rw [dig_toNat (by omega)]

set_option maxRecDepth 100000 in
theorem l17Digits_any (n : Int) (w : World) (hr : -9223372036854775808 ≤ n ∧ n ≤ 9223372036854775807) :
    Calls Tryz.prog 42 #[.int .i64 n] w fun e w' => GivesTxt w (Lib.itoa n) e w' := by
  by_cases h0 : n = 0
  · subst h0
    go_enter Tryz.func42, Tryz.ntmps42
    go_wp2
    go_ret
    exact ⟨by unfold Lib.itoa; rw [if_neg (by omega)]; rw [show (0 : Int).toNat = 0 from rfl, Lib.decDigits_one (by omega)]; rfl, by repeat (first | exact Below.refl _ _ | apply Below.drew | refine Below.alloc ?_ (by simp <;> omega) _ | refine Below.setCell ?_ (by simp <;> omega) _)⟩
  · by_cases hs : n < 0
    · obtain ⟨u, rfl⟩ : ∃ u : Nat, n = -(u : Int) := ⟨n.natAbs, by omega⟩
      have HU : Hid (u ≠ 0 ∧ u ≤ 9223372036854775808) := ⟨by omega, by omega⟩
      clear hr
      go_enter Tryz.func42, Tryz.ntmps42
      go_wp2_with fail
      go_loopw [0, 4] (fun nv ov wr => ∃ (k : Nat) (l : List UInt8), nv = .int .i64 (-(k : Int)) ∧ ov = .string (bs l) ∧ k ≤ u ∧ LeftDig u k l ∧ Below w.heap.size w wr) (fun nv _ _ => (intOf nv).natAbs)
      case atStart => exact ⟨u, [], rfl, rfl, Nat.le_refl _, ⟨fun _ => by simp, fun e => absurd e HU.out.1⟩, by repeat (first | exact Below.refl _ _ | apply Below.drew | refine Below.alloc ?_ (by simp <;> omega) _ | refine Below.setCell ?_ (by simp <;> omega) _)⟩
      case round =>
        obtain ⟨k, l, rfl, rfl, hk, hl, hb⟩ := hrel
        have HL : Hid (LeftDig u k l) := hl
        have HB : Hid (Below w.heap.size w wr) := hb
        have HK : Hid (k ≤ u) := hk
        clear hl hb hk
        by_cases hk0 : k = 0
        · subst hk0
          have HE : Hid (l = Lib.decDigits u) := HL.out.2 rfl
          have hw1 : ¬ 9223372036854775807 < 1 + (bs l).size := by rw [bs_size]; have := HL.out.len HU.out; omega
          go_wp2_with fail
          refine bodyPost_ret (v := .string (bs ([45] ++ l))) (by simp [results, Tryz.results42, go_sem]; try (rw [show (⟨#[45]⟩ : ByteArray) = bs [45] from rfl, bs_app]; rfl)) rfl ?_
          refine ⟨ret_bs ?_, HB.out⟩
          rw [HE.out]
          unfold Lib.itoa
          rw [if_pos (by have := HU.out.1; omega)]; simp
        · have HK0 : Hid (k ≠ 0) := hk0
          have hk1 : ¬ ((-(k : Int) : Int) = 0) := by omega
          have hk2 : (0 : Int) ≤ (k : Int) := by omega
          obtain ⟨d, HD⟩ : ∃ d : Nat, Hid (k % 10 = d) := ⟨_, rfl⟩
          obtain ⟨q, HQ⟩ : ∃ q : Nat, Hid (k / 10 = q) := ⟨_, rfl⟩
          have hd : (k : Int) % 10 = (d : Int) := by have := HD.out; omega
          have hq : (k : Int) / 10 = (q : Int) := by have := HQ.out; omega
          have hd9 : d ≤ 9 := by have := HD.out; omega
          have hd0 : decide ((d : Int) < 0) = false := by simp
          by_cases hdz : d = 0
          · have hrm : Int.tmod (-(k : Int)) 10 = 0 := by rw [Int.neg_tmod, Int.tmod_eq_emod_of_nonneg hk2]; omega
            obtain ⟨c, HC⟩ : ∃ c : UInt8, Hid (UInt8.ofNat (48 + d) = c) := ⟨_, rfl⟩
            have hw2 : ¬ 9223372036854775807 < (bs [c]).size + (bs l).size := by rw [bs_size, bs_size]; have := HL.out.len HU.out; simp only [List.length_singleton]; omega
            have hcv := conv_one (z := 48) (W := wr.alloc (.cells #[.int .u8 48] 5)) (B := wr.heap.size) (c := c) (by have h9 := dig_toNat (d := d) (by omega); rw [HC.out] at h9; omega) (by simp [go_sem])
            have hqm : Int.tdiv (-(k : Int)) 10 = -(q : Int) := by rw [Int.neg_tdiv, Int.tdiv_eq_ediv_of_nonneg hk2, hq]
            have hwq : wrap64 (-(q : Int)) = -(q : Int) := by have := HQ.out; have := HK.out; have := HU.out; unfold wrap64; omega
            go_wp2_with fail
            go_roundw
            case rel => exact ⟨q, c :: l, by go_num, by rw [bs_app]; rfl, by have := HQ.out; have := HK.out; omega, by rw [← HC.out, ← HD.out, ← HQ.out]; exact HL.out.next HK0.out, Bel.after HB.out (Bel.alloc _ _)⟩
            case measure => simp [intOf]; have := HQ.out; have := HK0.out; omega
          · have hdp : 0 < d := by omega
            obtain ⟨c, HC⟩ : ∃ c : UInt8, Hid (UInt8.ofNat (48 + d) = c) := ⟨_, rfl⟩
            have hw2 : ¬ 9223372036854775807 < (bs [c]).size + (bs l).size := by rw [bs_size, bs_size]; have := HL.out.len HU.out; simp only [List.length_singleton]; omega
            have hcv := conv_one (z := 48 + (d : Int)) (W := wr.alloc (.cells #[.int .u8 (48 + (d : Int))] 5)) (B := wr.heap.size) (c := c) (by have h9 := dig_toNat (d := d) (by omega); rw [HC.out] at h9; omega) (by simp [go_sem])
            have hrm : Int.tmod (-(k : Int)) 10 = -(d : Int) := by rw [Int.neg_tmod, Int.tmod_eq_emod_of_nonneg hk2]; omega
            have hqm : Int.tdiv (-(k : Int)) 10 = -(q : Int) := by rw [Int.neg_tdiv, Int.tdiv_eq_ediv_of_nonneg hk2, hq]
            have hwq : wrap64 (-(q : Int)) = -(q : Int) := by have := HQ.out; have := HK.out; have := HU.out; unfold wrap64; omega
            go_wp2_with fail
            go_roundw
            case rel => exact ⟨q, c :: l, by go_num, by rw [bs_app]; rfl, by have := HQ.out; have := HK.out; omega, by rw [← HC.out, ← HD.out, ← HQ.out]; exact HL.out.next HK0.out, Bel.after HB.out (Bel.alloc _ _)⟩
            case measure => simp [intOf]; have := HQ.out; have := HK0.out; omega
    · obtain ⟨u, rfl⟩ : ∃ u : Nat, n = (u : Int) := ⟨n.toNat, by omega⟩
      have HU : Hid (u ≠ 0 ∧ u ≤ 9223372036854775808) := ⟨by omega, by omega⟩
      clear hr
      go_enter Tryz.func42, Tryz.ntmps42
      go_wp2_with fail
      go_loopw [0, 4] (fun nv ov wr => ∃ (k : Nat) (l : List UInt8), nv = .int .i64 ((k : Int)) ∧ ov = .string (bs l) ∧ k ≤ u ∧ LeftDig u k l ∧ Below w.heap.size w wr) (fun nv _ _ => (intOf nv).natAbs)
      case atStart => exact ⟨u, [], rfl, rfl, Nat.le_refl _, ⟨fun _ => by simp, fun e => absurd e HU.out.1⟩, by repeat (first | exact Below.refl _ _ | apply Below.drew | refine Below.alloc ?_ (by simp <;> omega) _ | refine Below.setCell ?_ (by simp <;> omega) _)⟩
      case round =>
        obtain ⟨k, l, rfl, rfl, hk, hl, hb⟩ := hrel
        have HL : Hid (LeftDig u k l) := hl
        have HB : Hid (Below w.heap.size w wr) := hb
        have HK : Hid (k ≤ u) := hk
        clear hl hb hk
        by_cases hk0 : k = 0
        · subst hk0
          have HE : Hid (l = Lib.decDigits u) := HL.out.2 rfl
          have hw1 : ¬ 9223372036854775807 < 1 + (bs l).size := by rw [bs_size]; have := HL.out.len HU.out; omega
          go_wp2_with fail
          refine bodyPost_ret (v := .string (bs (l))) (by simp [results, Tryz.results42, go_sem]; try (rw [show (⟨#[45]⟩ : ByteArray) = bs [45] from rfl, bs_app]; rfl)) rfl ?_
          refine ⟨ret_bs ?_, HB.out⟩
          rw [HE.out]
          unfold Lib.itoa
          rw [if_neg (by omega)]; simp
        · have HK0 : Hid (k ≠ 0) := hk0
          have hk1 : ¬ (((k : Int) : Int) = 0) := by omega
          have hk2 : (0 : Int) ≤ (k : Int) := by omega
          obtain ⟨d, HD⟩ : ∃ d : Nat, Hid (k % 10 = d) := ⟨_, rfl⟩
          obtain ⟨q, HQ⟩ : ∃ q : Nat, Hid (k / 10 = q) := ⟨_, rfl⟩
          have hd : (k : Int) % 10 = (d : Int) := by have := HD.out; omega
          have hq : (k : Int) / 10 = (q : Int) := by have := HQ.out; omega
          have hd9 : d ≤ 9 := by have := HD.out; omega
          have hd0 : decide ((d : Int) < 0) = false := by simp
          obtain ⟨c, HC⟩ : ∃ c : UInt8, Hid (UInt8.ofNat (48 + d) = c) := ⟨_, rfl⟩
          have hw2 : ¬ 9223372036854775807 < (bs [c]).size + (bs l).size := by rw [bs_size, bs_size]; have := HL.out.len HU.out; simp only [List.length_singleton]; omega
          have hcv := conv_one (z := 48 + (d : Int)) (W := wr.alloc (.cells #[.int .u8 (48 + (d : Int))] 5)) (B := wr.heap.size) (c := c) (by have h9 := dig_toNat (d := d) (by omega); rw [HC.out] at h9; omega) (by simp [go_sem])
          have hrm : Int.tmod ((k : Int)) 10 = (d : Int) := by rw [Int.tmod_eq_emod_of_nonneg hk2, hd]
          have hqm : Int.tdiv ((k : Int)) 10 = (q : Int) := by rw [Int.tdiv_eq_ediv_of_nonneg hk2, hq]
          have hwq : wrap64 ((q : Int)) = (q : Int) := by have := HQ.out; have := HK.out; have := HU.out; unfold wrap64; omega
          go_wp2_with fail
          rw [hwq]
          go_roundw
          case rel => exact ⟨q, c :: l, rfl, by rw [bs_app]; rfl, by have := HQ.out; have := HK.out; omega, by rw [← HC.out, ← HD.out, ← HQ.out]; exact HL.out.next HK0.out, Bel.after HB.out (Bel.alloc _ _)⟩
          case measure => simp [intOf]; have := HQ.out; have := HK0.out; omega
end Go.Proofs.YtjcocpdicogecaaGreatDoor
