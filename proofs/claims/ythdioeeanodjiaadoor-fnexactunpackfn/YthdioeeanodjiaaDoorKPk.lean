/- l1In. PackNum on both sides. The program's packer: its state, and a list of numbers put. A block put by the program's packer. -/
import Derived.Test.YthdioeeanodjiaaDoorKBa
import Derived.Test.YthdioeeanodjiaaDoorKSa
import Derived.Deep.OwnRows
namespace Go.Proofs.YthdioeeanodjiaaDoor
open Go.ChangeShapes Go.WideShapes Go.ChangeAt Go.RowKit
set_option linter.unusedVariables false

set_option linter.unusedVariables false

def PkR (w : World) (L : List UInt8) (ov nv : Value) (wr : World) : Prop := ∃ (k : Nat) (l : List UInt8), nv = .int .i64 (k : Int) ∧ OwnB wr w.heap.size ov l ∧ Below w.heap.size w wr ∧ l ++ lebs k = L ∧ k ≤ 9223372036854775807

theorem zig_neg {x : Int} (h : x < 0) (hf : Formed x) : ((zig x : Nat) : Int) = -2 * x - 1 := by
  unfold Formed at hf
  unfold zig
  rw [if_pos h]
  omega
theorem zig_pos {x : Int} (h : ¬ x < 0) : ((zig x : Nat) : Int) = 2 * x := by
  unfold zig
  rw [if_neg h]
  omega
theorem zig_le {x : Int} (hf : Formed x) : zig x ≤ 9223372036854775807 := by
  have h := zig_lt hf
  have e : (128 : Nat) ^ 9 = 9223372036854775808 := by decide
  rw [e] at h
  omega

set_option maxRecDepth 100000 in
set_option maxHeartbeats 2000000 in
theorem spec_packNum (x : Int) (w : World) (hx : -9223372036854775808 ≤ x ∧ x ≤ 9223372036854775807) :
    Calls Tryd.prog 28 #[.int .i64 x] w fun e w' => GivesB w (packX x) e w' := by
  by_cases hf : Formed x
  · obtain ⟨Z, HZ⟩ : ∃ z, Hid (zig x = z) := ⟨_, rfl⟩
    have HZL : Hid (Z ≤ 9223372036854775807) := by rw [← HZ.out]; exact zig_le hf
    have HP : Hid (packX x = lebs Z) := by rw [← HZ.out]; exact packX_yes hf
    have hin : (decide (-4611686018427387904 ≤ x) && decide (x ≤ 4611686018427387903)) = true := by simpa [Formed] using hf
    by_cases hn : x < 0
    · have hZ1 : wrap64 (wrap64 (-2 * x) - 1) = (Z : Int) := by
        have h1 := zig_neg hn hf
        rw [HZ.out] at h1
        unfold Formed at hf
        rw [h1]; unfold wrap64; omega
      clear hf
      go_enter Tryd.func28, Tryd.ntmps28
      go_wp2_with fail
      refine (l1In_any x (-4611686018427387904) 4611686018427387903 _).mono ?_
      rintro e w1 ⟨rfl, rfl⟩
      rw [hin]
      go_wp2_with fail
      try rw [hZ1]
      clear hZ1
      go_loopw [3, 4] (fun ov nv wr => PkR w (lebs Z) ov nv wr) (fun _ nv _ => (intOf nv).toNat)
      case atStart => exact ⟨Z, [], rfl, ownB_new _ _ (by simp), by repeat (first | exact Below.refl _ _ | apply Below.drew | refine Below.alloc ?_ (by simp <;> omega) _ | refine Below.setCell ?_ (by simp <;> omega) _), rfl, HZL.out⟩
      case round =>
        obtain ⟨k, l, rfl, hown, hb, hL, hk⟩ := hrel
        have HO : Hid (OwnB wr w.heap.size u3 l) := hown
        have HB : Hid (Below w.heap.size w wr) := hb
        have HL : Hid (l ++ lebs k = lebs Z) := hL
        have HK : Hid (k ≤ 9223372036854775807) := hk
        obtain ⟨m, HM⟩ : ∃ m, Hid (l.length = m) := ⟨_, rfl⟩
        have HM9 : Hid (m ≤ 9) := by
          have h1 := congrArg List.length HL.out
          rw [List.length_append] at h1
          have h2 := packX_len x
          rw [HP.out] at h2
          have h3 := HM.out
          show _ ≤ _
          omega
        obtain ⟨va, vc, rfl⟩ := hown.form HM.out
        clear hown hb hL hk
        by_cases h127 : (127 : Int) < (k : Int)
        · have h128 : (128 : Int) ≤ (k : Int) := by omega
          obtain ⟨d, HD⟩ : ∃ d : Nat, Hid (k % 128 = d) := ⟨_, rfl⟩
          obtain ⟨q, HQ⟩ : ∃ q : Nat, Hid (k / 128 = q) := ⟨_, rfl⟩
          have hd9 : d < 128 := by have := HD.out; omega
          have hd0 : (0 : Int) ≤ d := by omega
          have hk0 : (0 : Int) ≤ (k : Int) := by omega
          have hrm : Int.tmod (k : Int) 128 = (d : Int) := by rw [Int.tmod_eq_emod_of_nonneg hk0]; have := HD.out; omega
          have hqm : Int.tdiv (k : Int) 128 = (q : Int) := by rw [Int.tdiv_eq_ediv_of_nonneg hk0]; have := HQ.out; omega
          obtain ⟨v', w5, hrun, ho5, hb5, hs5, hk5⟩ := add_byte w.heap.size (.slice va m vc) l (UInt8.ofNat (d + 128)) ((d : Int) + 128) wr (by rw [byte_nat (by omega)]; simp) HO.out HB.out.size (by rw [HM.out]; have := HM9.out; omega)
          have HO5 : Hid (OwnB w5 w.heap.size v' (l ++ [UInt8.ofNat (d + 128)])) := ho5
          have HB5 : Hid (Below w.heap.size w w5) := HB.out.trans hb5
          have HL5 : Hid ((l ++ [UInt8.ofNat (d + 128)]) ++ lebs q = lebs Z) := by
            show _ = _
            rw [← HL.out, lebs_up (n := k) (by omega), HD.out, HQ.out, List.append_assoc]
            rfl
          have HQK : Hid (q < k) := by have := HQ.out; show _ < _; omega
          have hq2 : (q : Int) ≤ 9223372036854775807 := by have := HQ.out; have := HK.out; omega
          clear ho5 hb5 hs5 hk5
          go_wp2_with (at_builtin; refine wpList_appendR rfl _ _ 22 rfl rfl rfl hrun ?_)
          go_roundw
          case rel =>
            have HR : Hid (PkR w (lebs Z) v' (.int .i64 (q : Int)) w5) := ⟨q, _, rfl, HO5.out, HB5.out, HL5.out, by have := HQK.out; have := HK.out; omega⟩
            first
              | exact HR.out
              | ((repeat apply Exists.intro); exact ⟨HR.out, rfl⟩)
          case measure => simp [intOf]; have := HQK.out; omega
        · have h128 : ¬ (128 : Int) ≤ (k : Int) := by omega
          have hk7 : (k : Int) ≤ 127 := by omega
          have hk0 : (0 : Int) ≤ (k : Int) := by omega
          obtain ⟨v', w5, hrun, ho5, hb5, hs5, hk5⟩ := add_byte w.heap.size (.slice va m vc) l (UInt8.ofNat k) (k : Int) wr (by rw [byte_nat (by omega)]) HO.out HB.out.size (by rw [HM.out]; have := HM9.out; omega)
          have HO5 : Hid (OwnB w5 w.heap.size v' (l ++ [UInt8.ofNat k])) := ho5
          have HB5 : Hid (Below w.heap.size w w5) := HB.out.trans hb5
          have HL5 : Hid (l ++ [UInt8.ofNat k] = packX x) := by
            show _ = _
            rw [HP.out, ← HL.out, lebs_low (n := k) (by omega)]
          clear ho5 hb5 hs5 hk5
          go_wp2_with (at_builtin; refine wpList_appendR rfl _ _ 22 rfl rfl rfl hrun ?_)
          go_ret
          exact ⟨_, rfl, by rw [← HL5.out]; exact HO5.out, HB5.out⟩
    · have hZ1 : wrap64 (2 * x) = (Z : Int) := by
        have h1 := zig_pos hn
        rw [HZ.out] at h1
        unfold Formed at hf
        rw [h1]; unfold wrap64; omega
      clear hf
      go_enter Tryd.func28, Tryd.ntmps28
      go_wp2_with fail
      refine (l1In_any x (-4611686018427387904) 4611686018427387903 _).mono ?_
      rintro e w1 ⟨rfl, rfl⟩
      rw [hin]
      go_wp2_with fail
      try rw [hZ1]
      clear hZ1
      go_loopw [3, 4] (fun ov nv wr => PkR w (lebs Z) ov nv wr) (fun _ nv _ => (intOf nv).toNat)
      case atStart => exact ⟨Z, [], rfl, ownB_new _ _ (by simp), by repeat (first | exact Below.refl _ _ | apply Below.drew | refine Below.alloc ?_ (by simp <;> omega) _ | refine Below.setCell ?_ (by simp <;> omega) _), rfl, HZL.out⟩
      case round =>
        obtain ⟨k, l, rfl, hown, hb, hL, hk⟩ := hrel
        have HO : Hid (OwnB wr w.heap.size u3 l) := hown
        have HB : Hid (Below w.heap.size w wr) := hb
        have HL : Hid (l ++ lebs k = lebs Z) := hL
        have HK : Hid (k ≤ 9223372036854775807) := hk
        obtain ⟨m, HM⟩ : ∃ m, Hid (l.length = m) := ⟨_, rfl⟩
        have HM9 : Hid (m ≤ 9) := by
          have h1 := congrArg List.length HL.out
          rw [List.length_append] at h1
          have h2 := packX_len x
          rw [HP.out] at h2
          have h3 := HM.out
          show _ ≤ _
          omega
        obtain ⟨va, vc, rfl⟩ := hown.form HM.out
        clear hown hb hL hk
        by_cases h127 : (127 : Int) < (k : Int)
        · have h128 : (128 : Int) ≤ (k : Int) := by omega
          obtain ⟨d, HD⟩ : ∃ d : Nat, Hid (k % 128 = d) := ⟨_, rfl⟩
          obtain ⟨q, HQ⟩ : ∃ q : Nat, Hid (k / 128 = q) := ⟨_, rfl⟩
          have hd9 : d < 128 := by have := HD.out; omega
          have hd0 : (0 : Int) ≤ d := by omega
          have hk0 : (0 : Int) ≤ (k : Int) := by omega
          have hrm : Int.tmod (k : Int) 128 = (d : Int) := by rw [Int.tmod_eq_emod_of_nonneg hk0]; have := HD.out; omega
          have hqm : Int.tdiv (k : Int) 128 = (q : Int) := by rw [Int.tdiv_eq_ediv_of_nonneg hk0]; have := HQ.out; omega
          obtain ⟨v', w5, hrun, ho5, hb5, hs5, hk5⟩ := add_byte w.heap.size (.slice va m vc) l (UInt8.ofNat (d + 128)) ((d : Int) + 128) wr (by rw [byte_nat (by omega)]; simp) HO.out HB.out.size (by rw [HM.out]; have := HM9.out; omega)
          have HO5 : Hid (OwnB w5 w.heap.size v' (l ++ [UInt8.ofNat (d + 128)])) := ho5
          have HB5 : Hid (Below w.heap.size w w5) := HB.out.trans hb5
          have HL5 : Hid ((l ++ [UInt8.ofNat (d + 128)]) ++ lebs q = lebs Z) := by
            show _ = _
            rw [← HL.out, lebs_up (n := k) (by omega), HD.out, HQ.out, List.append_assoc]
            rfl
          have HQK : Hid (q < k) := by have := HQ.out; show _ < _; omega
          have hq2 : (q : Int) ≤ 9223372036854775807 := by have := HQ.out; have := HK.out; omega
          clear ho5 hb5 hs5 hk5
          go_wp2_with (at_builtin; refine wpList_appendR rfl _ _ 22 rfl rfl rfl hrun ?_)
          go_roundw
          case rel =>
            have HR : Hid (PkR w (lebs Z) v' (.int .i64 (q : Int)) w5) := ⟨q, _, rfl, HO5.out, HB5.out, HL5.out, by have := HQK.out; have := HK.out; omega⟩
            first
              | exact HR.out
              | ((repeat apply Exists.intro); exact ⟨HR.out, rfl⟩)
          case measure => simp [intOf]; have := HQK.out; omega
        · have h128 : ¬ (128 : Int) ≤ (k : Int) := by omega
          have hk7 : (k : Int) ≤ 127 := by omega
          have hk0 : (0 : Int) ≤ (k : Int) := by omega
          obtain ⟨v', w5, hrun, ho5, hb5, hs5, hk5⟩ := add_byte w.heap.size (.slice va m vc) l (UInt8.ofNat k) (k : Int) wr (by rw [byte_nat (by omega)]) HO.out HB.out.size (by rw [HM.out]; have := HM9.out; omega)
          have HO5 : Hid (OwnB w5 w.heap.size v' (l ++ [UInt8.ofNat k])) := ho5
          have HB5 : Hid (Below w.heap.size w w5) := HB.out.trans hb5
          have HL5 : Hid (l ++ [UInt8.ofNat k] = packX x) := by
            show _ = _
            rw [HP.out, ← HL.out, lebs_low (n := k) (by omega)]
          clear ho5 hb5 hs5 hk5
          go_wp2_with (at_builtin; refine wpList_appendR rfl _ _ 22 rfl rfl rfl hrun ?_)
          go_ret
          exact ⟨_, rfl, by rw [← HL5.out]; exact HO5.out, HB5.out⟩
  · have hin : (decide (-4611686018427387904 ≤ x) && decide (x ≤ 4611686018427387903)) = false := by
      unfold Formed at hf
      rw [Bool.and_eq_false_iff]
      simp
      omega
    go_enter Tryd.func28, Tryd.ntmps28
    go_wp2_with fail
    refine (l1In_any x (-4611686018427387904) 4611686018427387903 _).mono ?_
    rintro e w1 ⟨rfl, rfl⟩
    rw [hin]
    go_wp2_with fail
    go_ret
    exact ⟨_, rfl, by rw [packX_no hf]; exact ownB_new _ _ (Nat.le_refl _), by repeat (first | exact Below.refl _ _ | apply Below.drew | refine Below.alloc ?_ (by simp <;> omega) _ | refine Below.setCell ?_ (by simp <;> omega) _)⟩
set_option maxRecDepth 100000 in
set_option maxHeartbeats 2000000 in
theorem impl_packNum (x : Int) (w : World) (hx : -9223372036854775808 ≤ x ∧ x ≤ 9223372036854775807) :
    Calls Tryd.prog 42 #[.int .i64 x] w fun e w' => GivesB w (packX x) e w' := by
  by_cases hf : Formed x
  · obtain ⟨Z, HZ⟩ : ∃ z, Hid (zig x = z) := ⟨_, rfl⟩
    have HZL : Hid (Z ≤ 9223372036854775807) := by rw [← HZ.out]; exact zig_le hf
    have HP : Hid (packX x = lebs Z) := by rw [← HZ.out]; exact packX_yes hf
    have hin1 : ¬ x < -4611686018427387904 := by unfold Formed at hf; omega
    have hin2 : ¬ 4611686018427387904 ≤ x := by unfold Formed at hf; omega
    by_cases hn : x < 0
    · have hZ1 : bits .xor .i64 (-1) (2 * x) = (Z : Int) := by
        have h1 := zig_neg hn hf
        rw [HZ.out] at h1
        unfold Formed at hf
        rw [not_i64 _ (by omega)]; omega
      clear hf
      go_enter Tryd.func42, Tryd.ntmps42
      go_wp2_with fail
      go_loopw [3, 4] (fun nv ov wr => PkR w (lebs Z) ov nv wr) (fun nv _ _ => (intOf nv).toNat)
      case atStart => exact ⟨Z, [], by first | rfl | rw [hZ1], ownB_new _ _ (by simp), by repeat (first | exact Below.refl _ _ | apply Below.drew | refine Below.alloc ?_ (by simp <;> omega) _ | refine Below.setCell ?_ (by simp <;> omega) _), rfl, HZL.out⟩
      case round =>
        obtain ⟨k, l, rfl, hown, hb, hL, hk⟩ := hrel
        have HO : Hid (OwnB wr w.heap.size u4 l) := hown
        have HB : Hid (Below w.heap.size w wr) := hb
        have HL : Hid (l ++ lebs k = lebs Z) := hL
        have HK : Hid (k ≤ 9223372036854775807) := hk
        obtain ⟨m, HM⟩ : ∃ m, Hid (l.length = m) := ⟨_, rfl⟩
        have HM9 : Hid (m ≤ 9) := by
          have h1 := congrArg List.length HL.out
          rw [List.length_append] at h1
          have h2 := packX_len x
          rw [HP.out] at h2
          have h3 := HM.out
          show _ ≤ _
          omega
        obtain ⟨va, vc, rfl⟩ := hown.form HM.out
        clear hown hb hL hk
        by_cases h127 : (127 : Int) < (k : Int)
        · have h128 : (128 : Int) ≤ (k : Int) := by omega
          obtain ⟨d, HD⟩ : ∃ d : Nat, Hid (k % 128 = d) := ⟨_, rfl⟩
          obtain ⟨q, HQ⟩ : ∃ q : Nat, Hid (k / 128 = q) := ⟨_, rfl⟩
          have hd9 : d < 128 := by have := HD.out; omega
          have hd0 : (0 : Int) ≤ d := by omega
          have hk0 : (0 : Int) ≤ (k : Int) := by omega
          have hrm : Int.tmod (k : Int) 128 = (d : Int) := by rw [Int.tmod_eq_emod_of_nonneg hk0]; have := HD.out; omega
          have hqm : Int.tdiv (k : Int) 128 = (q : Int) := by rw [Int.tdiv_eq_ediv_of_nonneg hk0]; have := HQ.out; omega
          obtain ⟨v', w5, hrun, ho5, hb5, hs5, hk5⟩ := add_byte w.heap.size (.slice va m vc) l (UInt8.ofNat (d + 128)) ((d : Int) + 128) wr (by rw [byte_nat (by omega)]; simp) HO.out HB.out.size (by rw [HM.out]; have := HM9.out; omega)
          have HO5 : Hid (OwnB w5 w.heap.size v' (l ++ [UInt8.ofNat (d + 128)])) := ho5
          have HB5 : Hid (Below w.heap.size w w5) := HB.out.trans hb5
          have HL5 : Hid ((l ++ [UInt8.ofNat (d + 128)]) ++ lebs q = lebs Z) := by
            show _ = _
            rw [← HL.out, lebs_up (n := k) (by omega), HD.out, HQ.out, List.append_assoc]
            rfl
          have HQK : Hid (q < k) := by have := HQ.out; show _ < _; omega
          have hq2 : (q : Int) ≤ 9223372036854775807 := by have := HQ.out; have := HK.out; omega
          clear ho5 hb5 hs5 hk5
          go_wp2_with (at_builtin; refine wpList_appendR rfl _ _ 22 rfl rfl rfl hrun ?_)
          go_roundw
          case rel => exact ⟨q, _, rfl, HO5.out, HB5.out, HL5.out, by have := HQK.out; have := HK.out; omega⟩
          case measure => simp [intOf]; have := HQK.out; omega
        · have h128 : ¬ (128 : Int) ≤ (k : Int) := by omega
          have hk7 : (k : Int) ≤ 127 := by omega
          have hk0 : (0 : Int) ≤ (k : Int) := by omega
          obtain ⟨v', w5, hrun, ho5, hb5, hs5, hk5⟩ := add_byte w.heap.size (.slice va m vc) l (UInt8.ofNat k) (k : Int) wr (by rw [byte_nat (by omega)]) HO.out HB.out.size (by rw [HM.out]; have := HM9.out; omega)
          have HO5 : Hid (OwnB w5 w.heap.size v' (l ++ [UInt8.ofNat k])) := ho5
          have HB5 : Hid (Below w.heap.size w w5) := HB.out.trans hb5
          have HL5 : Hid (l ++ [UInt8.ofNat k] = packX x) := by
            show _ = _
            rw [HP.out, ← HL.out, lebs_low (n := k) (by omega)]
          clear ho5 hb5 hs5 hk5
          go_wp2_with (at_builtin; refine wpList_appendR rfl _ _ 22 rfl rfl rfl hrun ?_)
          go_ret
          exact ⟨_, rfl, by rw [← HL5.out]; exact HO5.out, HB5.out⟩
    · have hZ1 : 2 * x = (Z : Int) := by
        have h1 := zig_pos hn
        rw [HZ.out] at h1
        omega
      clear hf
      go_enter Tryd.func42, Tryd.ntmps42
      go_wp2_with fail
      go_loopw [3, 4] (fun nv ov wr => PkR w (lebs Z) ov nv wr) (fun nv _ _ => (intOf nv).toNat)
      case atStart => exact ⟨Z, [], by first | rfl | rw [hZ1], ownB_new _ _ (by simp), by repeat (first | exact Below.refl _ _ | apply Below.drew | refine Below.alloc ?_ (by simp <;> omega) _ | refine Below.setCell ?_ (by simp <;> omega) _), rfl, HZL.out⟩
      case round =>
        obtain ⟨k, l, rfl, hown, hb, hL, hk⟩ := hrel
        have HO : Hid (OwnB wr w.heap.size u4 l) := hown
        have HB : Hid (Below w.heap.size w wr) := hb
        have HL : Hid (l ++ lebs k = lebs Z) := hL
        have HK : Hid (k ≤ 9223372036854775807) := hk
        obtain ⟨m, HM⟩ : ∃ m, Hid (l.length = m) := ⟨_, rfl⟩
        have HM9 : Hid (m ≤ 9) := by
          have h1 := congrArg List.length HL.out
          rw [List.length_append] at h1
          have h2 := packX_len x
          rw [HP.out] at h2
          have h3 := HM.out
          show _ ≤ _
          omega
        obtain ⟨va, vc, rfl⟩ := hown.form HM.out
        clear hown hb hL hk
        by_cases h127 : (127 : Int) < (k : Int)
        · have h128 : (128 : Int) ≤ (k : Int) := by omega
          obtain ⟨d, HD⟩ : ∃ d : Nat, Hid (k % 128 = d) := ⟨_, rfl⟩
          obtain ⟨q, HQ⟩ : ∃ q : Nat, Hid (k / 128 = q) := ⟨_, rfl⟩
          have hd9 : d < 128 := by have := HD.out; omega
          have hd0 : (0 : Int) ≤ d := by omega
          have hk0 : (0 : Int) ≤ (k : Int) := by omega
          have hrm : Int.tmod (k : Int) 128 = (d : Int) := by rw [Int.tmod_eq_emod_of_nonneg hk0]; have := HD.out; omega
          have hqm : Int.tdiv (k : Int) 128 = (q : Int) := by rw [Int.tdiv_eq_ediv_of_nonneg hk0]; have := HQ.out; omega
          obtain ⟨v', w5, hrun, ho5, hb5, hs5, hk5⟩ := add_byte w.heap.size (.slice va m vc) l (UInt8.ofNat (d + 128)) ((d : Int) + 128) wr (by rw [byte_nat (by omega)]; simp) HO.out HB.out.size (by rw [HM.out]; have := HM9.out; omega)
          have HO5 : Hid (OwnB w5 w.heap.size v' (l ++ [UInt8.ofNat (d + 128)])) := ho5
          have HB5 : Hid (Below w.heap.size w w5) := HB.out.trans hb5
          have HL5 : Hid ((l ++ [UInt8.ofNat (d + 128)]) ++ lebs q = lebs Z) := by
            show _ = _
            rw [← HL.out, lebs_up (n := k) (by omega), HD.out, HQ.out, List.append_assoc]
            rfl
          have HQK : Hid (q < k) := by have := HQ.out; show _ < _; omega
          have hq2 : (q : Int) ≤ 9223372036854775807 := by have := HQ.out; have := HK.out; omega
          clear ho5 hb5 hs5 hk5
          go_wp2_with (at_builtin; refine wpList_appendR rfl _ _ 22 rfl rfl rfl hrun ?_)
          go_roundw
          case rel => exact ⟨q, _, rfl, HO5.out, HB5.out, HL5.out, by have := HQK.out; have := HK.out; omega⟩
          case measure => simp [intOf]; have := HQK.out; omega
        · have h128 : ¬ (128 : Int) ≤ (k : Int) := by omega
          have hk7 : (k : Int) ≤ 127 := by omega
          have hk0 : (0 : Int) ≤ (k : Int) := by omega
          obtain ⟨v', w5, hrun, ho5, hb5, hs5, hk5⟩ := add_byte w.heap.size (.slice va m vc) l (UInt8.ofNat k) (k : Int) wr (by rw [byte_nat (by omega)]) HO.out HB.out.size (by rw [HM.out]; have := HM9.out; omega)
          have HO5 : Hid (OwnB w5 w.heap.size v' (l ++ [UInt8.ofNat k])) := ho5
          have HB5 : Hid (Below w.heap.size w w5) := HB.out.trans hb5
          have HL5 : Hid (l ++ [UInt8.ofNat k] = packX x) := by
            show _ = _
            rw [HP.out, ← HL.out, lebs_low (n := k) (by omega)]
          clear ho5 hb5 hs5 hk5
          go_wp2_with (at_builtin; refine wpList_appendR rfl _ _ 22 rfl rfl rfl hrun ?_)
          go_ret
          exact ⟨_, rfl, by rw [← HL5.out]; exact HO5.out, HB5.out⟩
  · by_cases h1 : x < -4611686018427387904
    · go_enter Tryd.func42, Tryd.ntmps42
      go_wp2_with fail
      go_ret
      exact ⟨_, rfl, by rw [packX_no hf]; exact ownB_new _ _ (Nat.le_refl _), by repeat (first | exact Below.refl _ _ | apply Below.drew | refine Below.alloc ?_ (by simp <;> omega) _ | refine Below.setCell ?_ (by simp <;> omega) _)⟩
    · have h2 : 4611686018427387904 ≤ x := by unfold Formed at hf; omega
      go_enter Tryd.func42, Tryd.ntmps42
      go_wp2_with fail
      go_ret
      exact ⟨_, rfl, by rw [packX_no hf]; exact ownB_new _ _ (Nat.le_refl _), by repeat (first | exact Below.refl _ _ | apply Below.drew | refine Below.alloc ?_ (by simp <;> omega) _ | refine Below.setCell ?_ (by simp <;> omega) _)⟩
end Go.Proofs.YthdioeeanodjiaaDoor

namespace Go.Proofs.YthdioeeanodjiaaDoor
open Go.ChangeShapes Go.WideShapes Go.ChangeAt Go.RowKit
set_option linter.unusedVariables false

theorem cell_sameP {w w' : World} {g : Nat} (h : w'.heap[g]? = w.heap[g]?) (o : Nat) : w'.cell? ⟨g, o, none⟩ = w.cell? ⟨g, o, none⟩ := by simp [World.cell?, h]
/-- The packer in block Q; its list lies from lo on, apart from what K names. -/
def PkAt (K : Nat → Prop) (lo Q : Nat) (w : World) (l : List UInt8) (ok : Bool) : Prop :=
  ∃ v, w.heap[Q]? = some (.cells #[v, .bool ok] 54 (0, 0)) ∧ OwnB w lo v l ∧ (∀ g, v.ownBlock = some g → g ≠ Q ∧ ¬ K g) ∧ (∀ g, K g → g ≠ Q ∧ g < w.heap.size) ∧ lo ≤ Q ∧ lo ≤ w.heap.size
theorem PkAt.keep {K : Nat → Prop} {lo Q : Nat} {w w' : World} {l : List UInt8} {ok : Bool} (h : PkAt K lo Q w l ok) (hb : Below w.heap.size w w') : PkAt (fun g => K g ∨ (w.heap.size ≤ g ∧ g < w'.heap.size)) lo Q w' l ok := by
  obtain ⟨v, h1, h2, h3, h4, h5, h6⟩ := h
  have hQ := (Array.getElem?_eq_some_iff.1 h1).1
  have hs := hb.size
  refine ⟨v, (hb.block Q hQ).trans h1, h2.keep hb, fun g hg => ⟨(h3 g hg).1, fun hk => ?_⟩, fun g hg => ?_, h5, Nat.le_trans h6 hs⟩
  · rcases hk with hk | hk
    · exact (h3 g hg).2 hk
    · have := (h2.lt g hg).2; omega
  · rcases hg with hg | hg
    · exact ⟨(h4 g hg).1, Nat.lt_of_lt_of_le (h4 g hg).2 hs⟩
    · exact ⟨by omega, hg.2⟩
theorem PkAt.less {K K' : Nat → Prop} {lo Q : Nat} {w : World} {l : List UInt8} {ok : Bool} (h : PkAt K lo Q w l ok) (hk : ∀ g, K' g → K g) : PkAt K' lo Q w l ok := by
  obtain ⟨v, h1, h2, h3, h4, h5, h6⟩ := h
  exact ⟨v, h1, h2, fun g hg => ⟨(h3 g hg).1, fun hk' => (h3 g hg).2 (hk g hk')⟩, fun g hg => h4 g (hk g hg), h5, h6⟩
/-- The packer between the two writes of a round, and behind them. -/
theorem PkAt.step {K : Nat → Prop} {lo Q lo2 : Nat} {w : World} {l m : List UInt8} {ok b : Bool} {v x : Value} (h1 : w.heap[Q]? = some (.cells #[v, .bool ok] 54 (0, 0))) (h2 : OwnB w lo v l) (h3 : ∀ g, v.ownBlock = some g → g ≠ Q ∧ ¬ K g) (h4 : ∀ g, K g → g ≠ Q ∧ g < w.heap.size) (h5 : lo ≤ Q) (h6 : lo ≤ w.heap.size) (hx : OwnB w lo2 x m) (hxQ : ∀ g, x.ownBlock = some g → g ≠ Q) (hn : l.length + m.length ≤ 140737488355328) :
    ∃ v' w3, (∀ ty, (Builtin.append_ #[22, 22] ty #[v, x]).run Tryd.prog (w.setCell ⟨Q, 1, none⟩ (.bool b)) = .ok v' w3) ∧ w3.cell? ⟨Q, 0, none⟩ = some v ∧ w3.frozen? ⟨Q, 0, none⟩ = false ∧
      PkAt K lo Q (w3.setCell ⟨Q, 0, none⟩ v') (l ++ m) b ∧ Below lo w (w3.setCell ⟨Q, 0, none⟩ v') ∧ (∀ g, K g → (w3.setCell ⟨Q, 0, none⟩ v').heap[g]? = w.heap[g]?) ∧ w.heap.size ≤ (w3.setCell ⟨Q, 0, none⟩ v').heap.size ∧ (∃ a q c, v' = .slice a q c) := by
  have hQ := (Array.getElem?_eq_some_iff.1 h1).1
  have e1 : (w.setCell ⟨Q, 1, none⟩ (.bool b)).heap[Q]? = some (.cells #[v, .bool b] 54 (0, 0)) := by
    rw [heap_setCell_same _ _ _ _ _ _ h1]
    rfl
  have hsame : ∀ g, g ≠ Q → (w.setCell ⟨Q, 1, none⟩ (.bool b)).heap[g]? = w.heap[g]? := fun g hg => Below.heap_setCell _ _ _ g hg
  have own : ∀ {lo3 : Nat} {u : Value} {t : List UInt8}, OwnB w lo3 u t → (∀ g, u.ownBlock = some g → g ≠ Q) → OwnB (w.setCell ⟨Q, 1, none⟩ (.bool b)) lo3 u t := fun hu hne => by
    obtain ⟨k0, k1⟩ := hu
    refine ⟨k0, ?_⟩
    rcases k1 with k1 | ⟨g, cap, cur, rfl, hlo, hg, k2⟩
    · exact .inl k1
    · exact .inr ⟨g, cap, cur, rfl, hlo, (hsame g (hne g rfl)).trans hg, k2⟩
  have hsz : (w.setCell ⟨Q, 1, none⟩ (.bool b)).heap.size = w.heap.size := by simp [World.setCell]
  obtain ⟨v', w3, hrun, o3, b3, s3, k3⟩ := add_bytes lo lo2 v x l m (w.setCell ⟨Q, 1, none⟩ (.bool b)) (own h2 (fun g hg => (h3 g hg).1)) (own hx hxQ) (by rw [hsz]; exact h6) hn
  have hQ3 := k3 Q (by rw [hsz]; exact hQ) (fun e => (h3 Q e).1 rfl)
  have e3 : w3.heap[Q]? = some (.cells #[v, .bool b] 54 (0, 0)) := hQ3.1.trans e1
  have e4 : (w3.setCell ⟨Q, 0, none⟩ v').heap[Q]? = some (.cells #[v', .bool b] 54 (0, 0)) := by
    rw [heap_setCell_same _ _ _ _ _ _ e3]
    rfl
  have hs4 : ∀ g, g ≠ Q → (w3.setCell ⟨Q, 0, none⟩ v').heap[g]? = w3.heap[g]? := fun g hg => Below.heap_setCell _ _ _ g hg
  have hz4 : (w3.setCell ⟨Q, 0, none⟩ v').heap.size = w3.heap.size := by simp [World.setCell]
  have bl : Below lo w (w3.setCell ⟨Q, 0, none⟩ v') := (((Below.refl lo w).setCell (p := ⟨Q, 1, none⟩) h5 _).trans b3).setCell (p := ⟨Q, 0, none⟩) h5 _
  have hw : ∀ g, K g → (w3.setCell ⟨Q, 0, none⟩ v').heap[g]? = w.heap[g]? := fun g hg => by
    obtain ⟨j1, j2⟩ := h4 g hg
    rw [hs4 g j1, (k3 g (by rw [hsz]; exact j2) (fun e => (h3 g e).2 hg)).1, hsame g j1]
  refine ⟨v', w3, hrun, (by simp [World.cell?, e3]), (by simp [World.frozen?, e3]), ⟨v', e4, ?_, fun g hg => ⟨fun e => hQ3.2 (by rw [← e]; exact hg), fun hk => ?_⟩, fun g hg => ⟨(h4 g hg).1, ?_⟩, h5, ?_⟩, bl, hw, ?_, ?_⟩
  · obtain ⟨k0, k1⟩ := o3
    refine ⟨k0, ?_⟩
    rcases k1 with k1 | ⟨g, cap, cur, rfl, hlo, hg, k2⟩
    · exact .inl k1
    · exact .inr ⟨g, cap, cur, rfl, hlo, (hs4 g (fun e => hQ3.2 (by rw [← e]; rfl))).trans hg, k2⟩
  · obtain ⟨j1, j2⟩ := h4 g hk
    exact (k3 g (by rw [hsz]; exact j2) (fun e => (h3 g e).2 hk)).2 hg
  · rw [hz4]; have := (h4 g hg).2; omega
  · rw [hz4]; omega
  · rw [hz4]; omega
  · obtain ⟨a, c, e⟩ := o3.form rfl
    exact ⟨a, _, c, e⟩

theorem impl_packNumX (x : Int) (w : World) : Calls Tryd.prog 42 #[.int .i64 x] w fun e w' => GivesB w (packX x) e w' := by
  by_cases hf : Formed x
  · exact impl_packNum x w (by unfold Formed at hf; omega)
  · by_cases h1 : x < -4611686018427387904
    · go_enter Tryd.func42, Tryd.ntmps42
      go_wp2_with fail
      go_ret
      exact ⟨_, rfl, by rw [packX_no hf]; exact ownB_new _ _ (Nat.le_refl _), by repeat (first | exact Below.refl _ _ | apply Below.drew | refine Below.alloc ?_ (by simp <;> omega) _ | refine Below.setCell ?_ (by simp <;> omega) _)⟩
    · have h2 : 4611686018427387904 ≤ x := by unfold Formed at hf; omega
      go_enter Tryd.func42, Tryd.ntmps42
      go_wp2_with fail
      go_ret
      exact ⟨_, rfl, by rw [packX_no hf]; exact ownB_new _ _ (Nat.le_refl _), by repeat (first | exact Below.refl _ _ | apply Below.drew | refine Below.alloc ?_ (by simp <;> omega) _ | refine Below.setCell ?_ (by simp <;> omega) _)⟩

def PutR (K : Nat → Prop) (lo Q : Nat) (w : World) (l : List UInt8) (ok : Bool) (xs : List Int) (n : Nat) (iv : Value) (wr : World) : Prop :=
  ∃ k : Nat, k ≤ n ∧ iv = .int .i64 k ∧ PkAt K lo Q wr (l ++ packB (xs.take k)) (ok && allF (xs.take k)) ∧ Below lo w wr ∧ (∀ g, K g → wr.heap[g]? = w.heap[g]?) ∧ w.heap.size ≤ wr.heap.size
/-- What a put leaves. -/
def GivesPut (K : Nat → Prop) (lo Q : Nat) (w : World) (l : List UInt8) (ok : Bool) (e : Ending) (w' : World) : Prop :=
  e = .returned (.tuple #[]) ∧ PkAt K lo Q w' l ok ∧ Below lo w w' ∧ (∀ g, K g → w'.heap[g]? = w.heap[g]?) ∧ w.heap.size ≤ w'.heap.size
set_option maxRecDepth 100000 in
set_option maxHeartbeats 2000000 in
theorem put_any (K : Nat → Prop) (lo Q g n : Nat) (l : List UInt8) (ok : Bool) (xs : List Int) (w : World) (h : PkAt K lo Q w l ok) (hg : K g) (hn : xs.length = n) (hn9 : n ≤ 1000)
    (hc : ∀ i x, xs[i]? = some x → w.cell? ⟨g, i, none⟩ = some (.int .i64 x)) (hlen : l.length ≤ 1000000) :
    Calls Tryd.prog 24 #[.pointer (some ⟨Q, 0, none⟩), .slice (some ⟨g, 0, none⟩) n n] w fun e w' => GivesPut K lo Q w (l ++ packB xs) (ok && allF xs) e w' := by
  have HH : Hid (PkAt K lo Q w l ok) := h
  have HC : Hid (∀ i x, xs[i]? = some x → w.cell? ⟨g, i, none⟩ = some (.int .i64 x)) := hc
  have HN : Hid (xs.length = n) := hn
  clear h hc hn
  go_enter Tryd.func24, Tryd.ntmps24
  go_wp2_with fail
  go_loopw [9] (fun iv wr => PutR K lo Q w l ok xs n iv wr) (fun iv _ => n - (intOf iv).toNat)
  case atStart => exact ⟨0, Nat.zero_le _, rfl, by simpa [packB, allF] using HH.out, Below.refl _ _, fun _ _ => rfl, Nat.le_refl _⟩
  case round =>
    obtain ⟨k, hk, rfl, hp, hb, hkk, hs⟩ := hrel
    have HB : Hid (Below lo w wr) := hb
    have HK : Hid (∀ g, K g → wr.heap[g]? = w.heap[g]?) := hkk
    have HS : Hid (w.heap.size ≤ wr.heap.size) := hs
    have HP : Hid (PkAt K lo Q wr (l ++ packB (xs.take k)) (ok && allF (xs.take k))) := hp
    clear hp hb hkk hs
    by_cases hlt : (k : Int) < (n : Int)
    · have hkn : k < n := by omega
      obtain ⟨x, HXX⟩ : ∃ x, Hid (xs[k]? = some x) := ⟨_, List.getElem?_eq_getElem (by rw [HN.out]; exact hkn)⟩
      have q0 : wr.cell? ⟨g, k, none⟩ = some (.int .i64 x) := (cell_sameP (HK.out g hg) _).trans (HC.out k x HXX.out)
      go_wp2_with fail
      refine (impl_packNumX x _).mono ?_
      rintro e w1 ⟨v1, rfl, o1, b1⟩
      obtain ⟨L0, HL0⟩ : ∃ z, Hid (l ++ packB (xs.take k) = z) := ⟨_, rfl⟩
      obtain ⟨ok0, HOK⟩ : ∃ z, Hid ((ok && allF (xs.take k)) = z) := ⟨_, rfl⟩
      have hp9 := HP.out
      rw [HL0.out, HOK.out] at hp9
      obtain ⟨v, p1, p2, p3, p4, p5, p6⟩ := hp9
      have hs1 := b1.size
      have hQ := (Array.getElem?_eq_some_iff.1 p1).1
      have P1 : Hid (w1.heap[Q]? = some (.cells #[v, .bool ok0] 54 (0, 0))) := (b1.block Q hQ).trans p1
      obtain ⟨pl, HPL⟩ : ∃ z, Hid ((packX x).length = z) := ⟨_, rfl⟩
      obtain ⟨pa, pc, e9⟩ := o1.form HPL.out
      subst e9
      have hbnd : L0.length + (packX x).length ≤ 140737488355328 := by
        have h1 := packX_len x
        have h2 := packB_len (xs.take k)
        have h3 := HN.out
        rw [← HL0.out, List.length_append]
        rw [List.length_take] at h2
        omega
      have HST := fun b => PkAt.step (b := b) P1.out (p2.keep b1) p3 (fun g' hg' => ⟨(p4 g' hg').1, Nat.lt_of_lt_of_le (p4 g' hg').2 hs1⟩) p5 (Nat.le_trans p6 hs1) o1 (fun g' hg' => by have := (o1.lt g' hg').1; omega) hbnd
      have B1 : Hid (Below lo w w1) := HB.out.trans (b1.mono (Nat.le_trans p6 (Nat.le_refl _)))
      have K1 : Hid (∀ g', K g' → w1.heap[g']? = w.heap[g']?) := fun g' hg' => (b1.block g' (p4 g' hg').2).trans (HK.out g' hg')
      have S1 : Hid (w.heap.size ≤ w1.heap.size) := Nat.le_trans HS.out hs1
      have c0 : w1.cell? ⟨Q, 0, none⟩ = some v := by simp [World.cell?, P1.out]
      have c1 : w1.cell? ⟨Q, 1, none⟩ = some (.bool ok0) := by simp [World.cell?, P1.out]
      have f1 : w1.frozen? ⟨Q, 1, none⟩ = false := by simp [World.frozen?, P1.out]
      have HEND : Hid (∀ b w9, b = (ok0 && decide (Formed x)) → PkAt K lo Q w9 (L0 ++ packX x) b → Below lo w1 w9 → (∀ g', K g' → w9.heap[g']? = w1.heap[g']?) → w1.heap.size ≤ w9.heap.size → PutR K lo Q w l ok xs n (.int .i64 ((k : Int) + 1)) w9) := fun b w9 e1 e2 e3 e4 e5 =>
        ⟨k + 1, by omega, by simp, by rw [packB_next HXX.out, allF_next HXX.out, ← List.append_assoc, HL0.out, ← Bool.and_assoc, HOK.out, ← e1]; exact e2, B1.out.trans e3, fun g' hg' => (e4 g' hg').trans (K1.out g' hg'), Nat.le_trans S1.out e5⟩
      clear p1 p2 p3 p4 p5 p6 o1 b1 hs1 q0 hbnd
      have hdf : decide (0 < pl) = decide (Formed x) := by
        have h9 := packX_pos (x := x)
        rw [HPL.out] at h9
        simp [h9]
      cases ok0 with
      | true =>
        obtain ⟨v', w3, hrun, d0, f0, hpk, hbel, hK4, hsz, va, vq, vc, e9⟩ := HST (decide (0 < pl))
        subst e9
        have HR : Hid (PutR K lo Q w l ok xs n (.int .i64 ((k : Int) + 1)) (w3.setCell ⟨Q, 0, none⟩ (.slice va vq vc))) := HEND.out _ _ (by simp [hdf]) hpk hbel hK4 hsz
        clear HST HEND hpk hbel hK4 hsz hdf
        go_wp2_with (at_builtin; refine wpList_appendR rfl _ _ 22 rfl rfl rfl hrun ?_)
        go_roundw
        case rel => exact HR.out
        case measure => simp [intOf]; omega
      | false =>
        obtain ⟨v', w3, hrun, d0, f0, hpk, hbel, hK4, hsz, va, vq, vc, e9⟩ := HST false
        subst e9
        have HR : Hid (PutR K lo Q w l ok xs n (.int .i64 ((k : Int) + 1)) (w3.setCell ⟨Q, 0, none⟩ (.slice va vq vc))) := HEND.out false _ (by simp) hpk hbel hK4 hsz
        clear HST HEND hpk hbel hK4 hsz hdf
        go_wp2_with (at_builtin; refine wpList_appendR rfl _ _ 22 rfl rfl rfl hrun ?_)
        go_roundw
        case rel => exact HR.out
        case measure => simp [intOf]; omega
    · have hkn : k = n := by omega
      subst hkn
      have hall := HP.out
      rw [← HN.out, List.take_length] at hall
      have HA : Hid (PkAt K lo Q wr (l ++ packB xs) (ok && allF xs)) := hall
      clear hall
      go_wp2_with fail
      refine ⟨rfl, _, results_none rfl _ _ _, rfl, HA.out, HB.out, HK.out, HS.out⟩
end Go.Proofs.YthdioeeanodjiaaDoor

namespace Go.Proofs.YthdioeeanodjiaaDoor
open Go.ChangeShapes Go.WideShapes Go.ChangeAt Go.RowKit
set_option linter.unusedVariables false

structure PkSt (K : Nat → Prop) (lo Q : Nat) (w0 wr : World) (l : List UInt8) (ok : Bool) : Prop where
  at' : PkAt K lo Q wr l ok
  bel : Below lo w0 wr
  off : ∀ g, K g → wr.heap[g]? = w0.heap[g]?
  size : w0.heap.size ≤ wr.heap.size
/-- K, and what lies in new memory. -/
def KNew (K : Nat → Prop) (w w' : World) : Nat → Prop := fun g => K g ∨ (w.heap.size ≤ g ∧ g < w'.heap.size)
theorem PkSt.ready {K : Nat → Prop} {lo Q : Nat} {w0 wr w' : World} {l : List UInt8} {ok : Bool} (h : PkSt K lo Q w0 wr l ok) (hb : Below wr.heap.size wr w') : PkAt (KNew K wr w') lo Q w' l ok := h.at'.keep hb
theorem PkSt.lo {K : Nat → Prop} {lo Q : Nat} {w0 wr : World} {l : List UInt8} {ok : Bool} (h : PkSt K lo Q w0 wr l ok) : lo ≤ wr.heap.size := by
  obtain ⟨v, _, _, _, _, _, h6⟩ := h.at'
  exact h6
theorem PkSt.put {K : Nat → Prop} {lo Q : Nat} {w0 wr w' w2 : World} {l m : List UInt8} {ok ok' : Bool} {e : Ending} (h : PkSt K lo Q w0 wr l ok) (hb : Below wr.heap.size wr w') (hp : GivesPut (KNew K wr w') lo Q w' m ok' e w2) :
    e = .returned (.tuple #[]) ∧ PkSt K lo Q w0 w2 m ok' ∧ (∀ g, wr.heap.size ≤ g → g < w'.heap.size → w2.heap[g]? = w'.heap[g]?) := by
  obtain ⟨he, h1, h2, h3, h4⟩ := hp
  have hlo := h.lo
  have hK : ∀ g, K g → g < wr.heap.size := fun g hg => by
    obtain ⟨v, _, _, _, h9, _, _⟩ := h.at'
    exact (h9 g hg).2
  refine ⟨he, ⟨h1.less (fun g hg => .inl hg), h.bel.trans ((hb.mono hlo).trans h2), fun g hg => ?_, Nat.le_trans h.size (Nat.le_trans hb.size h4)⟩, fun g hg1 hg2 => h3 g (.inr ⟨hg1, hg2⟩)⟩
  rw [h3 g (.inl hg), hb.block g (hK g hg), h.off g hg]
theorem PkSt.grown {K : Nat → Prop} {lo Q : Nat} {w0 wr w' : World} {l : List UInt8} {ok : Bool} (h : PkSt K lo Q w0 wr l ok) (hb : Below wr.heap.size wr w') : PkSt K lo Q w0 w' l ok := by
  have hK : ∀ g, K g → g < wr.heap.size := fun g hg => by
    obtain ⟨v, _, _, _, h9, _, _⟩ := h.at'
    exact (h9 g hg).2
  exact ⟨(h.at'.keep hb).less (fun g hg => .inl hg), h.bel.trans (hb.mono h.lo), fun g hg => (hb.block g (hK g hg)).trans (h.off g hg), Nat.le_trans h.size hb.size⟩
theorem row_new (w : World) (xs : List Int) (c : Array Value) (T : TypeId) (hc : c = (xs.map (Value.int .i64)).toArray) : ∀ i x, xs[i]? = some x → (w.alloc (.cells c T)).cell? ⟨w.heap.size, i, none⟩ = some (.int .i64 x) := fun i x hx => by
  subst hc
  rw [World.cell?_alloc_new]
  simp [hx]

/-- So far: the numbers ys are put. -/
def BlkSt (K : Nat → Prop) (lo Q : Nat) (w0 wr : World) (l : List UInt8) (ok : Bool) (ys : List Int) : Prop := PkSt K lo Q w0 wr (l ++ packB ys) (ok && allF ys)
theorem BlkSt.put {K : Nat → Prop} {lo Q : Nat} {w0 wr w' w2 : World} {l : List UInt8} {ok : Bool} {ys xs : List Int} {e : Ending} (h : BlkSt K lo Q w0 wr l ok ys) (hb : Below wr.heap.size wr w') (hp : GivesPut (KNew K wr w') lo Q w' ((l ++ packB ys) ++ packB xs) ((ok && allF ys) && allF xs) e w2) :
    e = .returned (.tuple #[]) ∧ BlkSt K lo Q w0 w2 l ok (ys ++ xs) ∧ (∀ g, wr.heap.size ≤ g → g < w'.heap.size → w2.heap[g]? = w'.heap[g]?) := by
  obtain ⟨h1, h2, h3⟩ := PkSt.put h hb hp
  refine ⟨h1, ?_, h3⟩
  unfold BlkSt
  rw [packB_app, allF_app, ← List.append_assoc, ← Bool.and_assoc]
  exact h2

theorem BlkSt.call {K : Nat → Prop} {lo Q : Nat} {w0 wr : World} {l : List UInt8} {ok : Bool} {ys : List Int} (h : BlkSt K lo Q w0 wr l ok ys) (w' : World) (hb : Below wr.heap.size wr w') (g n : Nat) (xs : List Int) (hg1 : wr.heap.size ≤ g) (hg2 : g < w'.heap.size) (hn : xs.length = n) (hn9 : n ≤ 1000)
    (hc : ∀ i x, xs[i]? = some x → w'.cell? ⟨g, i, none⟩ = some (.int .i64 x)) (hl : l.length + 9 * ys.length ≤ 1000000) :
    Calls Tryd.prog 24 #[.pointer (some ⟨Q, 0, none⟩), .slice (some ⟨g, 0, none⟩) n n] w' fun e w2 => e = .returned (.tuple #[]) ∧ BlkSt K lo Q w0 w2 l ok (ys ++ xs) ∧ (∀ g, wr.heap.size ≤ g → g < w'.heap.size → w2.heap[g]? = w'.heap[g]?) :=
  (put_any (KNew K wr w') lo Q g n _ _ xs w' (PkSt.ready h hb) (.inr ⟨hg1, hg2⟩) hn hn9 hc (by rw [List.length_append]; have := packB_len ys; omega)).mono fun e w2 hp => BlkSt.put h hb hp

theorem row_at (w : World) (g : Nat) (xs : List Int) (c : Array Value) (T : TypeId) (hg : w.heap.size = g) (hc : c = (xs.map (Value.int .i64)).toArray) : ∀ i x, xs[i]? = some x → (w.alloc (.cells c T)).cell? ⟨g, i, none⟩ = some (.int .i64 x) := fun i x hx => by
  rw [← hg]
  exact row_new w xs c T hc i x hx
theorem phis_take_len {x : BlockD} (h : BlockLim x) (k : Nat) : (phisN (x.phis.take k)).length ≤ 816 := by
  have h1 := phisN_len (x.phis.take k) (fun p hp => h.2.2 p (List.mem_of_mem_take hp))
  have h2 := h.1
  rw [List.length_take] at h1
  omega
theorem ins_take_len {x : BlockD} (h : BlockLim x) (k : Nat) : (insN (x.list.take k)).length ≤ 120 := by
  have h2 := h.2.1
  rw [insN_len, List.length_take]
  omega
theorem arms_take_len {x : BlockD} {p : PhiD} {j : Nat} (h : BlockLim x) (hp : x.phis[j]? = some p) (k : Nat) : (armsN (p.arms.take k)).length ≤ 32 := by
  have h2 := h.2.2 p (List.mem_of_getElem? hp)
  rw [armsN_len, List.length_take]
  omega
theorem BlkSt.congr {K : Nat → Prop} {lo Q : Nat} {w0 wr : World} {l : List UInt8} {ok : Bool} {ys zs : List Int} (h : BlkSt K lo Q w0 wr l ok ys) (e : ys = zs) : BlkSt K lo Q w0 wr l ok zs := by rw [← e]; exact h
def PhiR (K : Nat → Prop) (lo Q : Nat) (w0 : World) (l : List UInt8) (ok : Bool) (x : BlockD) (pn : Nat) (iv : Value) (wr : World) : Prop :=
  ∃ k : Nat, k ≤ pn ∧ iv = .int .i64 k ∧ BlkSt K lo Q w0 wr l ok ([(pn : Int)] ++ phisN (x.phis.take k))
def ArmR (K : Nat → Prop) (lo Q : Nat) (w0 : World) (l : List UInt8) (ok : Bool) (zs : List Int) (ar : List ArmD) (an : Nat) (iv : Value) (wr : World) : Prop :=
  ∃ k : Nat, k ≤ an ∧ iv = .int .i64 k ∧ BlkSt K lo Q w0 wr l ok (zs ++ armsN (ar.take k))
def InsR (K : Nat → Prop) (lo Q : Nat) (w0 : World) (l : List UInt8) (ok : Bool) (zs : List Int) (li : List InsD) (ln : Nat) (iv : Value) (wr : World) : Prop :=
  ∃ k : Nat, k ≤ ln ∧ iv = .int .i64 k ∧ BlkSt K lo Q w0 wr l ok (zs ++ insN (li.take k))
set_option maxRecDepth 100000 in
set_option maxHeartbeats 4000000 in
theorem block_any (K : Nat → Prop) (lo Q : Nat) (l : List UInt8) (ok : Bool) (pv lv : Value) (x : BlockD) (wS w : World) (h : PkAt K lo Q w l ok) (hS : Below lo wS w) (hlo : wS.heap.size = lo) (hlim : BlockLim x) (hl : l.length ≤ 500000)
    (hp : ListAt 0 2 (PhiAt 0) wS pv x.phis) (hv : ListAt 0 5 InsAt wS lv x.list) :
    Calls Tryd.prog 25 #[.pointer (some ⟨Q, 0, none⟩), .agg #[pv, lv, .int .i64 x.term.k, .int .i64 x.term.a, .int .i64 x.term.t, .int .i64 x.term.e]] w fun e w' => GivesPut K lo Q w (l ++ packB (blockN x)) (ok && allF (blockN x)) e w' := by
  obtain ⟨pa, pcap, rfl, _, hpc⟩ := hp
  obtain ⟨la, lcap, rfl, _, hvc⟩ := hv
  obtain ⟨pn, HPN⟩ : ∃ n, Hid (x.phis.length = n) := ⟨_, rfl⟩
  obtain ⟨ln, HLN⟩ : ∃ n, Hid (x.list.length = n) := ⟨_, rfl⟩
  obtain ⟨tk, HTK⟩ : ∃ n, Hid (x.term.k = n) := ⟨_, rfl⟩
  obtain ⟨ta, HTA⟩ : ∃ n, Hid (x.term.a = n) := ⟨_, rfl⟩
  obtain ⟨tt, HTT⟩ : ∃ n, Hid (x.term.t = n) := ⟨_, rfl⟩
  obtain ⟨te, HTE⟩ : ∃ n, Hid (x.term.e = n) := ⟨_, rfl⟩
  rw [HPN.out] at hpc ⊢
  rw [HLN.out] at hvc ⊢
  rw [HTK.out, HTA.out, HTT.out, HTE.out]
  have HPC : Hid (0 < pn → ∃ b off, pa = some ⟨b, off, none⟩ ∧ 0 ≤ b ∧ ∀ i y, x.phis[i]? = some y → PhiAt 0 wS b (off + i * 2) y) := hpc
  have HVC : Hid (0 < ln → ∃ b off, la = some ⟨b, off, none⟩ ∧ 0 ≤ b ∧ ∀ i y, x.list[i]? = some y → InsAt wS b (off + i * 5) y) := hvc
  have HLIM : Hid (BlockLim x) := hlim
  have HH : Hid (PkAt K lo Q w l ok) := h
  have hpn24 : (pn : Int) ≤ 24 := by have := HLIM.out.1; have := HPN.out; omega
  have hln24 : (ln : Int) ≤ 24 := by have := HLIM.out.2.1; have := HLN.out; omega
  have HS : Hid (Below lo wS w) := hS
  have HLO : Hid (wS.heap.size = lo) := hlo
  obtain ⟨wA, hwA⟩ : ∃ wA, w.alloc (.cells #[.slice pa pn pcap, .slice la ln lcap, .int .i64 tk, .int .i64 ta, .int .i64 tt, .int .i64 te] 46) = wA := ⟨_, rfl⟩
  have bA : Below w.heap.size w wA := by rw [← hwA]; exact Bel.alloc _ _
  have hsA : wA.heap.size = w.heap.size + 1 := by rw [← hwA]; simp
  obtain ⟨X, HX⟩ : ∃ z, Hid (w.heap.size = z) := ⟨_, rfl⟩
  have XA : Hid (wA.heap[X]? = some (.cells #[.slice pa pn pcap, .slice la ln lcap, .int .i64 tk, .int .i64 ta, .int .i64 tt, .int .i64 te] 46 (0, 0))) := by
    show _ = _
    rw [← hwA, ← HX.out]
    exact World.alloc_heap_new w _
  have S0 : Hid (BlkSt (KNew K w wA) lo Q wA wA l ok []) := by
    refine ⟨?_, Below.refl _ _, fun _ _ => rfl, Nat.le_refl _⟩
    rw [packB_nil, allF_nil, List.append_nil, Bool.and_true]
    exact HH.out.keep bA
  have HKX : Hid (KNew K w wA X) := .inr ⟨by rw [HX.out]; exact Nat.le_refl _, by rw [hsA, HX.out]; omega⟩
  have a0 : wA.cell? ⟨w.heap.size, 0, none⟩ = some (.slice pa pn pcap) := by rw [HX.out]; simp [World.cell?, XA.out]
  clear h hS hlo hlim hpc hvc
  go_enter Tryd.func25, Tryd.ntmps25
  go_wp2_with fail
  have bS := Bel.alloc wA (.cells #[.int .i64 (pn : Int)] 3)
  rw [← hsA]
  refine (S0.out.call _ bS wA.heap.size 1 [(pn : Int)] (Nat.le_refl _) (by simp) rfl (by omega) (row_new wA _ _ _ rfl) (by simp; omega)).mono ?_
  rintro e w1 ⟨rfl, s1, _⟩
  have S1 : Hid (BlkSt (KNew K w wA) lo Q wA w1 l ok ([(pn : Int)] ++ phisN (x.phis.take 0))) := by
    show BlkSt _ _ _ _ _ _ _ _
    simpa [phisN] using s1
  have HXB : Hid (∀ wr ys, BlkSt (KNew K w wA) lo Q wA wr l ok ys → wr.heap[X]? = some (.cells #[.slice pa pn pcap, .slice la ln lcap, .int .i64 tk, .int .i64 ta, .int .i64 tt, .int .i64 te] 46 (0, 0))) := fun wr ys h => (h.off X HKX.out).trans XA.out
  have HSW : Hid (∀ wr ys, BlkSt (KNew K w wA) lo Q wA wr l ok ys → Below wS.heap.size wS wr) := fun wr ys h => by
    rw [HLO.out]
    have h6 : lo ≤ w.heap.size := by
      obtain ⟨v, _, _, _, _, _, h6⟩ := HH.out
      exact h6
    exact (HS.out.trans (bA.mono h6)).trans h.bel
  have a0 : w1.cell? ⟨X, 0, none⟩ = some (.slice pa pn pcap) := by simp [World.cell?, HXB.out _ _ S1.out]
  generalize wA.heap.size = sA
  rw [HX.out]
  clear s1 bS S0 hwA hsA
  go_wp2_with fail
  go_loopw [20] (fun iv wr => PhiR (KNew K w wA) lo Q wA l ok x pn iv wr) (fun iv _ => pn - (intOf iv).toNat)
  case atStart => exact ⟨0, Nat.zero_le _, rfl, S1.out⟩
  case round =>
    obtain ⟨k, hk, rfl, hst⟩ := hrel
    have ST : Hid (BlkSt (KNew K w wA) lo Q wA wr l ok ([(pn : Int)] ++ phisN (x.phis.take k))) := hst
    clear hst a0
    by_cases hlt : (k : Int) < (pn : Int)
    · have hkn : k < pn := by omega
      obtain ⟨y, HY⟩ : ∃ y, Hid (x.phis[k]? = some y) := ⟨_, List.getElem?_eq_getElem (by rw [HPN.out]; exact hkn)⟩
      obtain ⟨b, off, rfl, _, hd⟩ := HPC.out (by omega)
      obtain ⟨p0, av, p1, hav⟩ := hd k y HY.out
      obtain ⟨aa, acap, rfl, _, hac⟩ := hav
      obtain ⟨an, HAN⟩ : ∃ n, Hid (y.arms.length = n) := ⟨_, rfl⟩
      rw [HAN.out] at p1 hac
      have han16 : (an : Int) ≤ 16 := by have := HLIM.out.2.2 y (List.mem_of_getElem? HY.out); have := HAN.out; omega
      have HAC : Hid (0 < an → ∃ b off, aa = some ⟨b, off, none⟩ ∧ 0 ≤ b ∧ ∀ i z, y.arms[i]? = some z → ArmAt wS b (off + i * 2) z) := hac
      obtain ⟨yd, HYD⟩ : ∃ z, Hid (y.d = z) := ⟨_, rfl⟩
      rw [HYD.out] at p0
      have q0 := Bel.keeps (HSW.out _ _ ST.out) p0
      have q1 := Bel.keeps (HSW.out _ _ ST.out) p1
      clear p0 p1 hd hac
      go_wp2_with fail
      have bP := Bel.after (Bel.alloc wr (.cells #[.int .i64 yd, .slice aa an acap] 61)) (Bel.alloc _ (.cells #[.int .i64 yd, .int .i64 (an : Int)] 3))
      have hsP : (wr.alloc (.cells #[.int .i64 yd, .slice aa an acap] 61)).heap.size = wr.heap.size + 1 := by simp
      refine (ST.out.call _ bP (wr.heap.size + 1) 2 [yd, (an : Int)] (by omega) (by simp) rfl (by omega) (row_at _ _ _ _ _ hsP rfl) (by have := phis_take_len HLIM.out k; simp only [List.length_append, List.length_cons, List.length_nil]; omega)).mono ?_
      rintro e w2 ⟨rfl, s2, k2⟩
      obtain ⟨Z, HZ⟩ : ∃ Z, Hid (([(pn : Int)] ++ phisN (x.phis.take k)) ++ [yd, (an : Int)] = Z) := ⟨_, rfl⟩
      have HZL : Hid (Z.length ≤ 820) := by
        have := phis_take_len HLIM.out k
        show _ ≤ _
        rw [← HZ.out]
        simp only [List.length_append, List.length_cons, List.length_nil]
        omega
      rw [HZ.out] at s2
      have S2 : Hid (BlkSt (KNew K w wA) lo Q wA w2 l ok (Z ++ armsN (y.arms.take 0))) := by
        show BlkSt _ _ _ _ _ _ _ _
        simpa [armsN] using s2
      obtain ⟨PB, HPB⟩ : ∃ z, Hid (wr.heap.size = z) := ⟨_, rfl⟩
      have c1 : w2.cell? ⟨PB, 1, none⟩ = some (.slice aa an acap) := by
        have h9 := k2 wr.heap.size (Nat.le_refl _) (by simp; omega)
        rw [HPB.out] at h9
        rw [cell_sameP h9, ← HPB.out, Bel.keeps (Bel.alloc (wr.alloc (.cells #[.int .i64 yd, .slice aa an acap] 61)) _) (by simp [go_sem] : (wr.alloc (.cells #[.int .i64 yd, .slice aa an acap] 61)).cell? ⟨wr.heap.size, 1, none⟩ = some (.slice aa an acap))]
      rw [HPB.out]
      clear s2 k2 bP hsP q0 q1
      go_wp2_with fail
      clear c1
      go_loopw [35] (fun iv wr => ArmR (KNew K w wA) lo Q wA l ok Z y.arms an iv wr) (fun iv _ => an - (intOf iv).toNat)
      case atStart => exact ⟨0, Nat.zero_le _, rfl, S2.out⟩
      case round =>
        obtain ⟨wi, hwi⟩ : ∃ z, z = wr := ⟨_, rfl⟩
        subst hwi
        obtain ⟨j, hj, rfl, hst⟩ := hrel
        have SI : Hid (BlkSt (KNew K w wA) lo Q wA wi l ok (Z ++ armsN (y.arms.take j))) := hst
        clear hst
        by_cases hlt2 : (j : Int) < (an : Int)
        · have hjn : j < an := by omega
          obtain ⟨z, HZZ⟩ : ∃ z, Hid (y.arms[j]? = some z) := ⟨_, List.getElem?_eq_getElem (by rw [HAN.out]; exact hjn)⟩
          obtain ⟨b2, off2, rfl, _, hd2⟩ := HAC.out (by omega)
          obtain ⟨p0, p1⟩ := hd2 j z HZZ.out
          have q0 := Bel.keeps (HSW.out _ _ SI.out) p0
          have q1 := Bel.keeps (HSW.out _ _ SI.out) p1
          obtain ⟨zf, zv⟩ := z
          dsimp only at q0 q1
          clear p0 p1 hd2
          go_wp2_with fail
          have bP := Bel.after (Bel.alloc wi (.cells #[.int .i64 zf, .int .i64 zv] 63)) (Bel.alloc _ (.cells #[.int .i64 zf, .int .i64 zv] 3))
          have hsP : (wi.alloc (.cells #[.int .i64 zf, .int .i64 zv] 63)).heap.size = wi.heap.size + 1 := by simp
          refine (SI.out.call _ bP (wi.heap.size + 1) 2 [zf, zv] (by omega) (by simp) rfl (by omega) (row_at _ _ _ _ _ hsP rfl) (by have := arms_take_len HLIM.out HY.out j; have := HZL.out; rw [List.length_append]; omega)).mono ?_
          rintro e w3 ⟨rfl, s3, _⟩
          have S3 : Hid (BlkSt (KNew K w wA) lo Q wA w3 l ok (Z ++ armsN (y.arms.take (j + 1)))) := s3.congr (by rw [armsN_next HZZ.out, List.append_assoc])
          clear s3 bP hsP q0 q1
          go_wp2_with fail
          go_roundw
          case rel => exact ⟨j + 1, by omega, by go_num, S3.out⟩
          case measure => simp [intOf]; omega
        · have ejn : j = an := by omega
          subst ejn
          have S3 : Hid (BlkSt (KNew K w wA) lo Q wA wi l ok ([(pn : Int)] ++ phisN (x.phis.take (k + 1)))) := SI.out.congr (by
            rw [List.take_of_length_le (by rw [HAN.out]; exact Nat.le_refl _), ← HZ.out, phisN_next HY.out, ← HAN.out, ← HYD.out]
            simp [phiN])
          go_wp2_with fail
          go_roundw
          case rel => exact ⟨k + 1, by omega, by go_num, S3.out⟩
          case measure => simp [intOf]; omega
    · have ekn : k = pn := by omega
      subst ekn
      obtain ⟨Z, HZ⟩ : ∃ Z, Hid ([(k : Int)] ++ phisN x.phis = Z) := ⟨_, rfl⟩
      have HZL : Hid (Z.length ≤ 820) := by
        have := phis_take_len HLIM.out x.phis.length
        rw [List.take_length] at this
        show _ ≤ _
        rw [← HZ.out]
        simp only [List.length_append, List.length_cons, List.length_nil]
        omega
      have SZ : Hid (BlkSt (KNew K w wA) lo Q wA wr l ok Z) := ST.out.congr (by rw [List.take_of_length_le (by rw [HPN.out]; exact Nat.le_refl _), HZ.out])
      have b1 : wr.cell? ⟨X, 1, none⟩ = some (.slice la ln lcap) := by simp [World.cell?, HXB.out _ _ SZ.out]
      clear ST
      go_wp2_with fail
      have bS := Bel.alloc wr (.cells #[.int .i64 (ln : Int)] 3)
      refine (SZ.out.call _ bS wr.heap.size 1 [(ln : Int)] (Nat.le_refl _) (by simp) rfl (by omega) (row_new wr _ _ _ rfl) (by have := HZL.out; omega)).mono ?_
      rintro e w4 ⟨rfl, s4, _⟩
      have S4 : Hid (BlkSt (KNew K w wA) lo Q wA w4 l ok ((Z ++ [(ln : Int)]) ++ insN (x.list.take 0))) := by
        show BlkSt _ _ _ _ _ _ _ _
        simpa [insN] using s4
      obtain ⟨Y, HYY⟩ : ∃ Y, Hid (Z ++ [(ln : Int)] = Y) := ⟨_, rfl⟩
      have HYL : Hid (Y.length ≤ 821) := by
        have := HZL.out
        show _ ≤ _
        rw [← HYY.out]
        simp only [List.length_append, List.length_cons, List.length_nil]
        omega
      rw [HYY.out] at S4
      have b1 : w4.cell? ⟨X, 1, none⟩ = some (.slice la ln lcap) := by simp [World.cell?, HXB.out _ _ S4.out]
      clear s4 bS SZ
      go_wp2_with fail
      clear b1
      go_loopw [57] (fun iv wr => InsR (KNew K w wA) lo Q wA l ok Y x.list ln iv wr) (fun iv _ => ln - (intOf iv).toNat)
      case atStart => exact ⟨0, Nat.zero_le _, rfl, S4.out⟩
      case round =>
        obtain ⟨wi, hwi⟩ : ∃ z, z = wr := ⟨_, rfl⟩
        subst hwi
        obtain ⟨j, hj, rfl, hst⟩ := hrel
        have SI : Hid (BlkSt (KNew K w wA) lo Q wA wi l ok (Y ++ insN (x.list.take j))) := hst
        clear hst
        by_cases hlt2 : (j : Int) < (ln : Int)
        · have hjn : j < ln := by omega
          obtain ⟨z, HZZ⟩ : ∃ z, Hid (x.list[j]? = some z) := ⟨_, List.getElem?_eq_getElem (by rw [HLN.out]; exact hjn)⟩
          obtain ⟨b2, off2, rfl, _, hd2⟩ := HVC.out (by omega)
          obtain ⟨p0, p1, p2, p3, p4⟩ := hd2 j z HZZ.out
          have q0 := Bel.keeps (HSW.out _ _ SI.out) p0
          have q1 := Bel.keeps (HSW.out _ _ SI.out) p1
          have q2 := Bel.keeps (HSW.out _ _ SI.out) p2
          have q3 := Bel.keeps (HSW.out _ _ SI.out) p3
          have q4 := Bel.keeps (HSW.out _ _ SI.out) p4
          obtain ⟨zo, zd, za, zb, zn⟩ := z
          dsimp only at q0 q1 q2 q3 q4
          clear p0 p1 p2 p3 p4 hd2
          go_wp2_with fail
          have bP := Bel.after (Bel.alloc wi (.cells #[.int .i64 zo, .int .i64 zd, .int .i64 za, .int .i64 zb, .int .i64 zn] 50)) (Bel.alloc _ (.cells #[.int .i64 zo, .int .i64 zd, .int .i64 za, .int .i64 zb, .int .i64 zn] 3))
          have hsP : (wi.alloc (.cells #[.int .i64 zo, .int .i64 zd, .int .i64 za, .int .i64 zb, .int .i64 zn] 50)).heap.size = wi.heap.size + 1 := by simp
          refine (SI.out.call _ bP (wi.heap.size + 1) 5 [zo, zd, za, zb, zn] (by omega) (by simp) rfl (by omega) (row_at _ _ _ _ _ hsP rfl) (by have := ins_take_len HLIM.out j; have := HYL.out; rw [List.length_append]; omega)).mono ?_
          rintro e w3 ⟨rfl, s3, _⟩
          have S3 : Hid (BlkSt (KNew K w wA) lo Q wA w3 l ok (Y ++ insN (x.list.take (j + 1)))) := s3.congr (by rw [insN_next HZZ.out, List.append_assoc])
          clear s3 bP hsP q0 q1 q2 q3 q4
          go_wp2_with fail
          go_roundw
          case rel => exact ⟨j + 1, by omega, by go_num, S3.out⟩
          case measure => simp [intOf]; omega
        · have ejn : j = ln := by omega
          subst ejn
          have b2 : wi.cell? ⟨X, 2, none⟩ = some (.int .i64 tk) := by simp [World.cell?, HXB.out _ _ SI.out]
          have b3 : wi.cell? ⟨X, 3, none⟩ = some (.int .i64 ta) := by simp [World.cell?, HXB.out _ _ SI.out]
          have b4 : wi.cell? ⟨X, 4, none⟩ = some (.int .i64 tt) := by simp [World.cell?, HXB.out _ _ SI.out]
          have b5 : wi.cell? ⟨X, 5, none⟩ = some (.int .i64 te) := by simp [World.cell?, HXB.out _ _ SI.out]
          go_wp2_with fail
          have bP := Bel.after (Bel.alloc wi (.cells #[.int .i64 tk, .int .i64 ta, .int .i64 tt, .int .i64 te] 44)) (Bel.alloc _ (.cells #[.int .i64 tk, .int .i64 ta, .int .i64 tt, .int .i64 te] 3))
          have hsP : (wi.alloc (.cells #[.int .i64 tk, .int .i64 ta, .int .i64 tt, .int .i64 te] 44)).heap.size = wi.heap.size + 1 := by simp
          refine (SI.out.call _ bP (wi.heap.size + 1) 4 [tk, ta, tt, te] (by omega) (by simp) rfl (by omega) (row_at _ _ _ _ _ hsP rfl) (by have := ins_take_len HLIM.out j; have := HYL.out; rw [List.length_append]; omega)).mono ?_
          rintro e w3 ⟨rfl, s3, _⟩
          have S3 : Hid (BlkSt (KNew K w wA) lo Q wA w3 l ok (blockN x)) := s3.congr (by
            rw [List.take_of_length_le (by rw [HLN.out]; exact Nat.le_refl _), ← HYY.out, ← HZ.out, ← HPN.out, ← HLN.out, ← HTK.out, ← HTA.out, ← HTT.out, ← HTE.out]
            rfl)
          clear s3 bP hsP b2 b3 b4 b5
          go_wp2_with fail
          refine ⟨rfl, _, results_none rfl _ _ _, rfl, ?_⟩
          have hK : ∀ g, K g → g < w.heap.size := fun g hg => by
            obtain ⟨v, _, _, _, h9, _, _⟩ := HH.out
            exact (h9 g hg).2
          have h6 : lo ≤ w.heap.size := by
            obtain ⟨v, _, _, _, _, _, h6⟩ := HH.out
            exact h6
          exact ⟨S3.out.at'.less (fun g hg => .inl hg), (bA.mono h6).trans S3.out.bel, fun g hg => (S3.out.off g (.inl hg)).trans (bA.block g (hK g hg)), Nat.le_trans bA.size S3.out.size⟩
end Go.Proofs.YthdioeeanodjiaaDoor
