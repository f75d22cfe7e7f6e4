/- PackNum on both sides. -/
import Derived.Test.YtgjojajodkagbaaPkB
import Derived.Test.YtgjojajodkagbaaHmIx
namespace Go.Proofs.Ytgjojajodkagbaa
open Go.ChangeShapes Go.WideShapes Go.ChangeAt Go.RowKit
set_option linter.unusedVariables false

def PkR (w : World) (L : List UInt8) (ov nv : Value) (wr : World) : Prop := ∃ (k : Nat) (l : List UInt8), nv = .int .i64 (k : Int) ∧ OwnB wr w.heap.size ov l ∧ Below w.heap.size w wr ∧ l ++ lebs k = L ∧ k ≤ 9223372036854775807

theorem zig_neg {x : Int} (h : x < 0) (hf : Formed x) : ((zig x : Nat) : Int) = -2 * x - 1 := by
  unfold Formed at hf
  unfold zig
  rw [if_pos h]
  omega
theorem zig_pos {x : Int} (h : ¬ x < 0) : ((zig x : Nat) : Int) = 2 * x := by
  unfold zig
  rw [if_neg h]
  omega
theorem zig_le {x : Int} (hf : Formed x) : zig x ≤ 9223372036854775807 := by
  have h := zig_lt hf
  have e : (128 : Nat) ^ 9 = 9223372036854775808 := by decide
  rw [e] at h
  omega

set_option maxRecDepth 100000 in
set_option maxHeartbeats 2000000 in
theorem spec_packNum (x : Int) (w : World) (hx : -9223372036854775808 ≤ x ∧ x ≤ 9223372036854775807) :
    Calls Try.prog 10 #[.int .i64 x] w fun e w' => GivesB w (packX x) e w' := by
  by_cases hf : Formed x
  · obtain ⟨Z, HZ⟩ : ∃ z, Hid (zig x = z) := ⟨_, rfl⟩
    have HZL : Hid (Z ≤ 9223372036854775807) := by rw [← HZ.out]; exact zig_le hf
    have HP : Hid (packX x = lebs Z) := by rw [← HZ.out]; exact packX_yes hf
    have hin : (decide (-4611686018427387904 ≤ x) && decide (x ≤ 4611686018427387903)) = true := by simpa [Formed] using hf
    by_cases hn : x < 0
    · have hZ1 : wrap64 (wrap64 (-2 * x) - 1) = (Z : Int) := by
        have h1 := zig_neg hn hf
        rw [HZ.out] at h1
        unfold Formed at hf
        rw [h1]; unfold wrap64; omega
      clear hf
      go_enter Try.func10, Try.ntmps10
      go_wp2_with fail
      refine (l1In_any x (-4611686018427387904) 4611686018427387903 _).mono ?_
      rintro e w1 ⟨rfl, rfl⟩
      rw [hin]
      go_wp2_with fail
      try rw [hZ1]
      clear hZ1
      go_loopw [3, 4] (fun ov nv wr => PkR w (lebs Z) ov nv wr) (fun _ nv _ => (intOf nv).toNat)
      case atStart => exact ⟨Z, [], rfl, ownB_new _ _ (by simp), by repeat (first | exact Below.refl _ _ | apply Below.drew | refine Below.alloc ?_ (by simp <;> omega) _ | refine Below.setCell ?_ (by simp <;> omega) _), rfl, HZL.out⟩
      case round =>
        obtain ⟨k, l, rfl, hown, hb, hL, hk⟩ := hrel
        have HO : Hid (OwnB wr w.heap.size u3 l) := hown
        have HB : Hid (Below w.heap.size w wr) := hb
        have HL : Hid (l ++ lebs k = lebs Z) := hL
        have HK : Hid (k ≤ 9223372036854775807) := hk
        obtain ⟨m, HM⟩ : ∃ m, Hid (l.length = m) := ⟨_, rfl⟩
        have HM9 : Hid (m ≤ 9) := by
          have h1 := congrArg List.length HL.out
          rw [List.length_append] at h1
          have h2 := packX_len x
          rw [HP.out] at h2
          have h3 := HM.out
          show _ ≤ _
          omega
        obtain ⟨va, vc, rfl⟩ := hown.form HM.out
        clear hown hb hL hk
        by_cases h127 : (127 : Int) < (k : Int)
        · have h128 : (128 : Int) ≤ (k : Int) := by omega
          obtain ⟨d, HD⟩ : ∃ d : Nat, Hid (k % 128 = d) := ⟨_, rfl⟩
          obtain ⟨q, HQ⟩ : ∃ q : Nat, Hid (k / 128 = q) := ⟨_, rfl⟩
          have hd9 : d < 128 := by have := HD.out; omega
          have hd0 : (0 : Int) ≤ d := by omega
          have hk0 : (0 : Int) ≤ (k : Int) := by omega
          have hrm : Int.tmod (k : Int) 128 = (d : Int) := by rw [Int.tmod_eq_emod_of_nonneg hk0]; have := HD.out; omega
          have hqm : Int.tdiv (k : Int) 128 = (q : Int) := by rw [Int.tdiv_eq_ediv_of_nonneg hk0]; have := HQ.out; omega
          obtain ⟨v', w5, hrun, ho5, hb5, hs5, hk5⟩ := add_byte w.heap.size (.slice va m vc) l (UInt8.ofNat (d + 128)) ((d : Int) + 128) wr (by rw [byte_nat (by omega)]; simp) HO.out HB.out.size (by rw [HM.out]; have := HM9.out; omega)
          have HO5 : Hid (OwnB w5 w.heap.size v' (l ++ [UInt8.ofNat (d + 128)])) := ho5
          have HB5 : Hid (Below w.heap.size w w5) := HB.out.trans hb5
          have HL5 : Hid ((l ++ [UInt8.ofNat (d + 128)]) ++ lebs q = lebs Z) := by
            show _ = _
            rw [← HL.out, lebs_up (n := k) (by omega), HD.out, HQ.out, List.append_assoc]
            rfl
          have HQK : Hid (q < k) := by have := HQ.out; show _ < _; omega
          have hq2 : (q : Int) ≤ 9223372036854775807 := by have := HQ.out; have := HK.out; omega
          clear ho5 hb5 hs5 hk5
          go_wp2_with (at_builtin; refine wpList_appendR rfl _ _ 22 rfl rfl rfl hrun ?_)
          go_roundw
          case rel =>
            have HR : Hid (PkR w (lebs Z) v' (.int .i64 (q : Int)) w5) := ⟨q, _, rfl, HO5.out, HB5.out, HL5.out, by have := HQK.out; have := HK.out; omega⟩
            first
              | exact HR.out
              | ((repeat apply Exists.intro); exact ⟨HR.out, rfl⟩)
          case measure => simp [intOf]; have := HQK.out; omega
        · have h128 : ¬ (128 : Int) ≤ (k : Int) := by omega
          have hk7 : (k : Int) ≤ 127 := by omega
          have hk0 : (0 : Int) ≤ (k : Int) := by omega
          obtain ⟨v', w5, hrun, ho5, hb5, hs5, hk5⟩ := add_byte w.heap.size (.slice va m vc) l (UInt8.ofNat k) (k : Int) wr (by rw [byte_nat (by omega)]) HO.out HB.out.size (by rw [HM.out]; have := HM9.out; omega)
          have HO5 : Hid (OwnB w5 w.heap.size v' (l ++ [UInt8.ofNat k])) := ho5
          have HB5 : Hid (Below w.heap.size w w5) := HB.out.trans hb5
          have HL5 : Hid (l ++ [UInt8.ofNat k] = packX x) := by
            show _ = _
            rw [HP.out, ← HL.out, lebs_low (n := k) (by omega)]
          clear ho5 hb5 hs5 hk5
          go_wp2_with (at_builtin; refine wpList_appendR rfl _ _ 22 rfl rfl rfl hrun ?_)
          go_ret
          exact ⟨_, rfl, by rw [← HL5.out]; exact HO5.out, HB5.out⟩
    · have hZ1 : wrap64 (2 * x) = (Z : Int) := by
        have h1 := zig_pos hn
        rw [HZ.out] at h1
        unfold Formed at hf
        rw [h1]; unfold wrap64; omega
      clear hf
      go_enter Try.func10, Try.ntmps10
      go_wp2_with fail
      refine (l1In_any x (-4611686018427387904) 4611686018427387903 _).mono ?_
      rintro e w1 ⟨rfl, rfl⟩
      rw [hin]
      go_wp2_with fail
      try rw [hZ1]
      clear hZ1
      go_loopw [3, 4] (fun ov nv wr => PkR w (lebs Z) ov nv wr) (fun _ nv _ => (intOf nv).toNat)
      case atStart => exact ⟨Z, [], rfl, ownB_new _ _ (by simp), by repeat (first | exact Below.refl _ _ | apply Below.drew | refine Below.alloc ?_ (by simp <;> omega) _ | refine Below.setCell ?_ (by simp <;> omega) _), rfl, HZL.out⟩
      case round =>
        obtain ⟨k, l, rfl, hown, hb, hL, hk⟩ := hrel
        have HO : Hid (OwnB wr w.heap.size u3 l) := hown
        have HB : Hid (Below w.heap.size w wr) := hb
        have HL : Hid (l ++ lebs k = lebs Z) := hL
        have HK : Hid (k ≤ 9223372036854775807) := hk
        obtain ⟨m, HM⟩ : ∃ m, Hid (l.length = m) := ⟨_, rfl⟩
        have HM9 : Hid (m ≤ 9) := by
          have h1 := congrArg List.length HL.out
          rw [List.length_append] at h1
          have h2 := packX_len x
          rw [HP.out] at h2
          have h3 := HM.out
          show _ ≤ _
          omega
        obtain ⟨va, vc, rfl⟩ := hown.form HM.out
        clear hown hb hL hk
        by_cases h127 : (127 : Int) < (k : Int)
        · have h128 : (128 : Int) ≤ (k : Int) := by omega
          obtain ⟨d, HD⟩ : ∃ d : Nat, Hid (k % 128 = d) := ⟨_, rfl⟩
          obtain ⟨q, HQ⟩ : ∃ q : Nat, Hid (k / 128 = q) := ⟨_, rfl⟩
          have hd9 : d < 128 := by have := HD.out; omega
          have hd0 : (0 : Int) ≤ d := by omega
          have hk0 : (0 : Int) ≤ (k : Int) := by omega
          have hrm : Int.tmod (k : Int) 128 = (d : Int) := by rw [Int.tmod_eq_emod_of_nonneg hk0]; have := HD.out; omega
          have hqm : Int.tdiv (k : Int) 128 = (q : Int) := by rw [Int.tdiv_eq_ediv_of_nonneg hk0]; have := HQ.out; omega
          obtain ⟨v', w5, hrun, ho5, hb5, hs5, hk5⟩ := add_byte w.heap.size (.slice va m vc) l (UInt8.ofNat (d + 128)) ((d : Int) + 128) wr (by rw [byte_nat (by omega)]; simp) HO.out HB.out.size (by rw [HM.out]; have := HM9.out; omega)
          have HO5 : Hid (OwnB w5 w.heap.size v' (l ++ [UInt8.ofNat (d + 128)])) := ho5
          have HB5 : Hid (Below w.heap.size w w5) := HB.out.trans hb5
          have HL5 : Hid ((l ++ [UInt8.ofNat (d + 128)]) ++ lebs q = lebs Z) := by
            show _ = _
            rw [← HL.out, lebs_up (n := k) (by omega), HD.out, HQ.out, List.append_assoc]
            rfl
          have HQK : Hid (q < k) := by have := HQ.out; show _ < _; omega
          have hq2 : (q : Int) ≤ 9223372036854775807 := by have := HQ.out; have := HK.out; omega
          clear ho5 hb5 hs5 hk5
          go_wp2_with (at_builtin; refine wpList_appendR rfl _ _ 22 rfl rfl rfl hrun ?_)
          go_roundw
          case rel =>
            have HR : Hid (PkR w (lebs Z) v' (.int .i64 (q : Int)) w5) := ⟨q, _, rfl, HO5.out, HB5.out, HL5.out, by have := HQK.out; have := HK.out; omega⟩
            first
              | exact HR.out
              | ((repeat apply Exists.intro); exact ⟨HR.out, rfl⟩)
          case measure => simp [intOf]; have := HQK.out; omega
        · have h128 : ¬ (128 : Int) ≤ (k : Int) := by omega
          have hk7 : (k : Int) ≤ 127 := by omega
          have hk0 : (0 : Int) ≤ (k : Int) := by omega
          obtain ⟨v', w5, hrun, ho5, hb5, hs5, hk5⟩ := add_byte w.heap.size (.slice va m vc) l (UInt8.ofNat k) (k : Int) wr (by rw [byte_nat (by omega)]) HO.out HB.out.size (by rw [HM.out]; have := HM9.out; omega)
          have HO5 : Hid (OwnB w5 w.heap.size v' (l ++ [UInt8.ofNat k])) := ho5
          have HB5 : Hid (Below w.heap.size w w5) := HB.out.trans hb5
          have HL5 : Hid (l ++ [UInt8.ofNat k] = packX x) := by
            show _ = _
            rw [HP.out, ← HL.out, lebs_low (n := k) (by omega)]
          clear ho5 hb5 hs5 hk5
          go_wp2_with (at_builtin; refine wpList_appendR rfl _ _ 22 rfl rfl rfl hrun ?_)
          go_ret
          exact ⟨_, rfl, by rw [← HL5.out]; exact HO5.out, HB5.out⟩
  · have hin : (decide (-4611686018427387904 ≤ x) && decide (x ≤ 4611686018427387903)) = false := by
      unfold Formed at hf
      rw [Bool.and_eq_false_iff]
      simp
      omega
    go_enter Try.func10, Try.ntmps10
    go_wp2_with fail
    refine (l1In_any x (-4611686018427387904) 4611686018427387903 _).mono ?_
    rintro e w1 ⟨rfl, rfl⟩
    rw [hin]
    go_wp2_with fail
    go_ret
    exact ⟨_, rfl, by rw [packX_no hf]; exact ownB_new _ _ (Nat.le_refl _), by repeat (first | exact Below.refl _ _ | apply Below.drew | refine Below.alloc ?_ (by simp <;> omega) _ | refine Below.setCell ?_ (by simp <;> omega) _)⟩
set_option maxRecDepth 100000 in
set_option maxHeartbeats 2000000 in
theorem impl_packNum (x : Int) (w : World) (hx : -9223372036854775808 ≤ x ∧ x ≤ 9223372036854775807) :
    Calls Try.prog 9 #[.int .i64 x] w fun e w' => GivesB w (packX x) e w' := by
  by_cases hf : Formed x
  · obtain ⟨Z, HZ⟩ : ∃ z, Hid (zig x = z) := ⟨_, rfl⟩
    have HZL : Hid (Z ≤ 9223372036854775807) := by rw [← HZ.out]; exact zig_le hf
    have HP : Hid (packX x = lebs Z) := by rw [← HZ.out]; exact packX_yes hf
    have hin1 : ¬ x < -4611686018427387904 := by unfold Formed at hf; omega
    have hin2 : ¬ 4611686018427387904 ≤ x := by unfold Formed at hf; omega
    by_cases hn : x < 0
    · have hZ1 : bits .xor .i64 (-1) (2 * x) = (Z : Int) := by
        have h1 := zig_neg hn hf
        rw [HZ.out] at h1
        unfold Formed at hf
        rw [not_i64 _ (by omega)]; omega
      clear hf
      go_enter Try.func9, Try.ntmps9
      go_wp2_with fail
      go_loopw [3, 4] (fun nv ov wr => PkR w (lebs Z) ov nv wr) (fun nv _ _ => (intOf nv).toNat)
      case atStart => exact ⟨Z, [], by first | rfl | rw [hZ1], ownB_new _ _ (by simp), by repeat (first | exact Below.refl _ _ | apply Below.drew | refine Below.alloc ?_ (by simp <;> omega) _ | refine Below.setCell ?_ (by simp <;> omega) _), rfl, HZL.out⟩
      case round =>
        obtain ⟨k, l, rfl, hown, hb, hL, hk⟩ := hrel
        have HO : Hid (OwnB wr w.heap.size u4 l) := hown
        have HB : Hid (Below w.heap.size w wr) := hb
        have HL : Hid (l ++ lebs k = lebs Z) := hL
        have HK : Hid (k ≤ 9223372036854775807) := hk
        obtain ⟨m, HM⟩ : ∃ m, Hid (l.length = m) := ⟨_, rfl⟩
        have HM9 : Hid (m ≤ 9) := by
          have h1 := congrArg List.length HL.out
          rw [List.length_append] at h1
          have h2 := packX_len x
          rw [HP.out] at h2
          have h3 := HM.out
          show _ ≤ _
          omega
        obtain ⟨va, vc, rfl⟩ := hown.form HM.out
        clear hown hb hL hk
        by_cases h127 : (127 : Int) < (k : Int)
        · have h128 : (128 : Int) ≤ (k : Int) := by omega
          obtain ⟨d, HD⟩ : ∃ d : Nat, Hid (k % 128 = d) := ⟨_, rfl⟩
          obtain ⟨q, HQ⟩ : ∃ q : Nat, Hid (k / 128 = q) := ⟨_, rfl⟩
          have hd9 : d < 128 := by have := HD.out; omega
          have hd0 : (0 : Int) ≤ d := by omega
          have hk0 : (0 : Int) ≤ (k : Int) := by omega
          have hrm : Int.tmod (k : Int) 128 = (d : Int) := by rw [Int.tmod_eq_emod_of_nonneg hk0]; have := HD.out; omega
          have hqm : Int.tdiv (k : Int) 128 = (q : Int) := by rw [Int.tdiv_eq_ediv_of_nonneg hk0]; have := HQ.out; omega
          obtain ⟨v', w5, hrun, ho5, hb5, hs5, hk5⟩ := add_byte w.heap.size (.slice va m vc) l (UInt8.ofNat (d + 128)) ((d : Int) + 128) wr (by rw [byte_nat (by omega)]; simp) HO.out HB.out.size (by rw [HM.out]; have := HM9.out; omega)
          have HO5 : Hid (OwnB w5 w.heap.size v' (l ++ [UInt8.ofNat (d + 128)])) := ho5
          have HB5 : Hid (Below w.heap.size w w5) := HB.out.trans hb5
          have HL5 : Hid ((l ++ [UInt8.ofNat (d + 128)]) ++ lebs q = lebs Z) := by
            show _ = _
            rw [← HL.out, lebs_up (n := k) (by omega), HD.out, HQ.out, List.append_assoc]
            rfl
          have HQK : Hid (q < k) := by have := HQ.out; show _ < _; omega
          have hq2 : (q : Int) ≤ 9223372036854775807 := by have := HQ.out; have := HK.out; omega
          clear ho5 hb5 hs5 hk5
          go_wp2_with (at_builtin; refine wpList_appendR rfl _ _ 22 rfl rfl rfl hrun ?_)
          go_roundw
          case rel => exact ⟨q, _, rfl, HO5.out, HB5.out, HL5.out, by have := HQK.out; have := HK.out; omega⟩
          case measure => simp [intOf]; have := HQK.out; omega
        · have h128 : ¬ (128 : Int) ≤ (k : Int) := by omega
          have hk7 : (k : Int) ≤ 127 := by omega
          have hk0 : (0 : Int) ≤ (k : Int) := by omega
          obtain ⟨v', w5, hrun, ho5, hb5, hs5, hk5⟩ := add_byte w.heap.size (.slice va m vc) l (UInt8.ofNat k) (k : Int) wr (by rw [byte_nat (by omega)]) HO.out HB.out.size (by rw [HM.out]; have := HM9.out; omega)
          have HO5 : Hid (OwnB w5 w.heap.size v' (l ++ [UInt8.ofNat k])) := ho5
          have HB5 : Hid (Below w.heap.size w w5) := HB.out.trans hb5
          have HL5 : Hid (l ++ [UInt8.ofNat k] = packX x) := by
            show _ = _
            rw [HP.out, ← HL.out, lebs_low (n := k) (by omega)]
          clear ho5 hb5 hs5 hk5
          go_wp2_with (at_builtin; refine wpList_appendR rfl _ _ 22 rfl rfl rfl hrun ?_)
          go_ret
          exact ⟨_, rfl, by rw [← HL5.out]; exact HO5.out, HB5.out⟩
    · have hZ1 : 2 * x = (Z : Int) := by
        have h1 := zig_pos hn
        rw [HZ.out] at h1
        omega
      clear hf
      go_enter Try.func9, Try.ntmps9
      go_wp2_with fail
      go_loopw [3, 4] (fun nv ov wr => PkR w (lebs Z) ov nv wr) (fun nv _ _ => (intOf nv).toNat)
      case atStart => exact ⟨Z, [], by first | rfl | rw [hZ1], ownB_new _ _ (by simp), by repeat (first | exact Below.refl _ _ | apply Below.drew | refine Below.alloc ?_ (by simp <;> omega) _ | refine Below.setCell ?_ (by simp <;> omega) _), rfl, HZL.out⟩
      case round =>
        obtain ⟨k, l, rfl, hown, hb, hL, hk⟩ := hrel
        have HO : Hid (OwnB wr w.heap.size u4 l) := hown
        have HB : Hid (Below w.heap.size w wr) := hb
        have HL : Hid (l ++ lebs k = lebs Z) := hL
        have HK : Hid (k ≤ 9223372036854775807) := hk
        obtain ⟨m, HM⟩ : ∃ m, Hid (l.length = m) := ⟨_, rfl⟩
        have HM9 : Hid (m ≤ 9) := by
          have h1 := congrArg List.length HL.out
          rw [List.length_append] at h1
          have h2 := packX_len x
          rw [HP.out] at h2
          have h3 := HM.out
          show _ ≤ _
          omega
        obtain ⟨va, vc, rfl⟩ := hown.form HM.out
        clear hown hb hL hk
        by_cases h127 : (127 : Int) < (k : Int)
        · have h128 : (128 : Int) ≤ (k : Int) := by omega
          obtain ⟨d, HD⟩ : ∃ d : Nat, Hid (k % 128 = d) := ⟨_, rfl⟩
          obtain ⟨q, HQ⟩ : ∃ q : Nat, Hid (k / 128 = q) := ⟨_, rfl⟩
          have hd9 : d < 128 := by have := HD.out; omega
          have hd0 : (0 : Int) ≤ d := by omega
          have hk0 : (0 : Int) ≤ (k : Int) := by omega
          have hrm : Int.tmod (k : Int) 128 = (d : Int) := by rw [Int.tmod_eq_emod_of_nonneg hk0]; have := HD.out; omega
          have hqm : Int.tdiv (k : Int) 128 = (q : Int) := by rw [Int.tdiv_eq_ediv_of_nonneg hk0]; have := HQ.out; omega
          obtain ⟨v', w5, hrun, ho5, hb5, hs5, hk5⟩ := add_byte w.heap.size (.slice va m vc) l (UInt8.ofNat (d + 128)) ((d : Int) + 128) wr (by rw [byte_nat (by omega)]; simp) HO.out HB.out.size (by rw [HM.out]; have := HM9.out; omega)
          have HO5 : Hid (OwnB w5 w.heap.size v' (l ++ [UInt8.ofNat (d + 128)])) := ho5
          have HB5 : Hid (Below w.heap.size w w5) := HB.out.trans hb5
          have HL5 : Hid ((l ++ [UInt8.ofNat (d + 128)]) ++ lebs q = lebs Z) := by
            show _ = _
            rw [← HL.out, lebs_up (n := k) (by omega), HD.out, HQ.out, List.append_assoc]
            rfl
          have HQK : Hid (q < k) := by have := HQ.out; show _ < _; omega
          have hq2 : (q : Int) ≤ 9223372036854775807 := by have := HQ.out; have := HK.out; omega
          clear ho5 hb5 hs5 hk5
          go_wp2_with (at_builtin; refine wpList_appendR rfl _ _ 22 rfl rfl rfl hrun ?_)
          go_roundw
          case rel => exact ⟨q, _, rfl, HO5.out, HB5.out, HL5.out, by have := HQK.out; have := HK.out; omega⟩
          case measure => simp [intOf]; have := HQK.out; omega
        · have h128 : ¬ (128 : Int) ≤ (k : Int) := by omega
          have hk7 : (k : Int) ≤ 127 := by omega
          have hk0 : (0 : Int) ≤ (k : Int) := by omega
          obtain ⟨v', w5, hrun, ho5, hb5, hs5, hk5⟩ := add_byte w.heap.size (.slice va m vc) l (UInt8.ofNat k) (k : Int) wr (by rw [byte_nat (by omega)]) HO.out HB.out.size (by rw [HM.out]; have := HM9.out; omega)
          have HO5 : Hid (OwnB w5 w.heap.size v' (l ++ [UInt8.ofNat k])) := ho5
          have HB5 : Hid (Below w.heap.size w w5) := HB.out.trans hb5
          have HL5 : Hid (l ++ [UInt8.ofNat k] = packX x) := by
            show _ = _
            rw [HP.out, ← HL.out, lebs_low (n := k) (by omega)]
          clear ho5 hb5 hs5 hk5
          go_wp2_with (at_builtin; refine wpList_appendR rfl _ _ 22 rfl rfl rfl hrun ?_)
          go_ret
          exact ⟨_, rfl, by rw [← HL5.out]; exact HO5.out, HB5.out⟩
  · by_cases h1 : x < -4611686018427387904
    · go_enter Try.func9, Try.ntmps9
      go_wp2_with fail
      go_ret
      exact ⟨_, rfl, by rw [packX_no hf]; exact ownB_new _ _ (Nat.le_refl _), by repeat (first | exact Below.refl _ _ | apply Below.drew | refine Below.alloc ?_ (by simp <;> omega) _ | refine Below.setCell ?_ (by simp <;> omega) _)⟩
    · have h2 : 4611686018427387904 ≤ x := by unfold Formed at hf; omega
      go_enter Try.func9, Try.ntmps9
      go_wp2_with fail
      go_ret
      exact ⟨_, rfl, by rw [packX_no hf]; exact ownB_new _ _ (Nat.le_refl _), by repeat (first | exact Below.refl _ _ | apply Below.drew | refine Below.alloc ?_ (by simp <;> omega) _ | refine Below.setCell ?_ (by simp <;> omega) _)⟩
end Go.Proofs.Ytgjojajodkagbaa
