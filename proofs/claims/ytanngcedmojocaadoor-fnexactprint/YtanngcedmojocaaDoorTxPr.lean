/- Code as text: Print of both sides. -/
import Derived.Test.YtanngcedmojocaaDoorTxIm3
import Derived.Test.YtanngcedmojocaaDoorTxSp
import Derived.Test.YtanngcedmojocaaDoorTxOpen
import Derived.Test.YtanngcedmojocaaDoorTxBld
namespace Go.Proofs.YtanngcedmojocaaDoor
open Go.ChangeShapes Go.WideShapes Go.ChangeAt Go.RowKit
set_option linter.unusedVariables false

theorem joinX_len : ∀ (l : List InsD), StepsIn l → (joinX l).length ≤ 98 * l.length
  | [], _ => by simp [joinX]
  | x :: l, h => by
    have h1 := joinX_len l (fun z hz => h z (List.mem_cons_of_mem _ hz))
    have h2 := h x List.mem_cons_self
    have h3 := line_len h2.1 h2.2 (fieldsX x).length
    rw [List.take_of_length_le (Nat.le_refl _)] at h3
    have h4 : (lineX x).length ≤ 97 := h3
    rw [joinX_cons, List.length_append, List.length_cons, List.length_cons]
    omega
theorem steps_take {l : List InsD} (h : StepsIn l) (k : Nat) : StepsIn (l.take k) := fun x hx => h x (List.mem_of_mem_take hx)
theorem join_next {l : List InsD} {k : Nat} {x : InsD} (hx : l[k]? = some x) : joinX (l.take (k + 1)) = joinX (l.take k) ++ (lineX x ++ [10]) := by
  rw [List.take_add_one, hx]
  exact joinX_snoc x _
theorem meas_next {k n : Nat} (h : k + 1 ≤ n) : n - (intOf (.int .i64 ((k : Int) + 1))).toNat < n - (intOf (.int .i64 (k : Int))).toNat := by simp [intOf]; omega
theorem steps_later {w w' : World} {v : Value} {l : List InsD} (h : StepsAt w v l) (hb : Below w.heap.size w w') : StepsAt w' v l := places_keep h (Keeps.of_below hb 0)
theorem StepsAt.cells {w : World} {a : Option Addr} {len cap : Nat} {l : List InsD} (h : StepsAt w (.slice a len cap) l) {k : Nat} {x : InsD} (hx : l[k]? = some x) : l.length = len ∧ ∃ b off, a = some ⟨b, off, none⟩ ∧ InsAt w b (off + k * 5) x := by
  obtain ⟨a', cap', e, _, hc⟩ := h
  simp at e
  obtain ⟨rfl, e2, rfl⟩ := e
  refine ⟨e2.symm, ?_⟩
  have hk := (List.getElem?_eq_some_iff.1 hx).1
  obtain ⟨b, off, rfl, _, hd⟩ := hc (by omega)
  exact ⟨b, off, rfl, hd k x hx⟩

set_option maxRecDepth 100000 in
set_option maxHeartbeats 4000000 in
theorem spec_print (a : Option Addr) (len cap : Nat) (l : List InsD) (w : World) (hl : StepsAt w (.slice a len cap) l) (ho : OpsIn l) (hn : NumsIn l) :
    Calls Tryd.prog 14 #[.slice a len cap] w fun e w' => GivesTxt w (printL l) e w' := by
  have HL : Hid (StepsAt w (.slice a len cap) l) := hl
  have HO : Hid (OpsIn l) := ho
  have HN : Hid (NumsIn l) := hn
  obtain ⟨r, HR⟩ : ∃ r, Hid (machineOkB l = r) := ⟨_, rfl⟩
  have HLN : Hid (l.length = len) := by obtain ⟨_, _, e, _⟩ := hl; simp at e; exact e.2.1.symm
  obtain ⟨T, HTX⟩ : ∃ T, Hid (printL l = T) := ⟨_, rfl⟩
  rw [HTX.out]
  clear hl ho hn
  cases r with
  | false =>
    obtain rfl : [] = T := by rw [← HTX.out, printL_no HR.out]
    go_enter Tryd.func14, Tryd.ntmps14
    go_wp2_with fail
    go_loopw [3, 4] (fun ov iv wr => ov = .string (bs []) ∧ iv = .int .i64 0 ∧ wr = w) (fun _ _ _ => 0)
    case atStart => exact ⟨rfl, rfl, rfl⟩
    case round =>
      obtain ⟨rfl, rfl, hwr⟩ := hrel
      subst hwr
      by_cases h0 : len = 0
      · subst h0
        go_wp2_with fail
        go_ret
        exact ⟨rfl, Below.refl _ _⟩
      · have hlt : (0 : Int) < (len : Int) := by omega
        go_wp2_with fail
        refine (spec_machineOk _ l _ HL.out HO.out).mono ?_
        rintro e w1 ⟨rfl, b1⟩
        rw [HR.out]
        go_wp2
        go_ret
        exact ⟨rfl, b1⟩
  | true =>
    have HS : Hid (StepsIn l) := machine_steps HR.out HN.out
    obtain ⟨_, hl900, _⟩ := machineOkB_parts HR.out
    have HL9 : Hid (len ≤ 900) := by show _ ≤ _; rw [← HLN.out]; exact hl900
    have HTJ : Hid (joinX l = T) := by show _ = _; rw [← HTX.out, printL_yes HR.out]
    clear hl900 HTX
    go_enter Tryd.func14, Tryd.ntmps14
    go_wp2_with fail
    go_loopw [3, 4] (fun ov iv wr => ∃ k : Nat, k ≤ len ∧ ov = .string (bs (joinX (l.take k))) ∧ iv = .int .i64 k ∧ Below w.heap.size w wr) (fun _ iv _ => len - (intOf iv).toNat)
    case atStart => exact ⟨0, Nat.zero_le _, rfl, rfl, Below.refl _ _⟩
    case round =>
      obtain ⟨k, hk, rfl, rfl, hbr⟩ := hrel
      have HBR : Hid (Below w.heap.size w wr) := hbr
      clear hbr
      by_cases hlt : (k : Int) < (len : Int)
      · obtain ⟨x, HX⟩ : ∃ x, Hid (l[k]? = some x) := ⟨l[k]'(by have := HLN.out; omega), List.getElem?_eq_getElem _⟩
        obtain ⟨_, b, off, hab, hc⟩ := (steps_later HL.out HBR.out).cells HX.out
        subst hab
        obtain ⟨op, d, a', b', n⟩ := x
        have hx := HS.out _ (List.mem_of_getElem? HX.out)
        have HX1 : Hid (stepOkB ⟨op, d, a', b', n⟩ 900 = true) := hx.1
        have HX2 : Hid (InR ⟨op, d, a', b', n⟩) := hx.2
        have HX3 : Hid (-9223372036854775808 ≤ op ∧ op ≤ 9223372036854775807) := HO.out _ (List.mem_of_getElem? HX.out)
        obtain ⟨t0, HT0⟩ : ∃ t, Hid (joinX (l.take k) = t) := ⟨_, rfl⟩
        have ht0 : (bs t0).size ≤ 88200 := by
          rw [bs_size, ← HT0.out]
          have h9 := joinX_len _ (steps_take HS.out k)
          have h8 : (l.take k).length ≤ 900 := by rw [List.length_take]; have := HLN.out; have := HL9.out; omega
          omega
        rw [HT0.out]
        clear hc hx
        go_wp2_with fail
        refine (spec_machineOk _ l _ (steps_later HL.out HBR.out) HO.out).mono ?_
        rintro e w1 ⟨rfl, b1⟩
        rw [HR.out]
        have HB1 : Hid (Below w.heap.size w w1) := Bel.after HBR.out b1
        obtain ⟨_, b9, off9, hab9, hc⟩ := (steps_later HL.out HB1.out).cells HX.out
        simp only [Option.some.injEq, Addr.mk.injEq, and_true] at hab9
        obtain ⟨rfl, rfl⟩ := hab9
        obtain ⟨c0, c1, c2, c3, c4⟩ := hc
        dsimp only at c0 c1 c2 c3 c4
        clear b1
        go_wp2_with fail
        clear c0 c1 c2 c3 c4
        refine (spec_stepText op d a' b' n _ HX3.out HX2.out).mono ?_
        rw [textX_line HX1.out]
        obtain ⟨t1, HT1⟩ : ∃ t, Hid (lineX ⟨op, d, a', b', n⟩ = t) := ⟨_, rfl⟩
        have ht1 : (bs t1).size ≤ 97 := by
          rw [bs_size, ← HT1.out]
          have h9 := line_len HX1.out HX2.out (fieldsX ⟨op, d, a', b', n⟩).length
          rw [List.take_of_length_le (Nat.le_refl _)] at h9
          exact h9
        rw [HT1.out]
        rintro e w2 ⟨rfl, b2⟩
        have HB2 : Hid (Below w.heap.size w w2) := Bel.after HB1.out b2
        clear b2
        go_wp2_with fail
        have hbe : (bs t0 ++ bs t1 ++ (⟨#[10]⟩ : ByteArray)) = bs (t0 ++ (t1 ++ [10])) := by
          apply Go.WideShapes.bytes_inj
          simp [bs, ByteArray.data_append]
        have hwk : wrap64 ((k : Int) + 1) = (k : Int) + 1 := by have := HL9.out; unfold wrap64; omega
        rw [hbe, hwk]
        go_roundw
        case rel => exact ⟨k + 1, by omega, by rw [join_next HX.out, HT0.out, HT1.out], by go_num, HB2.out⟩
        case measure => simp [intOf]; omega
      · have hkm : k = len := by omega
        subst hkm
        go_wp2
        go_ret
        refine ⟨ret_bs ?_, HBR.out⟩
        rw [← HTJ.out, List.take_of_length_le (by have := HLN.out; omega)]

set_option maxRecDepth 100000 in
set_option maxHeartbeats 4000000 in
theorem impl_print (a : Option Addr) (len cap : Nat) (l : List InsD) (w : World) (hl : StepsAt w (.slice a len cap) l) (ho : OpsIn l) (hn : NumsIn l) (hT : Tabs w) :
    Calls Tryd.prog 16 #[.slice a len cap] w fun e w' => GivesTxt w (printL l) e w' := by
  have HT : Hid (Tabs w) := hT
  have HL : Hid (StepsAt w (.slice a len cap) l) := hl
  have HO : Hid (OpsIn l) := ho
  have HN : Hid (NumsIn l) := hn
  obtain ⟨r, HR⟩ : ∃ r, Hid (machineOkB l = r) := ⟨_, rfl⟩
  have HLN : Hid (l.length = len) := by obtain ⟨_, _, e, _⟩ := hl; simp at e; exact e.2.1.symm
  obtain ⟨T, HTX⟩ : ∃ T, Hid (printL l = T) := ⟨_, rfl⟩
  rw [HTX.out]
  clear hl ho hn hT
  go_enter Tryd.func16, Tryd.ntmps16
  go_wp2_with fail
  refine (impl_machineOk _ l _ HL.out HO.out HT.out.ft).mono ?_
  rintro e w1 ⟨rfl, b1⟩
  rw [HR.out]
  have HB1 : Hid (Below w.heap.size w w1) := b1
  clear b1
  cases r with
  | false =>
    obtain rfl : [] = T := by rw [← HTX.out, printL_no HR.out]
    go_wp2
    go_ret
    exact ⟨rfl, HB1.out⟩
  | true =>
    have HS : Hid (StepsIn l) := machine_steps HR.out HN.out
    obtain ⟨hl1, hl900, _⟩ := machineOkB_parts HR.out
    have HL9 : Hid (1 ≤ len ∧ len ≤ 900) := by show _ ∧ _; rw [← HLN.out]; exact ⟨hl1, hl900⟩
    have HTJ : Hid (joinX l = T) := by show _ = _; rw [← HTX.out, printL_yes HR.out]
    clear hl900 hl1 HTX
    obtain ⟨w2, hw2⟩ : ∃ W, w1.alloc (.cells #[.pointer none, .slice none 0 0] 65) = W := ⟨_, rfl⟩
    have HBI : Hid (BldIs w1.heap.size w1.heap.size [] w2) := by show Lib.IsBuilder _ _ _ _ _ _; rw [← hw2]; exact Lib.fresh_isBuilder _ _ _
    have HB2 : Hid (Below w1.heap.size w1 w2) := by show Below _ _ _; rw [← hw2]; exact Bel.alloc _ _
    obtain ⟨B, HB⟩ : ∃ B, Hid (w1.heap.size = B) := ⟨_, rfl⟩
    rw [HB.out] at HBI HB2
    have hB2 : B < w2.heap.size := by rw [← hw2, ← HB.out]; simp
    go_wp2_with fail
    try rw [hw2]
    try rw [HB.out]
    clear hw2
    go_loopw [11] (fun iv wr => ∃ k : Nat, k ≤ len ∧ iv = .int .i64 k ∧ BldIs B B (joinX (l.take k)) wr ∧ Below B w1 wr ∧ B < wr.heap.size) (fun iv _ => len - (intOf iv).toNat)
    case atStart => exact ⟨0, Nat.zero_le _, rfl, HBI.out, HB2.out, hB2⟩
    case round =>
      obtain ⟨k, hk, rfl, hbi, hbr, hbs⟩ := hrel
      have HBR : Hid (Below B w1 wr) := hbr
      have HBX : Hid (BldIs B B (joinX (l.take k)) wr) := hbi
      have HW : Hid (Below w.heap.size w wr) := by have := HB.out; exact HB1.out.trans (hbr.mono (by have := HB1.out.size; omega))
      clear hbr hbi
      by_cases hlt : (k : Int) < (len : Int)
      · have HK1 : Hid (k + 1 ≤ len) := by show _ ≤ _; omega
        obtain ⟨x, HX⟩ : ∃ x, Hid (l[k]? = some x) := ⟨l[k]'(by have := HLN.out; omega), List.getElem?_eq_getElem _⟩
        obtain ⟨_, b, off, hab, hc⟩ := (steps_later HL.out HW.out).cells HX.out
        subst hab
        obtain ⟨op, d, a', b', n⟩ := x
        have hx := HS.out _ (List.mem_of_getElem? HX.out)
        have HX1 : Hid (stepOkB ⟨op, d, a', b', n⟩ 900 = true) := hx.1
        have HX2 : Hid (InR ⟨op, d, a', b', n⟩) := hx.2
        have HX3 : Hid (-9223372036854775808 ≤ op ∧ op ≤ 9223372036854775807) := HO.out _ (List.mem_of_getElem? HX.out)
        obtain ⟨t0, HT0⟩ : ∃ t, Hid (joinX (l.take k) = t) := ⟨_, rfl⟩
        have HT9 : Hid (t0.length ≤ 88200) := by
          show _ ≤ _
          rw [← HT0.out]
          have h9 := joinX_len _ (steps_take HS.out k)
          have h8 : (l.take k).length ≤ 900 := by rw [List.length_take]; have := HLN.out; have := HL9.out; omega
          omega
        rw [HT0.out] at HBX
        obtain ⟨c0, c1, c2, c3, c4⟩ := hc
        dsimp only at c0 c1 c2 c3 c4
        obtain ⟨wa, hwa⟩ : ∃ W, wr.alloc (.cells #[.int .i64 op, .int .i64 d, .int .i64 a', .int .i64 b', .int .i64 n] 25) = W := ⟨_, rfl⟩
        have hal : Below wr.heap.size wr wa := by rw [← hwa]; exact Bel.alloc _ _
        have HWa : Hid (Below w.heap.size w wa) := Bel.after HW.out hal
        have HBXa : Hid (BldIs B B t0 wa) := builder_keep HBX.out hal
        have HBRa : Hid (Below B w1 wa) := HBR.out.trans (hal.mono (by omega))
        have hba : B < wa.heap.size := by have := hal.size; omega
        obtain ⟨y0, y1, y2, y3, y4⟩ : InsBox wa wr.heap.size op d a' b' n := by rw [← hwa]; exact insBox_new wr _ op d a' b' n
        clear hx hal
        go_wp2_with fail
        try rw [hwa]
        clear hwa c0 c1 c2 c3 c4 y0 y1 y2 y3 y4
        refine (impl_stepText op d a' b' n _ HX3.out HX2.out (HT.out.keep HWa.out)).mono ?_
        rw [textX_line HX1.out]
        obtain ⟨t1, HT1⟩ : ∃ t, Hid (lineX ⟨op, d, a', b', n⟩ = t) := ⟨_, rfl⟩
        have HT19 : Hid (t1.length ≤ 97) := by
          show _ ≤ _
          rw [← HT1.out]
          have h9 := line_len HX1.out HX2.out (fieldsX ⟨op, d, a', b', n⟩).length
          rw [List.take_of_length_le (Nat.le_refl _)] at h9
          exact h9
        rw [HT1.out]
        rintro e w4 ⟨rfl, b4⟩
        have HBX4 : Hid (BldIs B B t0 w4) := builder_keep HBXa.out b4
        have HBR4 : Hid (Below B w1 w4) := HBRa.out.trans (b4.mono (by omega))
        have hb4 : B < w4.heap.size := by have := b4.size; omega
        clear b4
        go_wp2_with fail
        refine (writeString_any B B t0 t1 _ HBX4.out (by have := HT9.out; have := HT19.out; omega) (by omega)).mono ?_
        rintro e w5 ⟨⟨u9, rfl⟩, bi5, b5⟩
        have HBX5 : Hid (BldIs B B (t0 ++ t1) w5) := bi5
        have HBR5 : Hid (Below B w1 w5) := HBR4.out.trans b5
        have hb5 : B < w5.heap.size := by have := b5.size; omega
        clear b5 bi5
        go_wp2_with fail
        refine (writeByte_any B B (t0 ++ t1) _ HBX5.out (by rw [List.length_append]; have := HT9.out; have := HT19.out; omega) (by omega)).mono ?_
        rintro e w6 ⟨⟨u8, rfl⟩, bi6, b6⟩
        have HBX6 : Hid (BldIs B B ((t0 ++ t1) ++ [10]) w6) := bi6
        have HBR6 : Hid (Below B w1 w6) := HBR5.out.trans b6
        have hb6 : B < w6.heap.size := by have := b6.size; omega
        clear b6 bi6
        go_wp2_with fail
        have hwk : wrap64 ((k : Int) + 1) = (k : Int) + 1 := by have := HL9.out; unfold wrap64; omega
        rw [hwk]
        have HJ : Hid (joinX (l.take (k + 1)) = t0 ++ t1 ++ [10]) := by show _ = _; rw [join_next HX.out, HT0.out, HT1.out, List.append_assoc]
        go_roundw
        case rel => exact ⟨k + 1, HK1.out, by go_num, by rw [HJ.out]; exact HBX6.out, HBR6.out, hb6⟩
        case measure => exact meas_next HK1.out
      · have hkm : k = len := by omega
        subst hkm
        have HE : Hid (joinX (l.take k) = T) := by show _ = _; rw [← HTJ.out, List.take_of_length_le (by have := HLN.out; omega)]
        rw [HE.out] at HBX
        have HNE : Hid (T ≠ []) := by
          show _ ≠ _
          rw [← HTJ.out]
          cases h9 : l with
          | nil => have := HLN.out; have := HL9.out; rw [h9] at *; simp at *; omega
          | cons x l9 => rw [joinX_cons]; simp
        go_wp2_with fail
        refine (string_any B B T _ HBX.out HNE.out).mono ?_
        rintro e w7 ⟨rfl, b7⟩
        go_wp2
        go_ret
        exact ⟨rfl, HW.out.trans (b7.mono (by have := HB.out; have := HB1.out.size; omega))⟩
end Go.Proofs.YtanngcedmojocaaDoor
