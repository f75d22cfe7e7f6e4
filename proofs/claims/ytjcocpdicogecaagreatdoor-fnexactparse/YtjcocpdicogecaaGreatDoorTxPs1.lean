/- Numerals read by the model. -/
import Derived.Test.YtjcocpdicogecaaGreatDoorTxNum
import Derived.Test.YtjcocpdicogecaaGreatDoorTxDig
import Derived.Test.YtjcocpdicogecaaGreatDoorHmIn
import Derived.Deep.DeepCutAuto
namespace Go.Proofs.YtjcocpdicogecaaGreatDoor
open Go.ChangeShapes Go.WideShapes Go.ChangeAt Go.RowKit
set_option linter.unusedVariables false

def GivesNum (w : World) (l : List UInt8) (e : Ending) (w' : World) : Prop := ∃ (x : Int) (ok : Bool), e = .returned (.tuple #[.int .i64 x, .bool ok]) ∧ (ok = true → R64 x ∧ Lib.itoa x = l) ∧ (ok = false → ∀ y, R64 y → Lib.itoa y ≠ l) ∧ Below w.heap.size w w'
theorem GivesNum.no {w w' : World} {l : List UInt8} (h : ∀ y, R64 y → Lib.itoa y ≠ l) (hb : Below w.heap.size w w') : GivesNum w l (.returned (.tuple #[.int .i64 0, .bool false])) w' := ⟨0, false, rfl, (fun e => by cases e), (fun _ => h), hb⟩
theorem meas_up {k n : Nat} (h : k + 1 ≤ n) : n - (intOf (.int .i64 ((k : Int) + 1))).toNat < n - (intOf (.int .i64 (k : Int))).toNat := by simp [intOf]; omega
theorem wrapW_is (n : Int) : wrapW n = wrap64 n := by unfold wrapW wrap64; omega

theorem l1Bit_any (b : Bool) (w : World) : Calls Tryz.prog 41 #[.bool b] w fun e w' => e = .returned (.int .i64 (if b then 1 else 0)) ∧ w' = w := by
  go_enter Tryz.func41, Tryz.ntmps41
  cases b
  · go_wp2
    go_ret
    exact ⟨rfl, rfl⟩
  · go_wp2
    go_ret
    exact ⟨rfl, rfl⟩
theorem bs_get (l : List UInt8) (i : Nat) (c : UInt8) (h : l[i]? = some c) : ∀ hh : i < (bs l).size, (bs l)[i]'hh = c := fun hh => by
  have h1 : (bs l)[i]'hh = (bs l).data[i]'hh := rfl
  have h2 := (List.getElem?_eq_some_iff.1 h).2
  rw [h1]
  simpa [bs] using h2
set_option maxRecDepth 100000 in
set_option maxHeartbeats 4000000 in
theorem l17Num_any (l : List UInt8) (w : World) (hl : l.length ≤ 1048576) :
    Calls Tryz.prog 27 #[.string (bs l)] w fun e w' => GivesNum w l e w' := by
  obtain ⟨m, HM⟩ : ∃ m, Hid (l.length = m) := ⟨_, rfl⟩
  have hsz : (bs l).size = m := by rw [bs_size, HM.out]
  have hm : m ≤ 1048576 := by rw [← HM.out]; exact hl
  clear hl
  obtain ⟨neg, hneg⟩ : ∃ b, b = (decide (1 < l.length) && decide (l[0]? = some 45)) := ⟨_, rfl⟩
  have HNG : Hid ((decide (1 < l.length) && decide (l[0]? = some 45)) = neg) := hneg.symm
  clear hneg
  go_enter Tryz.func27, Tryz.ntmps27
  go_upto_region 1 with fail
  go_cut [4] (fun v wx => v = .bool neg ∧ wx = w)
  case first =>
    by_cases h1 : m ≤ 1
    · have hf : neg = false := by
        rw [← HNG.out, decide_eq_false (by have := HM.out; omega)]
        rfl
      subst hf
      go_wp2_with fail
      go_meet
      exact ⟨rfl, rfl⟩
    · obtain ⟨c, HC⟩ : ∃ c, Hid (l[0]? = some c) := ⟨l[0]'(by have := HM.out; omega), List.getElem?_eq_getElem _⟩
      have hg := bs_get l 0 c HC.out
      have hc : ((c.toNat : Int) == 45) = neg := by
        rw [← HNG.out, decide_eq_true (by have := HM.out; omega), HC.out]
        by_cases e : c = 45
        · subst e; rfl
        · have e2 : c.toNat ≠ 45 := fun h9 => e (UInt8.toNat_inj.1 h9)
          have e3 : ((c.toNat : Int) == 45) = false := by rw [beq_eq_false_iff_ne]; omega
          rw [e3]
          simp [e]
      go_wp2_with fail
      go_meet
      exact ⟨rfl, rfl⟩
  case rest =>
    obtain ⟨rfl, hwc⟩ := hcut
    subst hwc
    go_wp2_with fail
    refine (l1Bit_any neg _).mono ?_
    rintro e w1 ⟨rfl, hw1⟩
    subst hw1
    obtain ⟨st, HST⟩ : ∃ st : Nat, Hid ((if neg then 1 else 0) = st) := ⟨_, rfl⟩
    have hst : (if neg then (1 : Int) else 0) = (st : Int) := by rw [← HST.out]; split <;> rfl
    have HP : Hid (∀ y, R64 y → Lib.itoa y = l → NumParts l neg st y) := fun y hy e => by
      obtain ⟨n', s', hp⟩ := num_parts hy
      rw [e] at hp
      have e1 : n' = neg := hp.sign.trans HNG.out
      subst e1
      have e2 : s' = st := hp.start.trans HST.out
      subst e2
      exact hp
    have hst1 : st ≤ 1 := by rw [← HST.out]; split <;> omega
    rw [hst]
    by_cases hA : 19 < (m : Int) - (st : Int)
    · have hwm : wrap64 ((m : Int) - (st : Int)) = (m : Int) - (st : Int) := by unfold wrap64; omega
      go_wp2_with fail
      refine bodyPost_ret (v := .tuple #[.int .i64 0, .bool false]) (by simp [results, Tryz.results27, go_sem]) rfl (GivesNum.no (fun y hy e => ?_) (Below.refl _ _))
      have h9 := (HP.out y hy e).size
      have := HM.out
      omega
    · have hst0 : st ≤ m := by
        rw [← HST.out]
        split
        · have h9 := HNG.out
          rename_i h8
          rw [h8] at h9
          simp at h9
          have := HM.out
          omega
        · omega
      by_cases hE : m = st
      · have hwm : wrap64 ((m : Int) - (st : Int)) = 0 := by unfold wrap64; omega
        have heq : ((m : Int) == (st : Int)) = true := by simp [hE]
        go_wp2_with fail
        refine bodyPost_ret (v := .tuple #[.int .i64 0, .bool false]) (by simp [results, Tryz.results27, go_sem]) rfl (GivesNum.no (fun y hy e => ?_) (Below.refl _ _))
        have h9 := (HP.out y hy e).size
        have := HM.out
        omega
      · have HLT : Hid (st < m) := by show _ < _; omega
        have hwm : wrap64 ((m : Int) - (st : Int)) = (m : Int) - (st : Int) := by unfold wrap64; omega
        have heq : ((m : Int) == (st : Int)) = false := by rw [beq_eq_false_iff_ne]; omega
        go_wp2_with fail
        clear hwm heq
        obtain ⟨w0, hw0⟩ : ∃ x, x = w1 := ⟨_, rfl⟩
        go_loopw [5, 6, 7] (fun av xv dv wr => ∃ k : Nat, st ≤ k ∧ k ≤ m ∧ av = .int .i64 k ∧ xv = .int .i64 (foldW neg ((l.drop st).take (k - st))) ∧ wr = w0) (fun av _ _ _ => m - (intOf av).toNat)
        case atStart => exact ⟨st, Nat.le_refl _, Nat.le_of_lt HLT.out, rfl, by rw [Nat.sub_self]; rfl, hw0.symm⟩
        case round =>
          obtain ⟨k, hk1, hk2, rfl, rfl, hwr⟩ := hrel
          obtain ⟨X, HX⟩ : ∃ X, Hid (foldW neg ((l.drop st).take (k - st)) = X) := ⟨_, rfl⟩
          rw [HX.out]
          by_cases hlt : (k : Int) < (m : Int)
          · have HK1 : Hid (k + 1 ≤ m ∧ st ≤ k) := ⟨by omega, hk1⟩
            obtain ⟨c, HC⟩ : ∃ c, Hid (l[k]? = some c) := ⟨l[k]'(by have := HM.out; omega), List.getElem?_eq_getElem _⟩
            have hg := bs_get l k c HC.out
            have hc256 : c.toNat < 256 := c.toNat_lt
            have hwd : wrap64 ((c.toNat : Int) - 48) = (c.toNat : Int) - 48 := by unfold wrap64; omega
            have HTK : Hid ((l.drop st).take (k + 1 - st) = (l.drop st).take (k - st) ++ [c]) := by
              show _ = _
              rw [show k + 1 - st = (k - st) + 1 by omega, List.take_add_one, List.getElem?_drop, show st + (k - st) = k by omega, HC.out]
              rfl
            go_wp2_with fail
            refine (l1In_any ((c.toNat : Int) - 48) 0 9 _).mono ?_
            rintro e w2 ⟨rfl, hw2⟩
            subst hw2
            by_cases hd : 48 ≤ c.toNat ∧ c.toNat ≤ 57
            · have hb : (decide (0 ≤ (c.toNat : Int) - 48) && decide ((c.toNat : Int) - 48 ≤ 9)) = true := by simp; omega
              rw [hb]
              have HDG : Hid (foldW neg ((l.drop st).take (k + 1 - st)) = digW neg X ((c.toNat : Int) - 48)) := by show _ = _; rw [HTK.out, foldW_snoc, HX.out]
              obtain ⟨d, HD⟩ : ∃ d, Hid ((c.toNat : Int) - 48 = d) := ⟨_, rfl⟩
              rw [HD.out] at hwd HDG ⊢
              have hwk : wrap64 ((k : Int) + 1) = (k : Int) + 1 := by unfold wrap64; omega
              clear hb hd
              cases neg with
              | true =>
                have hE1 : wrap64 (wrap64 (10 * X) - d) = digW true X d := by unfold digW; rw [if_pos rfl, wrapW_is, wrapW_is]
                go_wp2_with fail
                try rw [hE1]
                try rw [hwk]
                go_roundw
                case rel => exact ⟨k + 1, by have := HK1.out; omega, HK1.out.1, by go_num, by rw [HDG.out], by first | exact hwr | exact hw0.symm⟩
                case measure => exact meas_up HK1.out.1
              | false =>
                have hE1 : wrap64 (wrap64 (10 * X) + d) = digW false X d := by unfold digW; rw [if_neg (by simp), wrapW_is, wrapW_is]
                go_wp2_with fail
                try rw [hE1]
                try rw [hwk]
                go_roundw
                case rel => exact ⟨k + 1, by have := HK1.out; omega, HK1.out.1, by go_num, by rw [HDG.out], by first | exact hwr | exact hw0.symm⟩
                case measure => exact meas_up HK1.out.1
            · have hb : (decide (0 ≤ (c.toNat : Int) - 48) && decide ((c.toNat : Int) - 48 ≤ 9)) = false := by
                cases h9 : (decide (0 ≤ (c.toNat : Int) - 48) && decide ((c.toNat : Int) - 48 ≤ 9)) with
                | false => rfl
                | true => simp at h9; omega
              rw [hb]
              have HND : Hid (¬ (48 ≤ c.toNat ∧ c.toNat ≤ 57)) := hd
              clear hb hd
              go_wp2_with fail
              refine bodyPost_ret (v := .tuple #[.int .i64 0, .bool false]) (by simp [results, Tryz.results27, go_sem]) rfl (GivesNum.no (fun y hy e => ?_) (Below.refl _ _))
              refine HND.out ((HP.out y hy e).digits c ?_)
              refine List.mem_of_getElem? (i := k - st) ?_
              rw [List.getElem?_drop, show st + (k - st) = k by have := HK1.out; omega]
              exact HC.out
          · have hkm : k = m := by omega
            subst hkm
            have HXR : Hid (R64 X) := by show R64 X; rw [← HX.out]; exact foldW_r _ _
            have HXL : Hid (foldW neg (l.drop st) = X) := by
              show _ = _
              rw [← HX.out, List.take_of_length_le (by rw [List.length_drop, HM.out]; exact Nat.le_refl _)]
            go_wp2_with fail
            refine (l17Digits_any X _ HXR.out).mono ?_
            rintro e w2 ⟨rfl, b2⟩
            by_cases he : Lib.itoa X = l
            · have heq : ((bs (Lib.itoa X)).toList == (bs l).toList) = true := by simp [he]
              go_wp2_with fail
              refine bodyPost_ret (v := .tuple #[.int .i64 X, .bool true]) (by simp [results, Tryz.results27, go_sem]) rfl ⟨X, true, rfl, (fun _ => ⟨HXR.out, he⟩), (fun h => by cases h), b2⟩
            · have heq : ((bs (Lib.itoa X)).toList == (bs l).toList) = false := by
                rw [ByteArray.toList_eq, ByteArray.toList_eq, bs_list, bs_list]
                simpa using he
              go_wp2_with fail
              refine bodyPost_ret (v := .tuple #[.int .i64 X, .bool false]) (by simp [results, Tryz.results27, go_sem]) rfl ⟨X, false, rfl, (fun h => by cases h), (fun _ y hy e => ?_), b2⟩
              have h9 := (HP.out y hy e).value
              rw [HXL.out] at h9
              exact he (by rw [h9]; exact e)
end Go.Proofs.YtjcocpdicogecaaGreatDoor
