/- Code read from a text, by the model. -/
import Derived.Test.YtjcocpdicogecaaGreatDoorTxPs6K
import Derived.Test.YtjcocpdicogecaaGreatDoorTxPmK
import Derived.Test.YtjcocpdicogecaaGreatDoorMaOkK
namespace Go.Proofs.YtjcocpdicogecaaGreatDoor
open Go.ChangeShapes Go.WideShapes Go.ChangeAt Go.RowKit
set_option linter.unusedVariables false

def PRel (t : List UInt8) (w : World) (S0 : Nat) (ov fv iv : Value) (wr : World) : Prop := ∃ (k f : Nat) (l0 : List InsD) (va : Option Addr) (vn vc : Nat), iv = .int .i64 k ∧ fv = .int .i64 f ∧ ov = .slice va vn vc ∧ l0.length = vn ∧ vn ≤ 900 ∧ PMem t w S0 k f l0 (.slice va vn vc) wr
theorem prel_quit {t : List UInt8} {w wq : World} {S0 : Nat} (h : parseB t = false ∧ parseOf t = []) (hS : w.heap.size = S0) (hb : Below S0 w wq) (hl : S0 ≤ wq.heap.size) : GivesParse w t (.returned (.tuple #[.slice (some ⟨wq.heap.size, 0, none⟩) 0 0, .bool false])) (wq.alloc (.cells #[] 36)) := by
  refine ⟨_, by rw [h.1], ?_, ?_⟩
  · rw [h.2]
    exact ownSteps_new (World.alloc_heap_new wq _) (by rw [hS]; exact hl)
  · rw [hS]
    exact hb.trans ((Bel.alloc wq _).mono hl)
theorem prel_quit2 {t : List UInt8} {w w2 : World} {S0 k f : Nat} {l0 : List InsD} {ov : Value} {b : Obj} (h : parseB t = false ∧ parseOf t = []) (hS : w.heap.size = S0) (hp : PMem t w S0 k f l0 ov w2) : GivesParse w t (.returned (.tuple #[.slice (some ⟨w2.heap.size + 1, 0, none⟩) 0 0, .bool false])) ((w2.alloc b).alloc (.cells #[] 36)) := by
  have h9 := hp.keep (Bel.alloc w2 b)
  have := prel_quit h hS h9.below (Nat.le_of_lt h9.lt)
  rwa [show (w2.alloc b).heap.size = w2.heap.size + 1 by simp] at this
theorem prel_yes {t : List UInt8} {w w2 : World} {S0 k f : Nat} {l0 : List InsD} {ov : Value} (h : parseB t = true ∧ parseOf t = l0) (hS : w.heap.size = S0) (hp : PMem t w S0 k f l0 ov w2) : GivesParse w t (.returned (.tuple #[ov, .bool true])) w2 :=
  ⟨ov, by rw [h.1], by rw [h.2, hS]; exact hp.own, by rw [hS]; exact hp.below⟩
theorem PRel.plain {t : List UInt8} {w wr : World} {S0 k f vn vc : Nat} {l0 : List InsD} {va : Option Addr} {c : UInt8} (h : PMem t w S0 k f l0 (.slice va vn vc) wr) (hn : l0.length = vn) (h9 : vn ≤ 900) (hc : t[k]? = some c) (hne : c ≠ 10) : PRel t w S0 (.slice va vn vc) (.int .i64 (f : Int)) (.int .i64 ((k : Int) + 1)) wr :=
  ⟨k + 1, f, l0, va, vn, vc, num_up k, rfl, rfl, hn, h9, h.pm.plainR hc hne, h.own, h.below, h.lt⟩
theorem PRel.next {t q : List UInt8} {w wr wb : World} {S0 k f vn vc : Nat} {l0 : List InsD} {va : Option Addr} {x : InsD} {v' : Value} (h : PMem t w S0 k f l0 (.slice va vn vc) wr) (hn : l0.length = vn) (h9 : vn ≤ 900) (h0 : ¬ vn = 900) (hc : t[k]? = some 10) (hq : (t.drop f).take (k - f) = q) (hl : IsLine q x)
    (ho : OwnSteps wb S0 v' (l0 ++ [x])) (hb : Below S0 w wb) (hlt : S0 < wb.heap.size) : PRel t w S0 v' (.int .i64 ((k : Int) + 1)) (.int .i64 ((k : Int) + 1)) wb := by
  obtain ⟨a, c, rfl⟩ := ho.formP
  refine ⟨k + 1, k + 1, l0 ++ [x], a, _, c, num_up k, num_up k, rfl, rfl, ?_, h.pm.next hc hq hl, ho, hb, hlt⟩
  rw [List.length_append, List.length_singleton]
  omega
theorem eq900 {n : Nat} (h : ¬ n = 900) : ((n : Int) == 900) = false := by rw [beq_eq_false_iff_ne]; omega
theorem meas_pr {k m : Nat} (h : k < m) : m - (intOf (.int .i64 ((k : Int) + 1))).toNat < m - (intOf (.int .i64 (k : Int))).toNat := by simp [intOf]; omega

set_option maxRecDepth 100000 in
set_option maxHeartbeats 4000000 in
theorem spec_parse (t : List UInt8) (w : World) (hl : t.length ≤ 1048576) :
    Calls Tryz.prog 5 #[.string (bs t)] w fun e w' => GivesParse w t e w' := by
  obtain ⟨m, HM⟩ : ∃ m, Hid (t.length = m) := ⟨_, rfl⟩
  have hsz : (bs t).size = m := by rw [bs_size, HM.out]
  have HLM : Hid (t.length ≤ 1048576) := hl
  have hm : m ≤ 1048576 := by rw [← HM.out]; exact hl
  clear hl
  obtain ⟨S0, HS0⟩ : ∃ S, Hid (w.heap.size = S) := ⟨_, rfl⟩
  obtain ⟨w1, hw1⟩ : ∃ W, w.alloc (.cells #[] 36) = W := ⟨_, rfl⟩
  have HP1 : Hid (PMem t w S0 0 0 [] (.slice (some ⟨S0, 0, none⟩) 0 0) w1) := by
    refine ⟨PM.start t, ?_, ?_, ?_⟩
    · rw [← hw1, ← HS0.out]; exact ownSteps_new (World.alloc_heap_new w _) (Nat.le_refl _)
    · rw [← hw1, ← HS0.out]; exact Bel.alloc _ _
    · rw [← hw1, ← HS0.out]; simp
  go_enter Tryz.func5, Tryz.ntmps5
  go_wp2_with fail
  try rw [hw1]
  try rw [HS0.out]
  clear hw1
  go_loopw [4, 5, 6] (fun ov fv iv wr => PRel t w S0 ov fv iv wr) (fun _ _ iv _ => m - (intOf iv).toNat)
  case atStart => exact ⟨0, 0, [], _, _, _, rfl, rfl, rfl, rfl, by decide, HP1.out⟩
  case round =>
    obtain ⟨k, f, l0, va, vn, vc, rfl, rfl, rfl, hvn, h9, hp⟩ := hrel
    have HP : Hid (PMem t w S0 k f l0 (.slice va vn vc) wr) := hp
    have HVN : Hid (l0.length = vn) := hvn
    have H9 : Hid (vn ≤ 900) := h9
    clear hp hvn h9
    by_cases hlt : (k : Int) < (m : Int)
    · obtain ⟨c, HC⟩ : ∃ c, Hid (t[k]? = some c) := ⟨t[k]'(by rw [HM.out]; omega), List.getElem?_eq_getElem _⟩
      have HKM : Hid (k < m) := Int.ofNat_lt.1 hlt
      have hg := bs_get t k c HC.out
      have hwk : wrap64 ((k : Int) + 1) = (k : Int) + 1 := by unfold wrap64; omega
      by_cases hc : c = 10
      · subst hc
        obtain ⟨q, HQ⟩ : ∃ q, Hid ((t.drop f).take (k - f) = q) := ⟨_, rfl⟩
        have hcut : (bs t).extract f k = bs q := by rw [bs_cut, HQ.out]
        have hfk : f ≤ k := HP.out.pm.fk
        have hfki : (f : Int) ≤ (k : Int) := Int.ofNat_le.2 hfk
        have HQL : Hid (q.length ≤ 1048576) := Nat.le_trans (PM.qlen HQ.out) HLM.out
        have hkmi : (k : Int) ≤ (m : Int) := Int.le_of_lt hlt
        clear hfk
        go_wp2_with fail
        try rw [hcut]
        refine (l17Step_any q _ HQL.out).mono ?_
        rintro e w2 ⟨⟨x0, x1, x2, x3, x4⟩, ok, rfl, hy, hn, b2⟩
        have HY : Hid (ok = true → IsLine q ⟨x0, x1, x2, x3, x4⟩) := hy
        have HN : Hid (ok = false → ∀ y, ¬ IsLine q y) := hn
        have HP2 : Hid (PMem t w S0 k f l0 (.slice va vn vc) w2) := HP.out.keep b2
        clear hy hn b2 HP
        cases ok with
        | false =>
          have HNO : Hid (parseB t = false ∧ parseOf t = []) := HP2.out.pm.no HC.out HQ.out (HN.out (by trivial))
          clear HY HN
          go_wp2_with fail
          go_ret2
          exact prel_quit2 HNO.out HS0.out HP2.out
        | true =>
          have HL : Hid (IsLine q ⟨x0, x1, x2, x3, x4⟩) := HY.out (by trivial)
          clear HY HN
          by_cases h900 : vn = 900
          · have HNO : Hid (parseB t = false ∧ parseOf t = []) := HP2.out.pm.full HC.out HQ.out (by rw [HVN.out, h900]; exact Nat.le_refl _)
            subst h900
            go_wp2_with fail
            go_ret2
            exact prel_quit2 HNO.out HS0.out HP2.out
          · have h900e := eq900 h900
            have H900 : Hid (¬ vn = 900) := h900
            have BX : Below w2.heap.size w2 (w2.alloc (.cells #[.int .i64 x0, .int .i64 x1, .int .i64 x2, .int .i64 x3, .int .i64 x4] 36)) := Bel.alloc _ _
            obtain ⟨v', w5, hrun, ho5, hb5, hl5⟩ := (HP2.out.keep BX).add (x0 := x0) (x1 := x1) (x2 := x2) (x3 := x3) (x4 := x4) (parse_len _ (by rw [HVN.out]; exact H9.out))
            have esz : (w2.alloc (.cells #[.int .i64 x0, .int .i64 x1, .int .i64 x2, .int .i64 x3, .int .i64 x4] 36)).heap.size = w2.heap.size + 1 := by simp
            rw [esz] at hrun
            have HRUN : Hid (∀ ty, (Builtin.append_ #[22, 22] ty #[.slice va vn vc, .slice (some ⟨w2.heap.size + 1, 0, none⟩) 1 1]).run Tryz.prog ((w2.alloc (.cells #[.int .i64 x0, .int .i64 x1, .int .i64 x2, .int .i64 x3, .int .i64 x4] 36)).alloc (.cells #[.int .i64 x0, .int .i64 x1, .int .i64 x2, .int .i64 x3, .int .i64 x4] 36)) = .ok v' w5) := hrun
            have HO5 : Hid (OwnSteps w5 S0 v' (l0 ++ [⟨x0, x1, x2, x3, x4⟩])) := ho5
            have HB5 : Hid (Below S0 w w5) := hb5
            have HL5 : Hid (S0 < w5.heap.size) := hl5
            clear hrun ho5 hb5 hl5 BX esz h900
            go_wp2_with (at_builtin; refine wpList_appendS _ rfl _ _ 22 22 rfl _ _ _ _ rfl rfl (HRUN.out _) ?_)
            try rw [hwk]
            go_roundw
            case rel => exact PRel.next HP2.out HVN.out H9.out H900.out HC.out HQ.out HL.out HO5.out HB5.out HL5.out
            case measure => exact meas_pr HKM.out
      · have hb : ((c.toNat : Int) != 10) = true := by
          rw [bne_iff_ne]
          exact fun h9 => hc (UInt8.toNat_inj.1 (Int.ofNat_inj.1 h9))
        have HCN : Hid (c ≠ 10) := hc
        clear hc
        go_wp2_with fail
        try rw [hwk]
        go_roundw
        case rel => exact PRel.plain HP.out HVN.out H9.out HC.out HCN.out
        case measure => exact meas_pr HKM.out
    · have hkm : k = m := by have := HP.out.pm.kn; rw [HM.out] at this; omega
      subst hkm
      have HPE : Hid (PM t t.length f l0) := by rw [HM.out]; exact HP.out.pm
      by_cases hf : f < k
      · have hfi : (f : Int) < (k : Int) := Int.ofNat_lt.2 hf
        have HNO : Hid (parseB t = false ∧ parseOf t = []) := HPE.out.rest (by rw [HM.out]; exact hf)
        clear hf
        go_wp2_with fail
        go_ret2
        exact prel_quit HNO.out HS0.out HP.out.below (Nat.le_of_lt HP.out.lt)
      · have hfi : ¬ (f : Int) < (k : Int) := fun h => hf (Int.ofNat_lt.1 h)
        have HNF : Hid (¬ f < t.length) := by show ¬ _; rw [HM.out]; exact hf
        clear hf
        obtain ⟨ok, HOK⟩ : ∃ b, Hid (machineOkB l0 = b) := ⟨_, rfl⟩
        go_wp2_with fail
        refine (spec_machineOk (.slice va vn vc) l0 _ HP.out.own.at HPE.out.says.ops).mono ?_
        rintro e w2 ⟨rfl, b2⟩
        rw [HOK.out]
        have HP2 : Hid (PMem t w S0 k f l0 (.slice va vn vc) w2) := HP.out.keep b2
        clear b2
        cases ok with
        | false =>
          have HNO : Hid (parseB t = false ∧ parseOf t = []) := HPE.out.bad HNF.out HOK.out
          go_wp2_with fail
          go_ret2
          exact prel_quit HNO.out HS0.out HP2.out.below (Nat.le_of_lt HP2.out.lt)
        | true =>
          have HYES : Hid (parseB t = true ∧ parseOf t = l0) := HPE.out.good HNF.out HOK.out
          go_wp2_with fail
          go_ret2
          exact prel_yes HYES.out HS0.out HP2.out
end Go.Proofs.YtjcocpdicogecaaGreatDoor
