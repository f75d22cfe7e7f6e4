/- Proved: of every drawn program Check of the program answers as the model does; where it is well each value is taken where it was made, and made where DefAt says; nothing comes ahead of block 0, and nothing but block 0 comes ahead of all; no condition. -/
import Derived.Test.YtfeppmfoegejhaaGreatDoorRows
import Derived.Test.YtfeppmfoegejhaaGreatDoorKCkE
import Derived.Test.YtfeppmfoegejhaaGreatDoorTie
import Derived.Test.YtfeppmfoegejhaaGreatDoorCards
import Derived.SevenTiedAt
import Derived.Test.YtfeppmfoegejhaaGreatDoorKIns
import Derived.Test.YtfeppmfoegejhaaGreatDoorKSeq
import Derived.Test.YtfeppmfoegejhaaGreatDoorKCkT
import Derived.Test.YtfeppmfoegejhaaGreatDoorKCkL
import Derived.Test.YtfeppmfoegejhaaGreatDoorKDrD
import Derived.Test.YtfeppmfoegejhaaGreatDoorKDefD
import Derived.Test.YtfeppmfoegejhaaGreatDoorKWalk
import Derived.WalkKit
import Derived.ProofKit
import Derived.OpenShut
import Derived.ShutString
import Derived.ChangeOld
import Derived.Below
namespace Go.Proofs.YtfeppmfoegejhaaGreatDoor.fnChecked
open Go.ChangeShapes Go.WideShapes Go.ChangeAt Go.RowKit
open Go.ChangeMaps (open_string shut_string)
set_option linter.unusedVariables false
theorem laidOut : laidOutB Tryz.prog = true := by kernel_rfl
set_option maxRecDepth 100000 in
set_option maxHeartbeats 64000000 in
set_option maxHeartbeats 4000000 in
theorem walk (w : World) (a0 : Option Addr) (len0 cap0 : Nat) (z0 : List Int) (r0 : IsRow .u8 w a0 len0 cap0 z0) (hg : HandleAt w) :
  Calls Tryz.prog 4 #[.slice a0 len0 cap0] w fun e w' => e = .returned (.bool true) ∧ Below w.heap.size w w' := by
 have HR : Hid (IsRow .u8 w a0 len0 cap0 z0) := r0
 have HG : Hid (HandleAt w) := hg
 clear r0 hg
 go_enter Tryz.func4, Tryz.ntmps4
 go_wp2_with fail
 refine (big_any a0 len0 cap0 _).mono ?_
 rintro e w1 ⟨t, rfl, rfl⟩
 cases t with
 | true =>
  go_wp2_with fail
  go_ret
  exact ⟨rfl, Below.refl _ _⟩
 | false =>
  go_wp2_with fail
  refine (DrawCheck_any a0 len0 cap0 z0 _ HR.out).mono ?_
  rintro e w2 ⟨v, F, rfl, hF, hn0, hn9, b2⟩
  obtain ⟨n, HN⟩ : ∃ n, Hid (F.blocks.length = n) := ⟨_, rfl⟩
  obtain ⟨vals, HV⟩ : ∃ x, Hid (F.values = x) := ⟨_, rfl⟩
  have F2 : Hid (FnAt w2 v F) := FnAtLo.low (Nat.zero_le _) hF
  obtain ⟨ba, bcap, rfl⟩ := F2.out.out HN.out HV.out
  have B2 : Hid (Below w1.heap.size w1 w2) := b2
  clear hF b2 hn0 hn9
  obtain ⟨c, HC⟩ : ∃ c, Hid (checkOf F = c) := ⟨_, rfl⟩
  have hcc : (c != c) = false := by simp
  have hrg := check_range F
  rw [HC.out] at hrg
  obtain ⟨hr0, hr6⟩ := hrg
  go_wp2_with fail
  refine (impl_check _ F _ (F2.out.later (Bel.alloc _ _)) (HG.out.keep (Bel.after B2.out (Bel.alloc _ _)))).mono ?_
  rw [HC.out]
  rintro e w3 ⟨rfl, b3⟩
  have B3 : Hid (Below w1.heap.size w1 w3) := Bel.after (Bel.after B2.out (Bel.alloc _ _)) b3
  have F3 : Hid (FnAt w3 (.agg #[.slice ba n bcap, .int .i64 vals]) F) := (F2.out.later (Bel.alloc _ _)).later b3
  have c0 := box_cell b3 0
  have c1 := box_cell b3 1
  simp at c0 c1
  clear b3 F2 B2
  obtain ⟨FB, hFB⟩ : ∃ x, w2.heap.size = x := ⟨_, rfl⟩
  rw [hFB] at c0 c1 ⊢
  clear hFB
  go_wp2_with fail
  refine (spec_check _ F _ F3.out).mono ?_
  rw [HC.out]
  rintro e w4 ⟨rfl, b4⟩
  have B4 : Hid (Below w1.heap.size w1 w4) := Bel.after B3.out b4
  have F4 : Hid (FnAt w4 (.agg #[.slice ba n bcap, .int .i64 vals]) F) := F3.out.later b4
  have C0 : Hid (w4.cell? ⟨FB, 0, none⟩ = some (.slice ba n bcap)) := Bel.keeps b4 c0
  have C1 : Hid (w4.cell? ⟨FB, 1, none⟩ = some (.int .i64 vals)) := Bel.keeps b4 c1
  clear b4 F3 B3 c0 c1
  by_cases h0 : c = 0
  ·subst h0
   obtain ⟨hS, _, hA, hE, _, hO, hT⟩ := check_zero HC.out
   have HS : Hid (FnShape F) := hS
   have HA : Hid (AllReached F) := hA
   have HE : Hid (¬ EntryBad F) := hE
   have HO : Hid (MadeOnce F) := hO
   have HT : Hid (TakenAll F) := hT
   have hn16 : n ≤ 16 := by have := hS.2.1; have := HN.out; omega
   have hn1 : 1 ≤ n := by have := hS.1; have := HN.out; omega
   clear hS hA hE hO hT hr0 hr6
   go_wp2_with fail
   go_loopw [5] (fun i wr => ∃ k : Nat, k ≤ n ∧ i = .int .i64 (k : Int) ∧ Below w4.heap.size w4 wr) (fun i _ => n - (intOf i).toNat)
   case atStart => exact ⟨0, Nat.zero_le _, rfl, Below.refl _ _⟩
   case round =>
    obtain ⟨wq, hwq⟩ : ∃ x, x = wr := ⟨_, rfl⟩
    subst hwq
    obtain ⟨k, hk, rfl, hB⟩ := hrel
    have HB : Hid (Below w4.heap.size w4 wq) := hB
    have d0 := Bel.keeps hB C0.out
    have d1 := Bel.keeps hB C1.out
    clear hB
    by_cases hlt : (k : Int) < (n : Int)
    ·have hkn : k < n := by omega
     obtain ⟨x, hx⟩ : ∃ x, F.blocks[k]? = some x := ⟨_, List.getElem?_eq_getElem (by have := HN.out; omega)⟩
     have HX : Hid (F.blocks[k]? = some x) := hx
     obtain ⟨b, off, rfl, hat⟩ := (F4.out.later HB.out).blockC HN.out hkn hx
     obtain ⟨pv, lv, b0, b1, b2, b3, b4, b5, hps, hls⟩ := hat
     have HLS : Hid (ListAt 0 5 InsAt wq lv x.list) := hls
     obtain ⟨la, lcap, rfl, hlm, _⟩ := hls
     obtain ⟨nl, HNL⟩ : ∃ n, Hid (x.list.length = n) := ⟨_, rfl⟩
     rw [HNL.out] at b1 hlm HLS
     have L1 : Hid (wq.cell? ⟨b, off + k * 6 + 1, none⟩ = some (.slice la nl lcap)) := b1
     have hnl : nl ≤ 24 := by have := (HS.out.2.2.2.2 k x hx).2.1; have := HNL.out; omega
     clear hx b0 b1 b2 b3 b4 b5 hps
     go_wp2_with fail
     clear d0 d1
     go_loopw [6] (fun i wr => ∃ j : Nat, j ≤ nl ∧ i = .int .i64 (j : Int) ∧ Below wq.heap.size wq wr) (fun i _ => nl - (intOf i).toNat)
     case atStart => exact ⟨0, Nat.zero_le _, rfl, Below.refl _ _⟩
     case round =>
      obtain ⟨ws, hwq⟩ : ∃ x, x = wr := ⟨_, rfl⟩
      subst hwq
      obtain ⟨j, hj, rfl, hB⟩ := hrel
      have HBS : Hid (Below wq.heap.size wq ws) := hB
      have B4S : Hid (Below w4.heap.size w4 ws) := Bel.after HB.out hB
      have d0 := Bel.keeps B4S.out C0.out
      have d1 := Bel.keeps B4S.out C1.out
      have l1 := Bel.keeps hB L1.out
      clear hB
      by_cases hltj : (j : Int) < (nl : Int)
      ·obtain ⟨y, hy⟩ : ∃ y, x.list[j]? = some y := ⟨_, List.getElem?_eq_getElem (by have := HNL.out; omega)⟩
       obtain ⟨lb, loff, rfl, q0, q1, q2, q3, q4⟩ := listAt_at (HLS.out.keep (fun b o z hb h => h.keep (Keeps.of_below HBS.out 0) hb)) hy
       have HY : Hid (x.list[j]? = some y) := hy
       have HK : Hid (∀ v ∈ usesV y.op y.a y.b, Known F v k (j : Int)) := (HT.out k x HX.out).1 j y hy
       obtain ⟨op, yd, ya, yb, yn⟩ := y
       dsimp only at q0 q1 q2 q3 q4 HK
       clear hy
       go_wp2_with fail
       refine (impl_insUses op yd ya yb yn _).mono ?_
       rintro e w6 ⟨uv, ub, rfl, hub, hrow, b6⟩
       have B6 : Hid (Below ws.heap.size ws w6) := Bel.after (Bel.alloc _ _) b6
       have x0 := box_cell b6 0
       have x1 := box_cell b6 1
       have x2 := box_cell b6 2
       have x3 := box_cell b6 3
       have x4 := box_cell b6 4
       simp at x0 x1 x2 x3 x4
       obtain ⟨XB, hXB⟩ : ∃ x, ws.heap.size = x := ⟨_, rfl⟩
       rw [hXB] at x0 x1 x2 x3 x4 ⊢
       have X0 : Hid (w6.cell? ⟨XB, 0, none⟩ = some (.int .i64 op)) := x0
       have X1 : Hid (w6.cell? ⟨XB, 1, none⟩ = some (.int .i64 yd)) := x1
       have X2 : Hid (w6.cell? ⟨XB, 2, none⟩ = some (.int .i64 ya)) := x2
       have X3 : Hid (w6.cell? ⟨XB, 3, none⟩ = some (.int .i64 yb)) := x3
       have X4 : Hid (w6.cell? ⟨XB, 4, none⟩ = some (.int .i64 yn)) := x4
       have HRW : Hid (IntsAt w6 uv (usesV op ya yb)) := hrow.at
       have B46 : Hid (Below w4.heap.size w4 w6) := Bel.after B4S.out B6.out
       obtain ⟨un, HUN⟩ : ∃ q, Hid ((usesV op ya yb).length = q) := ⟨_, rfl⟩
       obtain ⟨ua, ucap, rfl, hul, _⟩ := hrow.at
       rw [HUN.out] at hul HRW ⊢
       clear hXB hub hrow b6 x0 x1 x2 x3 x4 d0 d1 l1 q0 q1 q2 q3 q4
       go_wp2_with fail
       go_loopw [9] (fun i wr => ∃ g : Nat, g ≤ un ∧ i = .int .i64 (g : Int) ∧ Below w6.heap.size w6 wr) (fun i _ => un - (intOf i).toNat)
       case atStart => exact ⟨0, Nat.zero_le _, rfl, Below.refl _ _⟩
       case round =>
        obtain ⟨wt, hwq⟩ : ∃ x, x = wr := ⟨_, rfl⟩
        subst hwq
        obtain ⟨g, hg, rfl, hB⟩ := hrel
        have HBT : Hid (Below w6.heap.size w6 wt) := hB
        have B4T : Hid (Below w4.heap.size w4 wt) := Bel.after B46.out hB
        have d0 := Bel.keeps B4T.out C0.out
        have d1 := Bel.keeps B4T.out C1.out
        clear hB
        by_cases hltg : (g : Int) < (un : Int)
        ·obtain ⟨vb, voff, rfl, uc⟩ := IntsAt.cells HRW.out _ HBT.out g (by omega)
         obtain ⟨xv, HXV⟩ : ∃ q, Hid ((usesV op ya yb).getD g 0 = q) := ⟨_, rfl⟩
         rw [HXV.out] at uc
         have HM : Hid (Known F xv k (j : Int)) := HK.out xv (by rw [← HXV.out]; exact ck_getD_mem (by have := HUN.out; omega))
         have HKL : Hid (((defAtOf F xv).1 = (k : Int) → (defAtOf F xv).2 < (j : Int)) ∧ ((defAtOf F xv).1 ≠ (k : Int) → dominatesOf F (defAtOf F xv).1 (k : Int) = true)) := known_law HS.out (by have := HN.out; omega) HM.out
         obtain ⟨p1, HP1⟩ : ∃ q, Hid ((defAtOf F xv).1 = q) := ⟨_, rfl⟩
         obtain ⟨p2, HP2⟩ : ∃ q, Hid ((defAtOf F xv).2 = q) := ⟨_, rfl⟩
         rw [HP1.out, HP2.out] at HKL
         go_wp2_with fail
         go_region_held3 (fun w' => w'.cell? ⟨FB, 0, none⟩ = some (.slice (some ⟨b, off, none⟩) n bcap) ∧ w'.cell? ⟨FB, 1, none⟩ = some (.int .i64 vals) ∧ w'.cell? ⟨vb, voff + g, none⟩ = some (.int .i64 xv)) (first | exact ⟨Bel.keeps B7.out d0, Bel.keeps B7.out d1, Bel.keeps B7.out uc⟩ | go_keep) (first | (go_at_call 20; refine (impl_defAt _ F xv _ (F4.out.later B4T.out.drew)).mono ?_; rintro e w7 ⟨rfl, b7⟩; have B7 : Hid (Below wt.heap.size wt w7) := Bel.after ((Below.refl _ _).drew) b7; rw [HP1.out, HP2.out]; clear b7))
         simp only [Exit.then]
         go_at_K
         have e0 := Bel.keeps B7.out d0
         have e1 := Bel.keeps B7.out d1
         have B47 : Hid (Below w4.heap.size w4 w7) := Bel.after B4T.out B7.out
         have B67 : Hid (Below w6.heap.size w6 w7) := Bel.after HBT.out B7.out
         clear d0 d1 uc
         by_cases hpe : p1 = (k : Int)
         ·have hlt2 : ¬ (j : Int) ≤ p2 := by have := HKL.out.1 hpe; omega
          subst hpe
          have hq1 : ((k : Int) == (k : Int)) = true := by simp
          have hq2 : ((k : Int) != (k : Int)) = false := by simp
          go_wp2_with fail
          go_roundw
          case rel => exact ⟨g + 1, by omega, by go_num, B67.out⟩
          case measure => simp [intOf]; omega
         ·have HD : Hid (dominatesOf F p1 (k : Int) = true) := HKL.out.2 hpe
          have hq1 : (p1 == (k : Int)) = false := by simp [hpe]
          have hq2 : (p1 != (k : Int)) = true := by simp [hpe]
          clear hpe
          go_wp2_with fail
          refine (impl_dominates _ F p1 (k : Int) _ (F4.out.later B47.out)).mono ?_
          rw [HD.out]
          rintro e w8 ⟨rfl, b8⟩
          have B68 : Hid (Below w6.heap.size w6 w8) := Bel.after B67.out b8
          clear b8 e0 e1
          go_wp2_with fail
          go_roundw
          case rel => exact ⟨g + 1, by omega, by go_num, B68.out⟩
          case measure => simp [intOf]; omega
        ·have y0 := Bel.keeps HBT.out X0.out
         have y1 := Bel.keeps HBT.out X1.out
         have y2 := Bel.keeps HBT.out X2.out
         have y3 := Bel.keeps HBT.out X3.out
         have y4 := Bel.keeps HBT.out X4.out
         go_wp2_with fail
         refine (impl_defAt _ F yd _ (F4.out.later B4T.out)).mono ?_
         obtain ⟨p1, HP1⟩ : ∃ q, Hid ((defAtOf F yd).1 = q) := ⟨_, rfl⟩
         obtain ⟨p2, HP2⟩ : ∃ q, Hid ((defAtOf F yd).2 = q) := ⟨_, rfl⟩
         rintro e w7 ⟨rfl, b7⟩
         rw [HP1.out, HP2.out]
         have B47 : Hid (Below w4.heap.size w4 w7) := Bel.after B4T.out b7
         have BQ7 : Hid (Below wq.heap.size wq w7) := Bel.after (Bel.after HBS.out B6.out) (Bel.after HBT.out b7)
         replace y0 := Bel.keeps b7 y0
         replace y1 := Bel.keeps b7 y1
         replace y2 := Bel.keeps b7 y2
         replace y3 := Bel.keeps b7 y3
         replace y4 := Bel.keeps b7 y4
         clear b7 d0 d1
         go_wp2_with fail
         refine (impl_insDef op yd ya yb yn _).mono ?_
         obtain ⟨dv, HDV⟩ : ∃ q, Hid (insDefV op yd = q) := ⟨_, rfl⟩
         rw [HDV.out]
         rintro e w8 ⟨rfl, b8⟩
         have BQ8 : Hid (Below wq.heap.size wq w8) := Bel.after BQ7.out b8
         clear b8 y0 y1 y2 y3 y4
         by_cases hdv : 0 ≤ dv
         ·have hme := made_at HS.out HO.out HX.out HY.out (by rw [show insDefV _ _ = dv from HDV.out]; exact hdv)
          have hp1 : p1 = (k : Int) := by rw [← HP1.out]; exact congrArg Prod.fst hme
          have hp2 : p2 = (j : Int) := by rw [← HP2.out]; exact congrArg Prod.snd hme
          subst hp1
          subst hp2
          have hq1 : ((k : Int) != (k : Int)) = false := by simp
          have hq2 : ((j : Int) != (j : Int)) = false := by simp
          clear hme
          go_wp2_with fail
          go_roundw
          case rel => exact ⟨j + 1, by omega, by go_num, BQ8.out⟩
          case measure => simp [intOf]; omega
         ·go_wp2_with fail
          go_roundw
          case rel => exact ⟨j + 1, by omega, by go_num, BQ8.out⟩
          case measure => simp [intOf]; omega
      ·go_wp2_with fail
       go_roundw
       case rel => exact ⟨k + 1, by omega, by go_num, B4S.out⟩
       case measure => simp [intOf]; omega
    ·obtain ⟨x, hx⟩ : ∃ x, F.blocks[0]? = some x := ⟨_, List.getElem?_eq_getElem (by have := HN.out; omega)⟩
     have HP : Hid (predsOf F 0 = []) := by
      show _ = _
      rw [predsOf_yes HS.out (Int.le_refl _) (by have := HN.out; omega)]
      exact List.length_eq_zero_iff.1 (by
       rcases Nat.eq_zero_or_pos (predsN F 0).length with h | h
       ·exact h
       ·exact absurd (.inr h) HE.out)
     have HOL : Hid ((orderOf F).length = n) := by
      show _ = _
      rw [orderOf_yes HS.out, List.length_reverse, (all_reached HS.out).2 HA.out]
      exact HN.out
     clear hx
     have hnn : ((n : Int) == (n : Int)) = true := by simp
     go_wp2_with fail
     go_region_held3 (fun w' => w'.cell? ⟨FB, 0, none⟩ = some (.slice ba n bcap) ∧ w'.cell? ⟨FB, 1, none⟩ = some (.int .i64 vals)) (first | exact ⟨Bel.keeps B6.out d0, Bel.keeps B6.out d1⟩ | exact ⟨Bel.keeps B5.out d0, Bel.keeps B5.out d1⟩ | go_keep) (first | (go_at_call 23; refine (impl_preds _ F 0 _ (F4.out.later HB.out.drew)).mono ?_; rw [HP.out]; rintro e w5 ⟨pv, rfl, hp, b5⟩; have B5 : Hid (Below wq.heap.size wq w5) := Bel.after ((Below.refl _ _).drew) b5; obtain ⟨pa, pcap, rfl, hpl, _⟩ := hp.at; clear hp b5) | (go_at_call 11; refine (impl_order _ F _ (F4.out.later (Bel.after HB.out B5.out))).mono ?_; rintro e w6 ⟨ov, rfl, ho, b6⟩; have B6 : Hid (Below wq.heap.size wq w6) := Bel.after B5.out b6; obtain ⟨oa, ocap, rfl, hol, _⟩ := ho.at; rw [HOL.out] at hol ⊢; clear ho b6))
     simp only [Exit.then]
     go_at_K
     go_wp2_with fail
     go_ret
     exact ⟨rfl, Bel.after (Bel.after B4.out HB.out) B6.out⟩
  ·have h1 : (c != 0) = true := by simp [h0]
   have h2 : (1 : Int) ≤ c := by omega
   clear h0 hr0
   go_wp2_with fail
   go_ret
   exact ⟨rfl, B4.out⟩
set_option maxRecDepth 100000 in
theorem lifted (os : Os) (started : os.Started) (H : Type) (enc : TypeId × Value → H) :
  ReturnsInHanded {} Tryz.checked os 4 .any (fun w args => (Rows.fnCheckedSpec.pre enc Tryz.prog Tryz.f4 [] false w args ∧ laidMetH Tryz.prog Rows.fnCheckedRow.laid w) ∧ sizedMet enc Tryz.prog Tryz.f4 (OpenSpec.ofChange Rows.fnCheckedSpec) false w args)
   (Rows.fnCheckedSpec.post enc Tryz.prog Tryz.f4 false true false false) := by
 refine returnsInHanded_of_change_and (C := Tryz.checked) (X := fun w _ => laidMetH Tryz.prog Rows.fnCheckedRow.laid w) (fun _ _ _ hh h => h.of_heap hh) own started (by kernel_rfl) Tryz.func4
  (ChangeSpec.witness_at (enc := enc) (C := Tryz.checked) (os := os) (X := fun w _ => laidMetH Tryz.prog Rows.fnCheckedRow.laid w) false (laidWorld os) #[.slice none 0 0] 8 rfl (by kernel_rfl) (by kernel_rfl) (by kernel_rfl) (by kernel_rfl) (by kernel_rfl) (laidWorld_met os _)) ?_
 intro W base args ds gs before hval0 hW _ _ hL _
 have hval : ∀ (j : Nat) t v, Tryz.f4.params[j]? = some t → args[j]? = some v → Value.okWide Tryz.prog W .any base t v := hval0
 have hW' := hW
 obtain ⟨p, q, hA0, hV, rfl, hfz, hnd⟩ := hW
 have hA : DataW.TrodAll enc Tryz.prog W 0 (fun _ => true) true Tryz.f4.params.toList args.toList ds p := hA0
 rw [Tryz.params4] at hA hval
 obtain ⟨v0, vs0, d0, ds0, p0, q0, hargs, rfl, rfl, h0, r0x⟩ := trodAll_cons hA
 obtain ⟨rfl, rfl, rfl⟩ := trodAll_nil r0x
 obtain rfl : args = #[v0] := by cases args; simp_all
 obtain ⟨rfl, rfl⟩ := trodVars_none hV
 have hg := of_laid hL
 have k0 := h0
 have lt0 : ∀ x ∈ p0, x.block < W.heap.size := by obtain ⟨m, hm⟩ := k0; exact DataW.trod_lt m _ _ _ hm
 obtain ⟨a0, len0, cap0, rfl⟩ := okWide_slice Tryz.underlying22 (hval 0 22 v0 rfl rfl)
 obtain ⟨z0, r0⟩ : ∃ zs, IsRow .u8 W a0 len0 cap0 zs := by
  obtain ⟨fuel, hf⟩ := h0
  rcases open_ints Tryz.underlying22 Tryz.underlying5 (by kernel_rfl) hf with ⟨hcs, _⟩ | ⟨x, l, c, zs, hcs, _, hl, hm, hz, _, hcell, hwz⟩
  ·simp [Value.cells] at hcs
   obtain ⟨rfl, rfl, rfl⟩ := hcs
   exact ⟨[], .inl ⟨rfl, rfl, rfl, rfl⟩⟩
  ·simp [Value.cells] at hcs
   obtain ⟨rfl, rfl, rfl⟩ := hcs
   exact ⟨zs, .inr ⟨_, rfl, hl, hm, by simpa using hz, hcell, hwz⟩⟩
 clear hA0 hval0
 refine (walk W a0 len0 cap0 z0 r0 hg).mono fun e W' ⟨he, bel⟩ => ?_
 subst he
 exact ⟨_, rfl, _, _, _, [], _, [], hW', trodAll_mk1 (shut_bool Tryz.underlying4 _), (trodAll_cons_mk (Below.trod laidOut (by kernel_rfl) (of_decide_eq_true (by kernel_rfl)) k0 bel lt0) trodAll_mk0), rfl, bel.frame _, fun h => by cases h⟩
theorem over : Rows.fnCheckedRow.holds Tryz.pinned (OpenSpec.ofChange Rows.fnCheckedSpec) :=
 OpenClaim.holds_of_wide 4 Tryz.f4 rfl rfl rfl rfl rfl rfl rfl ⟨rfl, rfl, rfl, rfl, rfl⟩ rfl rfl rfl rfl rfl (by kernel_rfl) Tryz.func4 (by kernel_rfl)
  (of_decide_eq_true (by kernel_rfl)) (by unfold Func.isWrapper; first | (rw [if_pos (by decide +kernel)]; kernel_rfl) | (rw [if_neg (by decide +kernel)]; exact ⟨rfl, rfl⟩))
  (fun os started H enc _ => lifted os started H enc)
theorem proved : Rows.FnCheckedCardSaid :=
 Claim7.holds_tied_plain_at .later [] [.handle] true Rows.fnCheckedCard.stood.harness true
  over (fun _ h => by cases h) (by kernel_rfl) (fun _ h => by cases h) fnChecked_row_tie rfl ⟨rfl, rfl⟩ (by kernel_rfl) rfl
  (fun f fn hf hfn => by
   obtain rfl : f = 4 := Option.some.inj ((show Tryz.prog.funcNamed Rows.fnCheckedRow.func = some 4 by kernel_rfl).symm.trans hf) |>.symm
   obtain rfl : fn = Tryz.f4 := (Option.some.inj (Tryz.func4.symm.trans hfn)).symm
   exact ⟨by kernel_rfl, fun j t ht => by
    rw [Tryz.params4] at ht
    have hm : t ∈ [22] := by simpa using Array.mem_of_getElem? ht
    have hall : ([22].all fun u => !Tryz.prog.wantsStandIn u) = true := by kernel_rfl
    exact (show Tryz.prog.wantsStandIn t = false by simpa using List.all_eq_true.1 hall t hm)⟩)
  (by kernel_rfl)
#print axioms proved
end Go.Proofs.YtfeppmfoegejhaaGreatDoor.fnChecked
