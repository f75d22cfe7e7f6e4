/- Proved: for every program, every list that is read and every fuel impl.Run answers what spec.Run answers, in memory of its own, and writes into no argument; no condition. -/
import Derived.Test.YtkpddakmcnknjaaRows
import Derived.Test.YtkpddakmcnknjaaSpecRun
import Derived.Test.YtkpddakmcnknjaaRunLen
import Derived.Test.YtkpddakmcnknjaaToInts
import Derived.Test.YtkpddakmcnknjaaTo
import Derived.Test.YtkpddakmcnknjaaSz
import Derived.Test.YtkpddakmcnknjaaEq
import Derived.Test.YtkpddakmcnknjaaMark2
import Derived.Test.YtkpddakmcnknjaaOwnMore
import Derived.Test.YtkpddakmcnknjaaDraw
import Derived.WalkKit
import Derived.ProofKit
import Derived.OpenShut
import Derived.ShutString
import Derived.ChangeOld
import Derived.Below
namespace Go.Proofs.Ytkpddakmcnknjaa.fnExactRun
open Go.ChangeShapes Go.WideShapes Go.ChangeAt Go.RowKit
open Go.ChangeMaps (open_string shut_string)
set_option linter.unusedVariables false

theorem own : ownKnob Try.prog.godebug = none := by kernel_rfl
theorem laidOut : laidOutB Try.prog = true := by kernel_rfl

set_option maxHeartbeats 4000000 in
theorem walk (w : World) (v0 : Value) (F0 : FnD) (hF0 : FnAt w v0 F0) (a1 : Option Addr) (len1 cap1 : Nat) (z1 : List Int) (r1 : IsRow .i64 w a1 len1 cap1 z1) (a2 : Int) (wf2 : (Lit.int .i64 a2).wf = true) :
    Calls Try.prog 6 #[v0, .slice a1 len1 cap1, .int .i64 a2] w fun e w' => e = .returned (.bool true) ∧ Below w.heap.size w w' := by
  have HF : Hid (FnAt w v0 F0) := hF0
  have HRW : Hid (IsRow .i64 w a1 len1 cap1 z1) := r1
  obtain ⟨n, HN⟩ : ∃ n, Hid (F0.blocks.length = n) := ⟨_, rfl⟩
  obtain ⟨vals, HV⟩ : ∃ x, Hid (F0.values = x) := ⟨_, rfl⟩
  obtain ⟨ba, bcap, rfl⟩ := hF0.out HN.out HV.out
  clear hF0 r1
  obtain ⟨RD, HRD⟩ : ∃ L, Hid (z1.take len1 = L) := ⟨_, rfl⟩
  have HRL : Hid (RD.length ≤ len1) := by show RD.length ≤ len1; rw [← HRD.out, List.length_take]; omega
  obtain ⟨⟨L, hw, en⟩, HL⟩ : ∃ p, Hid (runOf F0 RD a2 = p) := ⟨_, rfl⟩
  have hlen : L.length ≤ 6000 := by have h := runOf_len F0 RD a2; rw [HL.out] at h; exact h
  have hdw : (hw != hw) = false := by simp
  have hde : (en != en) = false := by simp
  obtain ⟨wA, hwA⟩ : ∃ wA, w.alloc (.cells #[.slice ba n bcap, .int .i64 vals] 45) = wA := ⟨_, rfl⟩
  have hsA : wA.heap.size = w.heap.size + 1 := by rw [← hwA]; simp
  have HwA : Hid (Below w.heap.size w wA) := by rw [← hwA]; exact Bel.alloc _ _
  have b0 : wA.cell? ⟨w.heap.size, 0, none⟩ = some (.slice ba n bcap) := by rw [← hwA]; simp [go_sem]
  have b1' : wA.cell? ⟨w.heap.size, 1, none⟩ = some (.int .i64 vals) := by rw [← hwA]; simp [go_sem]
  have HA0 : Hid (wA.cell? ⟨w.heap.size, 0, none⟩ = some (.slice ba n bcap)) := b0
  have HA1 : Hid (wA.cell? ⟨w.heap.size, 1, none⟩ = some (.int .i64 vals)) := b1'
  by_cases hbig : (1048576 : Int) < (len1 : Int)
  · go_enter Try.func6, Try.ntmps6
    go_wp2_with fail
    go_ret
    try rw [hwA]
    exact ⟨rfl, HwA.out⟩
  have hlr : len1 ≤ 1048576 := by omega
  have HLR : Hid (RD.length ≤ 2000000) := by have := HRL.out; show RD.length ≤ 2000000; omega
  go_enter Try.func6, Try.ntmps6
  go_wp2_with fail
  try rw [hwA]
  clear hwA
  refine (szFn_any _ F0 1048576 _ (HF.out.later HwA.out) (by omega) (by omega)).mono ?_
  rintro e w1 ⟨r, rfl, hr0, hr1, hsm, b1⟩
  have HSM : Hid (0 ≤ r → FnSmall F0) := hsm
  have B1 : Hid (Below wA.heap.size wA w1) := b1
  replace b0 := Bel.keeps b1 b0
  replace b1' := Bel.keeps b1 b1'
  clear b1 hsm
  by_cases hr : r < 0
  · go_wp2_with fail
    go_ret
    exact ⟨rfl, Bel.after HwA.out B1.out⟩
  · have HS : Hid (FnSmall F0) := HSM.out (by omega)
    go_wp2_with fail
    refine (toFn_any _ F0 _ (HF.out.later (Bel.after HwA.out B1.out)) HS.out).mono ?_
    rintro e w2 ⟨v1, rfl, hf1, b2, _⟩
    have F1 : Hid (FnAt w2 v1 F0) := FnAtLo.low (Nat.zero_le _) hf1
    have B2 : Hid (Below wA.heap.size wA w2) := Bel.after B1.out b2
    replace b0 := Bel.keeps b2 b0
    replace b1' := Bel.keeps b2 b1'
    clear b2 hf1
    go_wp2_with fail
    refine (toIntS_any a1 len1 cap1 z1 _ (HRW.out.after (Bel.after HwA.out B2.out)) hlr).mono ?_
    rw [HRD.out]
    rintro e w2b ⟨rv0, rfl, or0, b2b⟩
    have OR0 : Hid (OwnInts w2b w2.heap.size rv0 RD) := or0
    have F1b : Hid (FnAt w2b v1 F0) := F1.out.later b2b
    have B2b : Hid (Below wA.heap.size wA w2b) := Bel.after B2.out b2b
    replace b0 := Bel.keeps b2b b0
    replace b1' := Bel.keeps b2b b1'
    clear b2b or0
    go_wp2_with fail
    refine (spec_run v1 rv0 F0 RD a2 _ F1b.out OR0.out.reads HLR.out).mono ?_
    rw [HL.out]
    dsimp only [GivesTold]
    rintro e w3 ⟨g0, rfl, o0, b3⟩
    have O0 : Hid (OwnInts w3 w2b.heap.size g0 L) := o0
    have B3 : Hid (Below wA.heap.size wA w3) := Bel.after B2b.out b3
    replace b0 := Bel.keeps b3 b0
    replace b1' := Bel.keeps b3 b1'
    clear b3 o0
    go_wp2_with fail
    refine (toFn_any _ F0 _ (HF.out.later (Bel.after HwA.out B3.out)) HS.out).mono ?_
    rintro e w4 ⟨v2, rfl, hf2, b4, z4⟩
    have F2 : Hid (FnAtLo w3.heap.size w4 v2 F0) := hf2
    have Z4 : Hid (FZ w3 w4) := z4
    have B4 : Hid (Below wA.heap.size wA w4) := Bel.after B3.out b4
    have O04 : Hid (OwnInts w4 w2b.heap.size g0 L) := O0.out.keep b4
    have hs34 : w3.heap.size ≤ w4.heap.size := b4.size
    replace b0 := Bel.keeps b4 b0
    replace b1' := Bel.keeps b4 b1'
    clear b4 hf2 z4
    have F4 : Hid (FnAt w4 v2 F0) := FnAtLo.low (Nat.zero_le _) F2.out
    obtain ⟨ba2, bcap2, rfl⟩ := FnAt.out F4.out HN.out HV.out
    go_wp2_with fail
    obtain ⟨wB, hwB⟩ : ∃ wB, w4.alloc (.cells #[.slice ba2 n bcap2, .int .i64 vals] 26) = wB := ⟨_, rfl⟩
    have HwB : Hid (Below w4.heap.size w4 wB) := by rw [← hwB]; exact Bel.alloc _ _
    have hsB : wB.heap.size = w4.heap.size + 1 := by rw [← hwB]; simp
    have x0 : wB.cell? ⟨w4.heap.size, 0, none⟩ = some (.slice ba2 n bcap2) := by rw [← hwB]; simp [go_sem]
    have x1 : wB.cell? ⟨w4.heap.size, 1, none⟩ = some (.int .i64 vals) := by rw [← hwB]; simp [go_sem]
    try rw [hwB]
    clear hwB
    have FB : Hid (FnAt wB (.agg #[.slice ba2 n bcap2, .int .i64 vals]) F0) := F4.out.later HwB.out
    have BAB : Hid (Below wA.heap.size wA wB) := Bel.after B4.out HwB.out
    have O0B : Hid (OwnInts wB w2b.heap.size g0 L) := O04.out.keep HwB.out
    replace b0 := Bel.keeps HwB.out b0
    replace b1' := Bel.keeps HwB.out b1'
    refine (toIntS_any a1 len1 cap1 z1 _ (HRW.out.after (Bel.after HwA.out BAB.out)) hlr).mono ?_
    rw [HRD.out]
    rintro e wC ⟨xv, rfl, ox, bC⟩
    have OX : Hid (OwnInts wC wB.heap.size xv RD) := ox
    have BBC : Hid (Below wB.heap.size wB wC) := bC
    have FC : Hid (FnAt wC (.agg #[.slice ba2 n bcap2, .int .i64 vals]) F0) := FB.out.later bC
    have O0C : Hid (OwnInts wC w2b.heap.size g0 L) := O0B.out.keep bC
    have hsC : wB.heap.size ≤ wC.heap.size := bC.size
    replace b0 := Bel.keeps bC b0
    replace b1' := Bel.keeps bC b1'
    replace x0 := Bel.keeps bC x0
    replace x1 := Bel.keeps bC x1
    clear bC ox
    go_wp2_with fail
    refine (impl_run _ xv F0 RD a2 _ FC.out OX.out.reads).mono ?_
    rw [HL.out]
    dsimp only [GivesTold]
    rintro e w5 ⟨g1, rfl, o1, b5⟩
    have O1 : Hid (OwnInts w5 wC.heap.size g1 L) := o1
    have BB5 : Hid (Below wB.heap.size wB w5) := Bel.after BBC.out b5
    have O05 : Hid (OwnInts w5 w2b.heap.size g0 L) := O0C.out.keep b5
    have OX5 : Hid (OwnInts w5 wB.heap.size xv RD) := OX.out.keep b5
    replace b0 := Bel.keeps b5 b0
    replace b1' := Bel.keeps b5 b1'
    replace x0 := Bel.keeps b5 x0
    replace x1 := Bel.keeps b5 x1
    have hC5 : wC.heap.size ≤ w5.heap.size := b5.size
    clear b5 o1
    have hd : decide (L = L) = true := by simp
    have hdr : decide (RD = RD) = true := by simp
    go_wp2_with fail
    refine (eqIntS_any g1 g0 _ _ _ O1.out.at O05.out.at).mono ?_
    rintro e w6 ⟨rfl, b6⟩
    have BB6 : Hid (Below wB.heap.size wB w6) := Bel.after BB5.out b6
    have O16 : Hid (OwnInts w6 wC.heap.size g1 L) := O1.out.keep b6
    have O06 : Hid (OwnInts w6 w2b.heap.size g0 L) := O05.out.keep b6
    have OX6 : Hid (OwnInts w6 wB.heap.size xv RD) := OX5.out.keep b6
    replace b0 := Bel.keeps b6 b0
    replace b1' := Bel.keeps b6 b1'
    replace x0 := Bel.keeps b6 x0
    replace x1 := Bel.keeps b6 x1
    have h56 : w5.heap.size ≤ w6.heap.size := b6.size
    clear b6
    have BA6 : Hid (Below wA.heap.size wA w6) := Bel.after BAB.out BB6.out
    go_wp2
    go_region_with (first | (go_at_call 21; refine (toFn_any _ F0 _ (HF.out.later (Bel.after HwA.out (by first | exact BA6.out.drew | exact BA6.out))) HS.out).mono ?_; rintro e w7 ⟨v3, rfl, hf3, b7, _⟩; have F3 : Hid (FnAt w7 v3 F0) := FnAtLo.low (Nat.zero_le _) hf3; have H67 : Hid (Below w6.heap.size w6 w7) := Bel.after (by first | exact (Below.refl _ _).drew | exact Below.refl _ _) b7; have F7 : Hid (FnAt w7 (.agg #[.slice ba2 n bcap2, .int .i64 vals]) F0) := (FB.out.later BB6.out).later H67.out; have y0 := Bel.keeps b7 x0; have y1 := Bel.keeps b7 x1; clear b7 hf3) | (go_at_call 24; refine (eqFn_same _ _ F0 _ (Hid.out (by assumption)) (Hid.out (by assumption))).mono ?_; rintro e w8 ⟨rfl, b8⟩; have H68 : Hid (Below w6.heap.size w6 w8) := Bel.after (Hid.out (by assumption)) b8; clear b8))
    all_goals
      have HB8 : Hid (Below w6.heap.size w6 w8) := by assumption
      have O18 : Hid (OwnInts w8 wC.heap.size g1 L) := O16.out.keep HB8.out
      have O08 : Hid (OwnInts w8 w2b.heap.size g0 L) := O06.out.keep HB8.out
      have OX8 : Hid (OwnInts w8 wB.heap.size xv RD) := OX6.out.keep HB8.out
      have BB8 : Hid (Below wB.heap.size wB w8) := Bel.after BB6.out HB8.out
      have BA8 : Hid (Below wA.heap.size wA w8) := Bel.after BA6.out HB8.out
      replace b0 := Bel.keeps HB8.out b0
      replace b1' := Bel.keeps HB8.out b1'
      replace x0 := Bel.keeps HB8.out x0
      replace x1 := Bel.keeps HB8.out x1
      have h68 : w6.heap.size ≤ w8.heap.size := HB8.out.size
      clear HB8
      go_wp2_with fail
      refine (toIntS_any a1 len1 cap1 z1 _ (HRW.out.after (Bel.after HwA.out BA8.out)) hlr).mono ?_
      rw [HRD.out]
      rintro e wD ⟨dv, rfl, od, bD⟩
      have OD : Hid (IntsAt wD dv RD) := od.at
      have O1D : Hid (OwnInts wD wC.heap.size g1 L) := O18.out.keep bD
      have O0D : Hid (OwnInts wD w2b.heap.size g0 L) := O08.out.keep bD
      have OXD : Hid (OwnInts wD wB.heap.size xv RD) := OX8.out.keep bD
      have BBD : Hid (Below wB.heap.size wB wD) := Bel.after BB8.out bD
      have BAD : Hid (Below wA.heap.size wA wD) := Bel.after BA8.out bD
      replace b0 := Bel.keeps bD b0
      replace b1' := Bel.keeps bD b1'
      replace x0 := Bel.keeps bD x0
      replace x1 := Bel.keeps bD x1
      have h8D : w8.heap.size ≤ wD.heap.size := bD.size
      clear bD od
      go_wp2_with fail
      refine (eqIntS_any xv dv _ _ _ OXD.out.at OD.out).mono ?_
      rintro e wE ⟨rfl, bE⟩
      have O1E : Hid (OwnInts wE wC.heap.size g1 L) := O1D.out.keep bE
      have O0E : Hid (OwnInts wE w2b.heap.size g0 L) := O0D.out.keep bE
      have OXE : Hid (OwnInts wE wB.heap.size xv RD) := OXD.out.keep bE
      have BBE : Hid (Below wB.heap.size wB wE) := Bel.after BBD.out bE
      have BAE : Hid (Below wA.heap.size wA wE) := Bel.after BAD.out bE
      have M8 : Hid (FnM w3.heap.size w4.heap.size wE (.agg #[.slice ba2 n bcap2, .int .i64 vals]) n vals) := by
        have h := F2.out.m HS.out
        rw [HN.out, HV.out] at h
        exact h.later (Bel.after HwB.out BBE.out)
      have T8 : Hid (Thaw w3.heap.size w4.heap.size wE) := fun p h1 h2 => by
        rw [(Bel.after HwB.out BBE.out).frozen h2]
        exact Z4.out.new h1
      have hn : n ≤ 1048576 := by have := HS.out.1; rw [HN.out] at this; exact this
      have hs8 : w4.heap.size + 1 ≤ wE.heap.size := by have := BBE.out.size; omega
      replace b0 := Bel.keeps bE b0
      replace b1' := Bel.keeps bE b1'
      replace x0 := Bel.keeps bE x0
      replace x1 := Bel.keeps bE x1
      have hDE : wD.heap.size ≤ wE.heap.size := bE.size
      clear bE
      go_wp2_with fail
      refine (markFn_top w3.heap.size w4.heap.size _ n vals 1 _ M8.out T8.out hn (by omega) (by omega) (by omega) (by omega)).mono ?_
      rintro e w9 ⟨z, rfl, hz0, hz1, mk⟩
      have MK : Hid (Marked w3.heap.size w4.heap.size wE w9) := mk
      have O19 : Hid (OwnInts w9 wC.heap.size g1 L) := O1E.out.marked mk (fun b hb => .inr (by have := (O1E.out.lt b hb).1; omega))
      have O09 : Hid (OwnInts w9 w2b.heap.size g0 L) := O0E.out.marked mk (fun b hb => .inl (O0.out.lt b hb).2)
      have OX9 : Hid (OwnInts w9 wB.heap.size xv RD) := OXE.out.marked mk (fun b hb => .inr (by have := (OXE.out.lt b hb).1; omega))
      have hsA3 : wA.heap.size ≤ w3.heap.size := B3.out.size
      have BA9 : Hid (Below wA.heap.size wA w9) := BAE.out.trans (mk.bel.mono hsA3)
      replace b0 := (BA9.out.cell (p := ⟨w.heap.size, 0, none⟩) (by show w.heap.size < wA.heap.size; omega)).trans HA0.out
      replace b1' := (BA9.out.cell (p := ⟨w.heap.size, 1, none⟩) (by show w.heap.size < wA.heap.size; omega)).trans HA1.out
      have hs9 : wB.heap.size ≤ w9.heap.size := by have := mk.bel.size; omega
      clear mk x0 x1
      obtain ⟨rn, HRN⟩ : ∃ q, Hid (RD.length = q) := ⟨_, rfl⟩
      have hrn : rn ≤ 1048576 := by have := HRL.out; have := HRN.out; omega
      go_wp2_with fail
      refine (markIntS_apart wB.heap.size xv RD z _ OX9.out hs9 hz0 (by have := HRN.out; omega)).mono ?_
      rw [HRN.out]
      rintro e w9b ⟨rfl, b9b, _, ap⟩
      have O19b : Hid (OwnInts w9b wC.heap.size g1 L) := O19.out.apartM ap (fun b h1 h2 => by have q1 := (OX.out.lt b h1).2; have q2 := (O19.out.lt b h2).1; omega)
      have O09b : Hid (OwnInts w9b w2b.heap.size g0 L) := O09.out.apartM ap (fun b h1 h2 => by have q1 := (OX.out.lt b h1).1; have q2 := (O0.out.lt b h2).2; omega)
      have BA9b : Hid (Below wA.heap.size wA w9b) := BA9.out.trans (b9b.mono (by omega))
      have hs9b : w9.heap.size ≤ w9b.heap.size := b9b.size
      replace b0 := (BA9b.out.cell (p := ⟨w.heap.size, 0, none⟩) (by show w.heap.size < wA.heap.size; omega)).trans HA0.out
      replace b1' := (BA9b.out.cell (p := ⟨w.heap.size, 1, none⟩) (by show w.heap.size < wA.heap.size; omega)).trans HA1.out
      have hC9 : wC.heap.size ≤ w9.heap.size := by
        have q1 := MK.out.bel.size
        omega
      clear b9b ap
      have hzp : 0 ≤ z + (rn : Int) := by omega
      have hzq : ¬ z + (rn : Int) < 0 := by omega
      obtain ⟨zk, hzk⟩ : ∃ zk, z + (rn : Int) = zk := ⟨_, rfl⟩
      rw [hzk] at hzp hzq ⊢
      clear hzk
      go_wp2_with fail
      refine (eqIntS_any g1 g0 _ _ _ O19b.out.at O09b.out.at).mono ?_
      rintro e w10 ⟨rfl, b10⟩
      have O110 : Hid (OwnInts w10 wC.heap.size g1 L) := O19b.out.keep b10
      have O010 : Hid (OwnInts w10 w2b.heap.size g0 L) := O09b.out.keep b10
      have BA10 : Hid (Below wA.heap.size wA w10) := Bel.after BA9b.out b10
      have hs10 : wC.heap.size ≤ w10.heap.size := Nat.le_trans hC9 (Nat.le_trans hs9b b10.size)
      replace b0 := Bel.keeps b10 b0
      replace b1' := Bel.keeps b10 b1'
      clear b10
      obtain ⟨ln, HLN⟩ : ∃ ln, Hid (L.length = ln) := ⟨_, rfl⟩
      have hln : ln ≤ 6000 := by rw [← HLN.out]; exact hlen
      go_wp2_with fail
      refine (markIntS_own wC.heap.size g1 L 1 _ O110.out hs10 (by omega) (by omega)).mono ?_
      rintro e w11 ⟨rfl, b11, r11⟩
      rw [HLN.out] at r11 ⊢
      have R11 : Hid (IntsAt w11 g1 (marks 1 ln)) := r11
      have R011 : Hid (IntsAt w11 g0 L) := O010.out.at.under b11 (fun b hb => by have := (O0.out.lt b hb).2; omega)
      have BA11 : Hid (Below wA.heap.size wA w11) := BA10.out.trans (b11.mono (by omega))
      replace b0 := (BA11.out.cell (p := ⟨w.heap.size, 0, none⟩) (by show w.heap.size < wA.heap.size; omega)).trans HA0.out
      replace b1' := (BA11.out.cell (p := ⟨w.heap.size, 1, none⟩) (by show w.heap.size < wA.heap.size; omega)).trans HA1.out
      clear b11 r11
      go_wp2_with fail
      refine (heldIntS_any g1 ln 1 _ R11.out (by omega) (by omega)).mono ?_
      rintro e w11' ⟨rfl, hw11⟩
      subst hw11
      go_wp2_with fail
      refine (toFn_any _ F0 _ (HF.out.later (Bel.after HwA.out BA11.out)) HS.out).mono ?_
      rintro e w12 ⟨v5, rfl, hf5, b12, _⟩
      have F5 : Hid (FnAt w12 v5 F0) := FnAtLo.low (Nat.zero_le _) hf5
      have R12 : Hid (IntsAt w12 g1 (marks 1 ln)) := R11.out.keep b12
      have R012 : Hid (IntsAt w12 g0 L) := R011.out.keep b12
      have BA12 : Hid (Below wA.heap.size wA w12) := Bel.after BA11.out b12
      clear b12 hf5 b0 b1'
      go_wp2_with fail
      refine (toIntS_any a1 len1 cap1 z1 _ (HRW.out.after (Bel.after HwA.out BA12.out)) hlr).mono ?_
      rw [HRD.out]
      rintro e wF ⟨yv, rfl, oy, bF⟩
      have OY : Hid (OwnInts wF w12.heap.size yv RD) := oy
      have FF : Hid (FnAt wF v5 F0) := F5.out.later bF
      have R1F : Hid (IntsAt wF g1 (marks 1 ln)) := R12.out.keep bF
      have R01F : Hid (IntsAt wF g0 L) := R012.out.keep bF
      have BAF : Hid (Below wA.heap.size wA wF) := Bel.after BA12.out bF
      clear bF oy
      go_wp2_with fail
      refine (impl_run v5 yv F0 RD a2 _ FF.out OY.out.reads).mono ?_
      rw [HL.out]
      dsimp only [GivesTold]
      rintro e w13 ⟨g2, rfl, o2, b13⟩
      have O2 : Hid (OwnInts w13 wF.heap.size g2 L) := o2
      have R13 : Hid (IntsAt w13 g1 (marks 1 ln)) := R1F.out.keep b13
      have R013 : Hid (IntsAt w13 g0 L) := R01F.out.keep b13
      have BA13 : Hid (Below wA.heap.size wA w13) := Bel.after BAF.out b13
      clear b13 o2
      go_wp2_with fail
      refine (eqIntS_any g2 g0 _ _ _ O2.out.at R013.out).mono ?_
      rintro e w14 ⟨rfl, b14⟩
      have R14 : Hid (IntsAt w14 g1 (marks 1 ln)) := R13.out.keep b14
      have BA14 : Hid (Below wA.heap.size wA w14) := Bel.after BA13.out b14
      clear b14
      go_wp2_with fail
      refine (heldIntS_any g1 ln 1 _ R14.out (by omega) (by omega)).mono ?_
      rintro e w14' ⟨rfl, hw14⟩
      subst hw14
      go_wp2_with fail
      go_ret
      exact ⟨rfl, Bel.after HwA.out BA14.out⟩

set_option maxRecDepth 100000 in
theorem lifted (os : Os) (started : os.Started) (H : Type) (enc : TypeId × Value → H) :
    ReturnsInHanded {} Try.checked os 6 .any (Rows.fnExactRunSpec.pre6 enc Try.prog Try.f6 Rows.fnExactRunRow.domain false) (Rows.fnExactRunSpec.post enc Try.prog Try.f6 false true false false) := by
  refine returnsInHanded_of_change (C := Try.checked) own started (by kernel_rfl) Try.func6
    (ChangeSpec.witness6 (enc := enc) (C := Try.checked) false ⟨#[], #[.agg #[.slice none 0 0, .int .i64 0], .slice none 0 0, .int .i64 0], []⟩ 8 (by kernel_rfl) (by kernel_rfl) (by kernel_rfl) (by kernel_rfl)) ?_
  intro W base args ds gs before hval0 hW hcnd _
  have hval : ∀ (j : Nat) t v, Try.f6.params[j]? = some t → args[j]? = some v → Value.okWide Try.prog W .any base t v := hval0
  have hW' := hW
  obtain ⟨p, q, hA0, hV, rfl, hfz, hnd⟩ := hW
  have hA : DataW.TrodAll enc Try.prog W 0 (fun _ => true) true Try.f6.params.toList args.toList ds p := hA0
  rw [Try.params6] at hA hval
  obtain ⟨v0, vs0, d0, ds0, p0, q0, hargs, rfl, rfl, h0, r0x⟩ := trodAll_cons hA
  obtain ⟨v1, vs1, d1, ds1, p1, q1, rfl, rfl, rfl, h1, r1x⟩ := trodAll_cons r0x
  obtain ⟨v2, vs2, d2, ds2, p2, q2, rfl, rfl, rfl, h2, r2x⟩ := trodAll_cons r1x
  obtain ⟨rfl, rfl, rfl⟩ := trodAll_nil r2x
  obtain rfl : args = #[v0, v1, v2] := by cases args; simp_all
  obtain ⟨rfl, rfl⟩ := trodVars_none hV
  have k0 := h0
  have lt0 : ∀ x ∈ p0, x.block < W.heap.size := by obtain ⟨m, hm⟩ := k0; exact DataW.trod_lt m _ _ _ hm
  have k1 := h1
  have lt1 : ∀ x ∈ p1, x.block < W.heap.size := by obtain ⟨m, hm⟩ := k1; exact DataW.trod_lt m _ _ _ hm
  have k2 := h2
  have lt2 : ∀ x ∈ p2, x.block < W.heap.size := by obtain ⟨m, hm⟩ := k2; exact DataW.trod_lt m _ _ _ hm
  obtain ⟨F0, hF0⟩ := openFn (hval 0 45 v0 rfl rfl) h0
  obtain ⟨a1, len1, cap1, rfl⟩ := okWide_slice Try.underlying27 (hval 1 27 v1 rfl rfl)
  obtain ⟨z1, r1⟩ : ∃ zs, IsRow .i64 W a1 len1 cap1 zs := by
    obtain ⟨fuel, hf⟩ := h1
    rcases open_ints Try.underlying27 Try.underlying3 (by kernel_rfl) hf with ⟨hcs, _⟩ | ⟨x, l, c, zs, hcs, _, hl, hm, hz, _, hcell, hwz⟩
    · simp [Value.cells] at hcs
      obtain ⟨rfl, rfl, rfl⟩ := hcs
      exact ⟨[], .inl ⟨rfl, rfl, rfl, rfl⟩⟩
    · simp [Value.cells] at hcs
      obtain ⟨rfl, rfl, rfl⟩ := hcs
      exact ⟨zs, .inr ⟨_, rfl, hl, hm, by simpa using hz, hcell, hwz⟩⟩
  obtain ⟨a2, rfl, _, _, wf2⟩ := open_int Try.underlying3 (hval 2 3 v2 rfl rfl) h2
  clear hA0 hval0
  refine (walk W v0 F0 hF0 a1 len1 cap1 z1 r1 a2 wf2).mono fun e W' ⟨he, bel⟩ => ?_
  subst he
  exact ⟨_, rfl, _, _, _, [], _, [], hW', trodAll_mk1 (shut_bool Try.underlying4 _), (trodAll_cons_mk (Below.trod laidOut (by kernel_rfl) (of_decide_eq_true (by kernel_rfl)) k0 bel lt0) (trodAll_cons_mk (Below.trod laidOut (by kernel_rfl) (of_decide_eq_true (by kernel_rfl)) k1 bel lt1) (trodAll_cons_mk (Below.trod laidOut (by kernel_rfl) (of_decide_eq_true (by kernel_rfl)) k2 bel lt2) trodAll_mk0))), rfl, bel.frame _, fun h => by cases h⟩

theorem over : Rows.fnExactRunRow.holds Try.pinned (OpenSpec.ofChange Rows.fnExactRunSpec) :=
  OpenClaim.holds_of_wide 6 Try.f6 rfl rfl rfl rfl rfl rfl rfl ⟨rfl, rfl, rfl, rfl, rfl⟩ rfl rfl rfl rfl rfl (by kernel_rfl) Try.func6 (by kernel_rfl)
    (of_decide_eq_true (by kernel_rfl)) (by unfold Func.isWrapper; first | (rw [if_pos (by decide +kernel)]; kernel_rfl) | (rw [if_neg (by decide +kernel)]; exact ⟨rfl, rfl⟩))
    (fun os started H enc _ => lifted os started H enc)

/-- The statement. -/
theorem proved : Rows.FnExactRunSaid := over
#print axioms proved
end Go.Proofs.Ytkpddakmcnknjaa.fnExactRun
