/- Proved: for every program and list of numbers the program's Renamed answers as the model's, every field and the flag, in memory of its own, each list apart, and writes into no argument; no condition. -/
import Derived.Test.YtldcohhifmpedaaGreatRows
import Derived.Test.YtldcohhifmpedaaGreatKIns
import Derived.Test.YtldcohhifmpedaaGreatKTo
import Derived.Test.YtldcohhifmpedaaGreatKEq
import Derived.Test.YtldcohhifmpedaaGreatKMark
import Derived.Test.YtldcohhifmpedaaGreatToI2K
import Derived.Test.YtldcohhifmpedaaGreatKOwR
import Derived.Test.YtldcohhifmpedaaGreatKRnI
import Derived.WalkKit
import Derived.ProofKit
import Derived.OpenShut
import Derived.ShutString
import Derived.ChangeOld
import Derived.Below
namespace Go.Proofs.YtldcohhifmpedaaGreat.fnExactRenamed
open Go.ChangeShapes Go.WideShapes Go.ChangeAt Go.RowKit
open Go.ChangeMaps (open_string shut_string)
set_option linter.unusedVariables false

theorem own : ownKnob Tryz.prog.godebug = none := by kernel_rfl
theorem laidOut : laidOutB Tryz.prog = true := by kernel_rfl

set_option maxHeartbeats 4000000 in
theorem walk (w : World) (v0 : Value) (F0 : FnD) (hF0 : FnAt w v0 F0) (a1 : Option Addr) (len1 cap1 : Nat) (z1 : List Int) (r1 : IsRow .i64 w a1 len1 cap1 z1) :
    Calls Tryz.prog 12 #[v0, .slice a1 len1 cap1] w fun e w' => e = .returned (.bool true) ∧ Below w.heap.size w w' := by
  have HF : Hid (FnAt w v0 F0) := hF0
  have HRW : Hid (IsRow .i64 w a1 len1 cap1 z1) := r1
  obtain ⟨n, HN⟩ : ∃ n, Hid (F0.blocks.length = n) := ⟨_, rfl⟩
  obtain ⟨vals, HV⟩ : ∃ x, Hid (F0.values = x) := ⟨_, rfl⟩
  obtain ⟨ba, bcap, rfl⟩ := hF0.out HN.out HV.out
  clear hF0 r1
  obtain ⟨RD, HRD⟩ : ∃ L, Hid (z1.take len1 = L) := ⟨_, rfl⟩
  have HRL : Hid (RD.length ≤ len1) := by show RD.length ≤ len1; rw [← HRD.out, List.length_take]; omega
  obtain ⟨R, HRR⟩ : ∃ r, Hid (homesOkOf F0 RD = r) := ⟨_, rfl⟩
  have hd : (R != R) = false := by simp
  have hdr : decide (RD = RD) = true := by simp
  obtain ⟨n1, HN1⟩ : ∃ n, Hid (RD.length = n) := ⟨_, rfl⟩
  obtain ⟨G, HGF⟩ : ∃ G, Hid (renamedOf F0 RD = G) := ⟨_, rfl⟩
  obtain ⟨gn, HGN⟩ : ∃ q, Hid (G.blocks.length = q) := ⟨_, rfl⟩
  obtain ⟨gv, HGV⟩ : ∃ q, Hid (G.values = q) := ⟨_, rfl⟩
  obtain ⟨wA, hwA⟩ : ∃ wA, w.alloc (.cells #[.slice ba n bcap, .int .i64 vals] 71) = wA := ⟨_, rfl⟩
  have hsA : wA.heap.size = w.heap.size + 1 := by rw [← hwA]; simp
  have HwA : Hid (Below w.heap.size w wA) := by rw [← hwA]; exact Bel.alloc _ _
  have a0 : wA.cell? ⟨w.heap.size, 0, none⟩ = some (.slice ba n bcap) := by rw [← hwA]; simp [go_sem]
  have a1' : wA.cell? ⟨w.heap.size, 1, none⟩ = some (.int .i64 vals) := by rw [← hwA]; simp [go_sem]
  have HA0 : Hid (wA.cell? ⟨w.heap.size, 0, none⟩ = some (.slice ba n bcap)) := a0
  have HA1 : Hid (wA.cell? ⟨w.heap.size, 1, none⟩ = some (.int .i64 vals)) := a1'
  by_cases hbig : (1048576 : Int) < (len1 : Int)
  · go_enter Tryz.func12, Tryz.ntmps12
    go_wp2_with fail
    go_ret
    try rw [hwA]
    exact ⟨rfl, HwA.out⟩
  have hlr : len1 ≤ 1048576 := by omega
  have hn1 : n1 ≤ 1048576 := by have h1 := HN1.out; have h2 := HRL.out; omega
  go_enter Tryz.func12, Tryz.ntmps12
  go_wp2_with fail
  try rw [hwA]
  clear hwA
  refine (szFn_any _ F0 1048576 _ (HF.out.later HwA.out) (by omega) (by omega)).mono ?_
  rintro e w1 ⟨r, rfl, hr0, hr1, hsm, b1⟩
  have HSM : Hid (0 ≤ r → FnSmall F0) := hsm
  have B1 : Hid (Below wA.heap.size wA w1) := b1
  replace a0 := Bel.keeps b1 a0
  replace a1' := Bel.keeps b1 a1'
  clear b1 hsm
  by_cases hr : r < 0
  · go_wp2_with fail
    go_ret
    exact ⟨rfl, Bel.after HwA.out B1.out⟩
  · have HS : Hid (FnSmall F0) := HSM.out (by omega)
    have HSG : Hid (FnSmall G) := by show FnSmall _; rw [← HGF.out]; exact renamedOf_small F0 RD
    go_wp2_with fail
    refine (toFn_any _ F0 _ (HF.out.later (Bel.after HwA.out B1.out)) HS.out).mono ?_
    rintro e w2 ⟨v1, rfl, hf1, b2, _⟩
    have F1 : Hid (FnAt w2 v1 F0) := FnAtLo.low (Nat.zero_le _) hf1
    have B2 : Hid (Below wA.heap.size wA w2) := Bel.after B1.out b2
    replace a0 := Bel.keeps b2 a0
    replace a1' := Bel.keeps b2 a1'
    clear b2 hf1
    go_wp2_with fail
    refine (toIntS_any a1 len1 cap1 z1 _ (HRW.out.after (Bel.after HwA.out B2.out)) hlr).mono ?_
    rw [HRD.out]
    rintro e w2b ⟨rv0, rfl, or0, b2b⟩
    have OR0 : Hid (IntsAt w2b rv0 RD) := or0.at
    have F1b : Hid (FnAt w2b v1 F0) := F1.out.later b2b
    have B2b : Hid (Below wA.heap.size wA w2b) := Bel.after B2.out b2b
    replace a0 := Bel.keeps b2b a0
    replace a1' := Bel.keeps b2b a1'
    clear b2b or0
    obtain ⟨p1, c1, rfl⟩ := intsAt_form OR0.out
    rw [HN1.out] at OR0 ⊢
    go_wp2_with fail
    refine (spec_renamed v1 F0 p1 n1 c1 RD _ F1b.out OR0.out).mono ?_
    rw [HGF.out, HRR.out]
    rintro e w3 ⟨sv, ownS, rfl, o3, b3⟩
    rw [HGV.out]
    have FS3 : Hid (FnAt w3 (.agg #[sv, .int .i64 gv]) G) := FnAtLo.low (Nat.zero_le _) (o3.fnAt HGV.out)
    obtain ⟨sa, scap, hsv⟩ := o3.rows.is
    rw [HGN.out] at hsv
    subst hsv
    have B3 : Hid (Below wA.heap.size wA w3) := Bel.after B2b.out b3
    replace a0 := Bel.keeps b3 a0
    replace a1' := Bel.keeps b3 a1'
    have hA3 : w.heap.size < w3.heap.size := World.block_lt_of_cell? w3 _ a0
    clear b3 o3
    go_wp2_with fail
    obtain ⟨wS, hwS⟩ : ∃ W, w3.alloc (.cells #[.slice sa gn scap, .int .i64 gv] 26) = W := ⟨_, rfl⟩
    have BS : Hid (Below w3.heap.size w3 wS) := by show Below _ _ _; rw [← hwS]; exact Bel.alloc _ _
    obtain ⟨SB, HSB⟩ : ∃ q, Hid (w3.heap.size = q) := ⟨_, rfl⟩
    have eSB := HSB.out
    have hsS : wS.heap.size = SB + 1 := by rw [← hwS]; simp; omega
    have s0 : wS.cell? ⟨SB, 0, none⟩ = some (.slice sa gn scap) := by rw [← hwS, ← HSB.out]; simp [go_sem]
    have s1 : wS.cell? ⟨SB, 1, none⟩ = some (.int .i64 gv) := by rw [← hwS, ← HSB.out]; simp [go_sem]
    have HS0 : Hid (wS.cell? ⟨SB, 0, none⟩ = some (.slice sa gn scap)) := s0
    have HS1 : Hid (wS.cell? ⟨SB, 1, none⟩ = some (.int .i64 gv)) := s1
    have FS : Hid (FnAt wS (.agg #[.slice sa gn scap, .int .i64 gv]) G) := FS3.out.later BS.out
    have BAS : Hid (Below wA.heap.size wA wS) := Bel.after B3.out BS.out
    replace a0 := Bel.keeps BS.out a0
    replace a1' := Bel.keeps BS.out a1'
    rw [hwS]
    try rw [HSB.out]
    clear hwS
    refine (toFn_any _ F0 _ (HF.out.later (Bel.after HwA.out BAS.out)) HS.out).mono ?_
    rintro e w4 ⟨v2, rfl, hf2, b4, z4⟩
    have F2 : Hid (FnAtLo wS.heap.size w4 v2 F0) := hf2
    have Z4 : Hid (FZ wS w4) := z4
    have BS4 : Hid (Below wS.heap.size wS w4) := b4
    have hsS4 : wS.heap.size ≤ w4.heap.size := b4.size
    replace a0 := Bel.keeps b4 a0
    replace a1' := Bel.keeps b4 a1'
    replace s0 := Bel.keeps b4 s0
    replace s1 := Bel.keeps b4 s1
    clear b4 hf2 z4
    have F4 : Hid (FnAt w4 v2 F0) := FnAtLo.low (Nat.zero_le _) F2.out
    obtain ⟨ba2, bcap2, rfl⟩ := FnAt.out F4.out HN.out HV.out
    go_wp2_with fail
    obtain ⟨wB, hwB⟩ : ∃ wB, w4.alloc (.cells #[.slice ba2 n bcap2, .int .i64 vals] 26) = wB := ⟨_, rfl⟩
    have HwB : Hid (Below w4.heap.size w4 wB) := by rw [← hwB]; exact Bel.alloc _ _
    have hsB : wB.heap.size = w4.heap.size + 1 := by rw [← hwB]; simp
    obtain ⟨XB, HXB⟩ : ∃ q, Hid (w4.heap.size = q) := ⟨_, rfl⟩
    have eXB := HXB.out
    have x0 : wB.cell? ⟨XB, 0, none⟩ = some (.slice ba2 n bcap2) := by rw [← hwB, ← HXB.out]; simp [go_sem]
    have x1 : wB.cell? ⟨XB, 1, none⟩ = some (.int .i64 vals) := by rw [← hwB, ← HXB.out]; simp [go_sem]
    try rw [hwB]
    try rw [HXB.out]
    clear hwB
    have BSB : Hid (Below wS.heap.size wS wB) := Bel.after BS4.out HwB.out
    have FB : Hid (FnAt wB (.agg #[.slice ba2 n bcap2, .int .i64 vals]) F0) := F4.out.later HwB.out
    replace a0 := Bel.keeps HwB.out a0
    replace a1' := Bel.keeps HwB.out a1'
    replace s0 := Bel.keeps HwB.out s0
    replace s1 := Bel.keeps HwB.out s1
    refine (toIntS_any a1 len1 cap1 z1 _ (HRW.out.after (Bel.after HwA.out (Bel.after BAS.out BSB.out))) hlr).mono ?_
    rw [HRD.out]
    rintro e wC ⟨xv, rfl, ox, bC⟩
    have OX : Hid (OwnInts wC wB.heap.size xv RD) := ox
    have BBC : Hid (Below wB.heap.size wB wC) := bC
    have FC : Hid (FnAt wC (.agg #[.slice ba2 n bcap2, .int .i64 vals]) F0) := FB.out.later bC
    have hsC : wB.heap.size ≤ wC.heap.size := bC.size
    replace a0 := Bel.keeps bC a0
    replace a1' := Bel.keeps bC a1'
    replace s0 := Bel.keeps bC s0
    replace s1 := Bel.keeps bC s1
    replace x0 := Bel.keeps bC x0
    replace x1 := Bel.keeps bC x1
    clear bC ox
    obtain ⟨p2, c2, hxv⟩ := intsAt_form OX.out.at
    rw [HN1.out] at hxv
    subst hxv
    go_wp2_with fail
    refine (impl_renamed _ F0 p2 n1 c2 RD _ FC.out OX.out.at).mono ?_
    rw [HGF.out, HRR.out]
    rintro e w5 ⟨iv, own, rfl, o5, b5⟩
    rw [HGV.out]
    have O5 : Hid (FnO wB.heap.size own w5 iv G.blocks) := o5.low' hsC
    have HLOW : Hid (∀ g, (own g).1 ≤ 3 → wC.heap.size ≤ g) := o5.low
    have OX5 : Hid (OwnInts w5 wB.heap.size (.slice p2 n1 c2) RD) := OX.out.keep b5
    obtain ⟨ia, icap, hiv⟩ := o5.rows.is
    rw [HGN.out] at hiv
    subst hiv
    have BB5 : Hid (Below wB.heap.size wB w5) := Bel.after BBC.out b5
    have hC5 : wC.heap.size ≤ w5.heap.size := b5.size
    replace a0 := Bel.keeps b5 a0
    replace a1' := Bel.keeps b5 a1'
    replace s0 := Bel.keeps b5 s0
    replace s1 := Bel.keeps b5 s1
    replace x0 := Bel.keeps b5 x0
    replace x1 := Bel.keeps b5 x1
    have hS5 : SB < w5.heap.size := World.block_lt_of_cell? w5 _ s0
    have hA5 : w.heap.size < w5.heap.size := World.block_lt_of_cell? w5 _ a0
    have hX5 : XB < w5.heap.size := World.block_lt_of_cell? w5 _ x0
    clear b5 o5
    go_wp2_with fail
    obtain ⟨wI, hwI⟩ : ∃ W, w5.alloc (.cells #[.slice ia gn icap, .int .i64 gv] 26) = W := ⟨_, rfl⟩
    have BI : Hid (Below w5.heap.size w5 wI) := by show Below _ _ _; rw [← hwI]; exact Bel.alloc _ _
    obtain ⟨IB, HIB⟩ : ∃ q, Hid (w5.heap.size = q) := ⟨_, rfl⟩
    have eIB := HIB.out
    have hsI : wI.heap.size = IB + 1 := by rw [← hwI]; simp; omega
    have i0 : wI.cell? ⟨IB, 0, none⟩ = some (.slice ia gn icap) := by rw [← hwI, ← HIB.out]; simp [go_sem]
    have i1 : wI.cell? ⟨IB, 1, none⟩ = some (.int .i64 gv) := by rw [← hwI, ← HIB.out]; simp [go_sem]
    try rw [hwI]
    try rw [HIB.out]
    clear hwI
    have BBI : Hid (Below wB.heap.size wB wI) := Bel.after BB5.out BI.out
    have OXI : Hid (OwnInts wI wB.heap.size (.slice p2 n1 c2) RD) := OX5.out.keep BI.out
    have OI : Hid (FnO wB.heap.size own wI (.slice ia gn icap) G.blocks) := O5.out.keep BI.out
    have HHI : Hid (∀ g, (own g).1 ≤ 3 → g < IB) := fun g hg => by have := O5.out.high g hg; omega
    replace a0 := Bel.keeps BI.out a0
    replace a1' := Bel.keeps BI.out a1'
    replace s0 := Bel.keeps BI.out s0
    replace s1 := Bel.keeps BI.out s1
    replace x0 := Bel.keeps BI.out x0
    replace x1 := Bel.keeps BI.out x1
    have BSI : Hid (Below wS.heap.size wS wI) := Bel.after BSB.out BBI.out
    have hsBI := BBI.out.size
    have FI : Hid (FnAt wI (.agg #[.slice ia gn icap, .int .i64 gv]) G) := FnAtLo.low (Nat.zero_le _) (OI.out.fnAt HGV.out)
    refine (eqFn_same _ _ G _ FI.out (FS.out.later BSI.out)).mono ?_
    rintro e w6 ⟨rfl, b6⟩
    have BI6 : Hid (Below wI.heap.size wI w6) := b6
    replace a0 := Bel.keeps b6 a0
    replace a1' := Bel.keeps b6 a1'
    replace s0 := Bel.keeps b6 s0
    replace s1 := Bel.keeps b6 s1
    replace x0 := Bel.keeps b6 x0
    replace x1 := Bel.keeps b6 x1
    replace i0 := Bel.keeps b6 i0
    replace i1 := Bel.keeps b6 i1
    clear b6
    have BA6 : Hid (Below wA.heap.size wA w6) := Bel.after BAS.out (Bel.after BSI.out BI6.out)
    have BB6 : Hid (Below wB.heap.size wB w6) := Bel.after BBI.out BI6.out
    go_wp2
    go_region_with (first | (go_at_call 56; refine (toFn_any _ F0 _ (HF.out.later (Bel.after HwA.out (by first | exact BA6.out.drew | exact BA6.out))) HS.out).mono ?_; rintro e w7 ⟨v3, rfl, hf3, b7, _⟩; have F3 : Hid (FnAt w7 v3 F0) := FnAtLo.low (Nat.zero_le _) hf3; have H67 : Hid (Below w6.heap.size w6 w7) := Bel.after (by first | exact (Below.refl _ _).drew | exact Below.refl _ _) b7; have F7 : Hid (FnAt w7 (.agg #[.slice ba2 n bcap2, .int .i64 vals]) F0) := (FB.out.later BB6.out).later H67.out; have y0 := Bel.keeps b7 x0; have y1 := Bel.keeps b7 x1; clear b7 hf3) | (go_at_call 58; refine (eqFn_same _ _ F0 _ (Hid.out (by assumption)) (Hid.out (by assumption))).mono ?_; rintro e w8 ⟨rfl, b8⟩; have H68 : Hid (Below w6.heap.size w6 w8) := Bel.after (Hid.out (by assumption)) b8; clear b8))
    all_goals
      have HB8a : Hid (Below w6.heap.size w6 w8) := by assumption
      have OX8a : Hid (OwnInts w8 wB.heap.size (.slice p2 n1 c2) RD) := OXI.out.keep (Bel.after BI6.out HB8a.out)
      have BA8a : Hid (Below wA.heap.size wA w8) := Bel.after BA6.out HB8a.out
      replace a0 := Bel.keeps HB8a.out a0
      replace a1' := Bel.keeps HB8a.out a1'
      replace s0 := Bel.keeps HB8a.out s0
      replace s1 := Bel.keeps HB8a.out s1
      replace x0 := Bel.keeps HB8a.out x0
      replace x1 := Bel.keeps HB8a.out x1
      replace i0 := Bel.keeps HB8a.out i0
      replace i1 := Bel.keeps HB8a.out i1
      go_wp2_with fail
      refine (toIntS_any a1 len1 cap1 z1 _ (HRW.out.after (Bel.after HwA.out BA8a.out)) hlr).mono ?_
      rw [HRD.out]
      rintro e wD ⟨dv, rfl, od, bD⟩
      have OD : Hid (IntsAt wD dv RD) := od.at
      have OXD : Hid (OwnInts wD wB.heap.size (.slice p2 n1 c2) RD) := OX8a.out.keep bD
      have BDE : Hid (Below w6.heap.size w6 wD) := Bel.after HB8a.out bD
      replace a0 := Bel.keeps bD a0
      replace a1' := Bel.keeps bD a1'
      replace s0 := Bel.keeps bD s0
      replace s1 := Bel.keeps bD s1
      replace x0 := Bel.keeps bD x0
      replace x1 := Bel.keeps bD x1
      replace i0 := Bel.keeps bD i0
      replace i1 := Bel.keeps bD i1
      clear bD od
      go_wp2_with fail
      refine (eqIntS_any _ dv _ _ _ OXD.out.at OD.out).mono ?_
      rintro e wE ⟨rfl, bE⟩
      have HB8 : Hid (Below w6.heap.size w6 wE) := Bel.after BDE.out bE
      have OX8 : Hid (OwnInts wE wB.heap.size (.slice p2 n1 c2) RD) := OXD.out.keep bE
      have BB8 : Hid (Below wB.heap.size wB wE) := Bel.after BB6.out HB8.out
      have BI8 : Hid (Below wI.heap.size wI wE) := Bel.after BI6.out HB8.out
      have BA8 : Hid (Below wA.heap.size wA wE) := Bel.after BA6.out HB8.out
      have BS8 : Hid (Below wS.heap.size wS wE) := Bel.after BSI.out BI8.out
      have M8 : Hid (FnM wS.heap.size w4.heap.size wE (.agg #[.slice ba2 n bcap2, .int .i64 vals]) n vals) := by
        have h := F2.out.m HS.out
        rw [HN.out, HV.out] at h
        exact h.later (Bel.after HwB.out BB8.out)
      have T8 : Hid (Thaw wS.heap.size w4.heap.size wE) := fun p h1 h2 => by
        rw [(Bel.after HwB.out BB8.out).frozen h2]
        exact Z4.out.new h1
      have hn : n ≤ 1048576 := by have := HS.out.1; rw [HN.out] at this; exact this
      have hs8 : w4.heap.size + 1 ≤ wE.heap.size := by have := BB8.out.size; omega
      have hsI8 := BI8.out.size
      have O8 : Hid (FnO wB.heap.size own wE (.slice ia gn icap) G.blocks) := OI.out.keep BI8.out
      replace a0 := Bel.keeps bE a0
      replace a1' := Bel.keeps bE a1'
      replace s0 := Bel.keeps bE s0
      replace s1 := Bel.keeps bE s1
      replace x0 := Bel.keeps bE x0
      replace x1 := Bel.keeps bE x1
      replace i0 := Bel.keeps bE i0
      replace i1 := Bel.keeps bE i1
      clear HB8 bE
      go_wp2_with fail
      refine (markFn_top wS.heap.size w4.heap.size _ n vals 1 _ M8.out T8.out hn (by omega) (by omega) (by omega) (by omega)).mono ?_
      rintro e w9 ⟨z, rfl, hz0, hz9, mk⟩
      have MK : Hid (Marked wS.heap.size w4.heap.size wE w9) := mk
      have OX9 : Hid (OwnInts w9 wB.heap.size (.slice p2 n1 c2) RD) := OX8.out.marked mk (fun b hb => .inr (by have := (OX8.out.lt b hb).1; omega))
      have hs9 : wE.heap.size ≤ w9.heap.size := mk.bel.size
      have O9 : Hid (FnO wB.heap.size own w9 (.slice ia gn icap) G.blocks) := O8.out.same (fun g hg => mk.above g (by have := O8.out.low g hg; omega) (O8.out.high g hg)) hs9
      have BS9 : Hid (Below wS.heap.size wS w9) := BS8.out.trans mk.bel
      have BA9 : Hid (Below wA.heap.size wA w9) := Bel.after BAS.out BS9.out
      replace a0 := Bel.keeps BA9.out HA0.out
      replace a1' := Bel.keeps BA9.out HA1.out
      replace s0 := Bel.keeps BS9.out HS0.out
      replace s1 := Bel.keeps BS9.out HS1.out
      replace i0 := (cell_same (mk.above IB (by omega) (by omega)) _).trans i0
      replace i1 := (cell_same (mk.above IB (by omega) (by omega)) _).trans i1
      clear mk x0 x1
      have hlowC := HLOW.out
      have hs9B : wB.heap.size ≤ w9.heap.size := by omega
      go_wp2_with fail
      refine (markIntS_apart wB.heap.size _ RD z _ OX9.out hs9B hz0 (by have := HN1.out; omega)).mono ?_
      rw [HN1.out]
      rintro e w9b ⟨rfl, b9b, _, ap⟩
      have O9b : Hid (FnO wB.heap.size own w9b (.slice ia gn icap) G.blocks) := O9.out.same (fun g hg => ap g (fun e9 => by have q1 := (OX.out.lt g e9).2; have q2 := HLOW.out g hg; omega)) b9b.size
      have BS9b : Hid (Below wS.heap.size wS w9b) := BS9.out.trans (b9b.mono (by have := BSB.out.size; omega))
      have BA9b : Hid (Below wA.heap.size wA w9b) := Bel.after BAS.out BS9b.out
      have hs9b : w9.heap.size ≤ w9b.heap.size := b9b.size
      replace a0 := Bel.keeps BA9b.out HA0.out
      replace a1' := Bel.keeps BA9b.out HA1.out
      replace s0 := Bel.keeps BS9b.out HS0.out
      replace s1 := Bel.keeps BS9b.out HS1.out
      replace i0 := (cell_same (ap IB (fun e9 => by have q1 := (OX.out.lt IB e9).2; omega)) _).trans i0
      replace i1 := (cell_same (ap IB (fun e9 => by have q1 := (OX.out.lt IB e9).2; omega)) _).trans i1
      obtain ⟨zk, hzk⟩ : ∃ zk, z + (n1 : Int) = zk := ⟨_, rfl⟩
      have hz1 : ¬ zk < 0 := by omega
      rw [hzk]
      clear hzk ap b9b
      obtain ⟨w9c, hw9c⟩ : ∃ q, q = w9b := ⟨_, rfl⟩
      go_wp2_with fail
      refine (eqFn_same _ _ G _ (FnAtLo.low (Nat.zero_le _) (O9b.out.fnAt HGV.out)) (FS.out.later BS9b.out)).mono ?_
      rintro e w10 ⟨rfl, b10⟩
      have O10 : Hid (FnO wB.heap.size own w10 (.slice ia gn icap) G.blocks) := O9b.out.keep b10
      have BS10 : Hid (Below wS.heap.size wS w10) := Bel.after BS9b.out b10
      have hs10 : w9b.heap.size ≤ w10.heap.size := b10.size
      replace a0 := Bel.keeps b10 a0
      replace a1' := Bel.keeps b10 a1'
      replace s0 := Bel.keeps b10 s0
      replace s1 := Bel.keeps b10 s1
      replace i0 := Bel.keeps b10 i0
      replace i1 := Bel.keeps b10 i1
      clear b10
      obtain ⟨t, HT⟩ : ∃ t, Hid (blocksT w10 (.slice ia gn icap) = t) := ⟨_, rfl⟩
      obtain ⟨tr, nd⟩ := O10.out.tree (F := G) HSG.out HHI.out
      rw [HT.out] at tr nd
      have TR : Hid (FnTr wB.heap.size IB w10 (.agg #[.slice ia gn icap, .int .i64 gv]) t gv) := ⟨_, rfl, tr⟩
      have ND : Hid ((blocksSp t).Nodup) := nd
      obtain ⟨M, HM⟩ : ∃ M : Int, Hid (1 + ((blocksSp t).length : Int) = M) := ⟨_, rfl⟩
      have hM0 : ¬ M < 0 := by have := HM.out; omega
      clear tr nd
      go_wp2_with fail
      refine (markFn_wr wB.heap.size IB _ t gv 1 _ TR.out ND.out (by omega) (by omega) (by omega) (by omega)).mono ?_
      rw [HM.out]
      rintro e w11 ⟨rfl, mf⟩
      have HAS : Hid (Has w11 (blocksSp t) 1) := mf.has
      have TR11 : Hid (FnTr wB.heap.size IB w11 (.agg #[.slice ia gn icap, .int .i64 gv]) t gv) := TR.out.stay mf.stays
      have hs11 : w10.heap.size ≤ w11.heap.size := mf.marked.bel.size
      have BS11 : Hid (Below wS.heap.size wS w11) := BS10.out.trans (mf.marked.bel.mono (by omega))
      have BA11 : Hid (Below wA.heap.size wA w11) := Bel.after BAS.out BS11.out
      replace a0 := Bel.keeps BA11.out HA0.out
      replace a1' := Bel.keeps BA11.out HA1.out
      replace s0 := Bel.keeps BS11.out HS0.out
      replace s1 := Bel.keeps BS11.out HS1.out
      replace i0 := (cell_same (mf.marked.above IB (Nat.le_refl _) (by omega)) _).trans i0
      replace i1 := (cell_same (mf.marked.above IB (Nat.le_refl _) (by omega)) _).trans i1
      clear mf
      go_wp2_with fail
      refine (heldFn_has wB.heap.size IB _ t gv 1 _ TR11.out HAS.out (by omega) (by omega)).mono ?_
      rintro e w12 ⟨he, b12⟩
      rw [HM.out] at he
      subst he
      have HAS12 : Hid (Has w12 (blocksSp t) 1) := HAS.out.keep b12
      have TR12 : Hid (FnTr wB.heap.size IB w12 (.agg #[.slice ia gn icap, .int .i64 gv]) t gv) := TR11.out.stay (Stays.below b12)
      have BS12 : Hid (Below wS.heap.size wS w12) := Bel.after BS11.out b12
      have BA12 : Hid (Below wA.heap.size wA w12) := Bel.after BA11.out b12
      replace a0 := Bel.keeps b12 a0
      replace a1' := Bel.keeps b12 a1'
      replace s0 := Bel.keeps b12 s0
      replace s1 := Bel.keeps b12 s1
      replace i0 := Bel.keeps b12 i0
      replace i1 := Bel.keeps b12 i1
      clear b12
      go_wp2_with fail
      refine (toFn_any _ F0 _ (HF.out.later (Bel.after HwA.out BA12.out)) HS.out).mono ?_
      rintro e w13 ⟨v5, rfl, hf5, b13, _⟩
      have F5 : Hid (FnAt w13 v5 F0) := FnAtLo.low (Nat.zero_le _) hf5
      have B1213 : Hid (Below w12.heap.size w12 w13) := b13
      replace s0 := Bel.keeps b13 s0
      replace s1 := Bel.keeps b13 s1
      replace i0 := Bel.keeps b13 i0
      replace i1 := Bel.keeps b13 i1
      clear b13 hf5 a0 a1'
      go_wp2_with fail
      refine (toIntS_any a1 len1 cap1 z1 _ (HRW.out.after (Bel.after HwA.out (Bel.after BA12.out B1213.out))) hlr).mono ?_
      rw [HRD.out]
      rintro e wF ⟨yv, rfl, oy, bF⟩
      have OY : Hid (IntsAt wF yv RD) := oy.at
      have FF : Hid (FnAt wF v5 F0) := F5.out.later bF
      have B12F : Hid (Below w12.heap.size w12 wF) := Bel.after B1213.out bF
      replace s0 := Bel.keeps bF s0
      replace s1 := Bel.keeps bF s1
      replace i0 := Bel.keeps bF i0
      replace i1 := Bel.keeps bF i1
      clear bF oy
      obtain ⟨p3, c3, rfl⟩ := intsAt_form OY.out
      rw [HN1.out] at OY ⊢
      go_wp2_with fail
      refine (impl_renamed v5 F0 p3 n1 c3 RD _ FF.out OY.out).mono ?_
      rw [HGF.out, HRR.out]
      rintro e w14 ⟨hv, ownH, rfl, o14, b14⟩
      rw [HGV.out]
      have FH : Hid (FnAt w14 (.agg #[hv, .int .i64 gv]) G) := FnAtLo.low (Nat.zero_le _) (o14.fnAt HGV.out)
      obtain ⟨ha, hcap, hhv⟩ := o14.rows.is
      rw [HGN.out] at hhv
      subst hhv
      have B1214 : Hid (Below w12.heap.size w12 w14) := Bel.after B12F.out b14
      replace s0 := Bel.keeps b14 s0
      replace s1 := Bel.keeps b14 s1
      replace i0 := Bel.keeps b14 i0
      replace i1 := Bel.keeps b14 i1
      have hS14 : SB < w14.heap.size := World.block_lt_of_cell? w14 _ s0
      have hI14 : IB < w14.heap.size := World.block_lt_of_cell? w14 _ i0
      clear b14 o14
      go_wp2_with fail
      have BN : Hid (Below w14.heap.size w14 (w14.alloc (.cells #[.slice ha gn hcap, .int .i64 gv] 26))) := Bel.alloc _ _
      refine (eqFn_same _ _ G _ (FH.out.later BN.out) (FS.out.later (Bel.after BS12.out (Bel.after B1214.out BN.out)))).mono ?_
      rintro e w15 ⟨rfl, b15⟩
      have B1215 : Hid (Below w12.heap.size w12 w15) := Bel.after (Bel.after B1214.out BN.out) b15
      replace i0 := Bel.keeps b15 (Bel.keeps BN.out i0)
      replace i1 := Bel.keeps b15 (Bel.keeps BN.out i1)
      clear b15 s0 s1
      go_wp2_with fail
      refine (heldFn_has wB.heap.size IB _ t gv 1 _ (TR12.out.stay (Stays.below B1215.out)) (HAS12.out.keep B1215.out) (by omega) (by omega)).mono ?_
      rintro e w16 ⟨he, b16⟩
      rw [HM.out] at he
      subst he
      go_wp2_with fail
      go_ret
      exact ⟨rfl, Bel.after HwA.out (Bel.after BA12.out (Bel.after B1215.out b16))⟩

set_option maxRecDepth 100000 in
theorem lifted (os : Os) (started : os.Started) (H : Type) (enc : TypeId × Value → H) :
    ReturnsInHanded {} Tryz.checked os 12 .any (Rows.fnExactRenamedSpec.pre6 enc Tryz.prog Tryz.f12 Rows.fnExactRenamedRow.domain false) (Rows.fnExactRenamedSpec.post enc Tryz.prog Tryz.f12 false true false false) := by
  refine returnsInHanded_of_change (C := Tryz.checked) own started (by kernel_rfl) Tryz.func12
    (ChangeSpec.witness6 (enc := enc) (C := Tryz.checked) false ⟨#[], #[.agg #[.slice none 0 0, .int .i64 0], .slice none 0 0], []⟩ 8 (by kernel_rfl) (by kernel_rfl) (by kernel_rfl) (by kernel_rfl)) ?_
  intro W base args ds gs before hval0 hW hcnd _
  have hval : ∀ (j : Nat) t v, Tryz.f12.params[j]? = some t → args[j]? = some v → Value.okWide Tryz.prog W .any base t v := hval0
  have hW' := hW
  obtain ⟨p, q, hA0, hV, rfl, hfz, hnd⟩ := hW
  have hA : DataW.TrodAll enc Tryz.prog W 0 (fun _ => true) true Tryz.f12.params.toList args.toList ds p := hA0
  rw [Tryz.params12] at hA hval
  obtain ⟨v0, vs0, d0, ds0, p0, q0, hargs, rfl, rfl, h0, r0x⟩ := trodAll_cons hA
  obtain ⟨v1, vs1, d1, ds1, p1, q1, rfl, rfl, rfl, h1, r1x⟩ := trodAll_cons r0x
  obtain ⟨rfl, rfl, rfl⟩ := trodAll_nil r1x
  obtain rfl : args = #[v0, v1] := by cases args; simp_all
  obtain ⟨rfl, rfl⟩ := trodVars_none hV
  have k0 := h0
  have lt0 : ∀ x ∈ p0, x.block < W.heap.size := by obtain ⟨m, hm⟩ := k0; exact DataW.trod_lt m _ _ _ hm
  have k1 := h1
  have lt1 : ∀ x ∈ p1, x.block < W.heap.size := by obtain ⟨m, hm⟩ := k1; exact DataW.trod_lt m _ _ _ hm
  obtain ⟨F0, hF0⟩ := openFn (hval 0 71 v0 rfl rfl) h0
  obtain ⟨a1, len1, cap1, rfl⟩ := okWide_slice Tryz.underlying27 (hval 1 27 v1 rfl rfl)
  obtain ⟨z1, r1⟩ : ∃ zs, IsRow .i64 W a1 len1 cap1 zs := by
    obtain ⟨fuel, hf⟩ := h1
    rcases open_ints Tryz.underlying27 Tryz.underlying3 (by kernel_rfl) hf with ⟨hcs, _⟩ | ⟨x, l, c, zs, hcs, _, hl, hm, hz, _, hcell, hwz⟩
    · simp [Value.cells] at hcs
      obtain ⟨rfl, rfl, rfl⟩ := hcs
      exact ⟨[], .inl ⟨rfl, rfl, rfl, rfl⟩⟩
    · simp [Value.cells] at hcs
      obtain ⟨rfl, rfl, rfl⟩ := hcs
      exact ⟨zs, .inr ⟨_, rfl, hl, hm, by simpa using hz, hcell, hwz⟩⟩
  clear hA0 hval0
  refine (walk W v0 F0 hF0 a1 len1 cap1 z1 r1).mono fun e W' ⟨he, bel⟩ => ?_
  subst he
  exact ⟨_, rfl, _, _, _, [], _, [], hW', trodAll_mk1 (shut_bool Tryz.underlying4 _), (trodAll_cons_mk (Below.trod laidOut (by kernel_rfl) (of_decide_eq_true (by kernel_rfl)) k0 bel lt0) (trodAll_cons_mk (Below.trod laidOut (by kernel_rfl) (of_decide_eq_true (by kernel_rfl)) k1 bel lt1) trodAll_mk0)), rfl, bel.frame _, fun h => by cases h⟩

theorem over : Rows.fnExactRenamedRow.holds Tryz.pinned (OpenSpec.ofChange Rows.fnExactRenamedSpec) :=
  OpenClaim.holds_of_wide 12 Tryz.f12 rfl rfl rfl rfl rfl rfl rfl ⟨rfl, rfl, rfl, rfl, rfl⟩ rfl rfl rfl rfl rfl (by kernel_rfl) Tryz.func12 (by kernel_rfl)
    (of_decide_eq_true (by kernel_rfl)) (by unfold Func.isWrapper; first | (rw [if_pos (by decide +kernel)]; kernel_rfl) | (rw [if_neg (by decide +kernel)]; exact ⟨rfl, rfl⟩))
    (fun os started H enc _ => lifted os started H enc)

/-- The statement. -/
theorem proved : Rows.FnExactRenamedSaid := over
#print axioms proved
end Go.Proofs.YtldcohhifmpedaaGreat.fnExactRenamed
