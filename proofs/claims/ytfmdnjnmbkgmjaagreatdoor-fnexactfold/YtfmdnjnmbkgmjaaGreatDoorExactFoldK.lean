/- Proved: for every program the program's Fold answers as the model's: folded where it is well, a copy of it else, in memory of its own, no two lists of it sharing any; it writes into no argument. -/
import Derived.Test.YtfmdnjnmbkgmjaaGreatDoorRows
import Derived.Test.YtfmdnjnmbkgmjaaGreatDoorKCkE
import Derived.Test.YtfmdnjnmbkgmjaaGreatDoorTie
import Derived.Test.YtfmdnjnmbkgmjaaGreatDoorCards
import Derived.SevenTiedAt
import Derived.Test.YtfmdnjnmbkgmjaaGreatDoorFoldSp2K
import Derived.Test.YtfmdnjnmbkgmjaaGreatDoorFoldLawK
import Derived.Test.YtfmdnjnmbkgmjaaGreatDoorFoldImp2K
import Derived.Test.YtfmdnjnmbkgmjaaGreatDoorKTo
import Derived.Test.YtfmdnjnmbkgmjaaGreatDoorKEq
import Derived.Test.YtfmdnjnmbkgmjaaGreatDoorKMark
import Derived.Test.YtfmdnjnmbkgmjaaGreatDoorKHeld
import Derived.Test.YtfmdnjnmbkgmjaaGreatDoorKOwnF
import Derived.WalkKit
import Derived.ProofKit
import Derived.OpenShut
import Derived.ShutString
import Derived.ChangeOld
import Derived.Below
namespace Go.Proofs.YtfmdnjnmbkgmjaaGreatDoor.fnExactFold
open Go.ChangeShapes Go.WideShapes Go.ChangeAt Go.RowKit
open Go.ChangeMaps (open_string shut_string)
set_option linter.unusedVariables false
theorem laidOut : laidOutB Tryz.prog = true := by kernel_rfl
set_option maxHeartbeats 4000000 in
theorem walk (w : World) (v0 : Value) (F0 : FnD) (hF0 : FnAt w v0 F0) (hg : HandleAt w) :
    Calls Tryz.prog 3 #[v0] w fun e w' => e = .returned (.bool true) ∧ Below w.heap.size w w' := by
  have HF : Hid (FnAt w v0 F0) := hF0
  have HG : Hid (HandleAt w) := hg
  obtain ⟨n, HN⟩ : ∃ n, Hid (F0.blocks.length = n) := ⟨_, rfl⟩
  obtain ⟨vals, HV⟩ : ∃ x, Hid (F0.values = x) := ⟨_, rfl⟩
  obtain ⟨ba, bcap, rfl⟩ := hF0.out HN.out HV.out
  clear hF0 hg
  obtain ⟨G, HGF⟩ : ∃ G, Hid (foldF F0 = G) := ⟨_, rfl⟩
  obtain ⟨gn, HGN⟩ : ∃ q, Hid (G.blocks.length = q) := ⟨_, rfl⟩
  obtain ⟨gv, HGV⟩ : ∃ q, Hid (G.values = q) := ⟨_, rfl⟩
  obtain ⟨wA, hwA⟩ : ∃ wA, w.alloc (.cells #[.slice ba n bcap, .int .i64 vals] 24) = wA := ⟨_, rfl⟩
  have hsA : wA.heap.size = w.heap.size + 1 := by rw [← hwA]; simp
  have HwA : Hid (Below w.heap.size w wA) := by rw [← hwA]; exact Bel.alloc _ _
  have a0 : wA.cell? ⟨w.heap.size, 0, none⟩ = some (.slice ba n bcap) := by rw [← hwA]; simp [go_sem]
  have a1' : wA.cell? ⟨w.heap.size, 1, none⟩ = some (.int .i64 vals) := by rw [← hwA]; simp [go_sem]
  have HA0 : Hid (wA.cell? ⟨w.heap.size, 0, none⟩ = some (.slice ba n bcap)) := a0
  have HA1 : Hid (wA.cell? ⟨w.heap.size, 1, none⟩ = some (.int .i64 vals)) := a1'
  go_enter Tryz.func3, Tryz.ntmps3
  go_wp2_with fail
  try rw [hwA]
  clear hwA
  refine (szFn_any _ F0 1048576 _ (HF.out.later HwA.out) (by omega) (by omega)).mono ?_
  rintro e w1 ⟨r, rfl, hr0, hr1, hsm, b1⟩
  have HSM : Hid (0 ≤ r → FnSmall F0) := hsm
  have B1 : Hid (Below wA.heap.size wA w1) := b1
  replace a0 := Bel.keeps b1 a0
  replace a1' := Bel.keeps b1 a1'
  clear b1 hsm
  by_cases hr : r < 0
  · go_wp2_with fail
    go_ret
    exact ⟨rfl, Bel.after HwA.out B1.out⟩
  · have HS : Hid (FnSmall F0) := HSM.out (by omega)
    have HSG : Hid (FnSmall G) := by show FnSmall _; rw [← HGF.out]; exact foldF_small HS.out
    go_wp2_with fail
    refine (toFn_any _ F0 _ (HF.out.later (Bel.after HwA.out B1.out)) HS.out).mono ?_
    rintro e w2 ⟨v1, rfl, hf1, b2, _⟩
    have F1 : Hid (FnAt w2 v1 F0) := FnAtLo.low (Nat.zero_le _) hf1
    have B2 : Hid (Below wA.heap.size wA w2) := Bel.after B1.out b2
    replace a0 := Bel.keeps b2 a0
    replace a1' := Bel.keeps b2 a1'
    clear b2 hf1
    go_wp2_with fail
    refine (spec_fold v1 F0 _ F1.out HS.out).mono ?_
    rw [HGF.out]
    rintro e w3 ⟨sv, ownS, rfl, o3, b3⟩
    rw [HGV.out]
    have FS3 : Hid (FnAt w3 (.agg #[sv, .int .i64 gv]) G) := FnAtLo.low (Nat.zero_le _) (o3.fnAt HGV.out)
    obtain ⟨sa, scap, hsv⟩ := o3.rows.is
    rw [HGN.out] at hsv
    subst hsv
    have B3 : Hid (Below wA.heap.size wA w3) := Bel.after B2.out b3
    replace a0 := Bel.keeps b3 a0
    replace a1' := Bel.keeps b3 a1'
    have hA3 : w.heap.size < w3.heap.size := World.block_lt_of_cell? w3 _ a0
    clear b3 o3
    go_wp2_with fail
    obtain ⟨wS, hwS⟩ : ∃ W, w3.alloc (.cells #[.slice sa gn scap, .int .i64 gv] 28) = W := ⟨_, rfl⟩
    have BS : Hid (Below w3.heap.size w3 wS) := by show Below _ _ _; rw [← hwS]; exact Bel.alloc _ _
    obtain ⟨SB, HSB⟩ : ∃ q, Hid (w3.heap.size = q) := ⟨_, rfl⟩
    have eSB := HSB.out
    have hsS : wS.heap.size = SB + 1 := by rw [← hwS]; simp; omega
    have s0 : wS.cell? ⟨SB, 0, none⟩ = some (.slice sa gn scap) := by rw [← hwS, ← HSB.out]; simp [go_sem]
    have s1 : wS.cell? ⟨SB, 1, none⟩ = some (.int .i64 gv) := by rw [← hwS, ← HSB.out]; simp [go_sem]
    have HS0 : Hid (wS.cell? ⟨SB, 0, none⟩ = some (.slice sa gn scap)) := s0
    have HS1 : Hid (wS.cell? ⟨SB, 1, none⟩ = some (.int .i64 gv)) := s1
    have FS : Hid (FnAt wS (.agg #[.slice sa gn scap, .int .i64 gv]) G) := FS3.out.later BS.out
    have BAS : Hid (Below wA.heap.size wA wS) := Bel.after B3.out BS.out
    replace a0 := Bel.keeps BS.out a0
    replace a1' := Bel.keeps BS.out a1'
    rw [hwS]
    try rw [HSB.out]
    clear hwS
    refine (toFn_any _ F0 _ (HF.out.later (Bel.after HwA.out BAS.out)) HS.out).mono ?_
    rintro e w4 ⟨v2, rfl, hf2, b4, z4⟩
    have F2 : Hid (FnAtLo wS.heap.size w4 v2 F0) := hf2
    have Z4 : Hid (FZ wS w4) := z4
    have BS4 : Hid (Below wS.heap.size wS w4) := b4
    have hsS4 : wS.heap.size ≤ w4.heap.size := b4.size
    replace a0 := Bel.keeps b4 a0
    replace a1' := Bel.keeps b4 a1'
    replace s0 := Bel.keeps b4 s0
    replace s1 := Bel.keeps b4 s1
    clear b4 hf2 z4
    have F4 : Hid (FnAt w4 v2 F0) := FnAtLo.low (Nat.zero_le _) F2.out
    obtain ⟨ba2, bcap2, rfl⟩ := FnAt.out F4.out HN.out HV.out
    go_wp2_with fail
    obtain ⟨wB, hwB⟩ : ∃ wB, w4.alloc (.cells #[.slice ba2 n bcap2, .int .i64 vals] 28) = wB := ⟨_, rfl⟩
    have HwB : Hid (Below w4.heap.size w4 wB) := by rw [← hwB]; exact Bel.alloc _ _
    have hsB : wB.heap.size = w4.heap.size + 1 := by rw [← hwB]; simp
    obtain ⟨XB, HXB⟩ : ∃ q, Hid (w4.heap.size = q) := ⟨_, rfl⟩
    have eXB := HXB.out
    have x0 : wB.cell? ⟨XB, 0, none⟩ = some (.slice ba2 n bcap2) := by rw [← hwB, ← HXB.out]; simp [go_sem]
    have x1 : wB.cell? ⟨XB, 1, none⟩ = some (.int .i64 vals) := by rw [← hwB, ← HXB.out]; simp [go_sem]
    try rw [hwB]
    try rw [HXB.out]
    clear hwB
    have BSB : Hid (Below wS.heap.size wS wB) := Bel.after BS4.out HwB.out
    have FB : Hid (FnAt wB (.agg #[.slice ba2 n bcap2, .int .i64 vals]) F0) := F4.out.later HwB.out
    replace a0 := Bel.keeps HwB.out a0
    replace a1' := Bel.keeps HwB.out a1'
    replace s0 := Bel.keeps HwB.out s0
    replace s1 := Bel.keeps HwB.out s1
    refine (impl_fold _ F0 _ FB.out HS.out (HG.out.keep (Bel.after HwA.out (Bel.after BAS.out BSB.out)))).mono ?_
    rw [HGF.out]
    rintro e w5 ⟨iv, own, rfl, o5, b5⟩
    rw [HGV.out]
    have O5 : Hid (FnO wB.heap.size own w5 iv G.blocks) := o5
    obtain ⟨ia, icap, hiv⟩ := o5.rows.is
    rw [HGN.out] at hiv
    subst hiv
    have BB5 : Hid (Below wB.heap.size wB w5) := b5
    replace a0 := Bel.keeps b5 a0
    replace a1' := Bel.keeps b5 a1'
    replace s0 := Bel.keeps b5 s0
    replace s1 := Bel.keeps b5 s1
    replace x0 := Bel.keeps b5 x0
    replace x1 := Bel.keeps b5 x1
    have hS5 : SB < w5.heap.size := World.block_lt_of_cell? w5 _ s0
    have hA5 : w.heap.size < w5.heap.size := World.block_lt_of_cell? w5 _ a0
    have hX5 : XB < w5.heap.size := World.block_lt_of_cell? w5 _ x0
    clear b5 o5
    go_wp2_with fail
    obtain ⟨wI, hwI⟩ : ∃ W, w5.alloc (.cells #[.slice ia gn icap, .int .i64 gv] 28) = W := ⟨_, rfl⟩
    have BI : Hid (Below w5.heap.size w5 wI) := by show Below _ _ _; rw [← hwI]; exact Bel.alloc _ _
    obtain ⟨IB, HIB⟩ : ∃ q, Hid (w5.heap.size = q) := ⟨_, rfl⟩
    have eIB := HIB.out
    have hsI : wI.heap.size = IB + 1 := by rw [← hwI]; simp; omega
    have i0 : wI.cell? ⟨IB, 0, none⟩ = some (.slice ia gn icap) := by rw [← hwI, ← HIB.out]; simp [go_sem]
    have i1 : wI.cell? ⟨IB, 1, none⟩ = some (.int .i64 gv) := by rw [← hwI, ← HIB.out]; simp [go_sem]
    try rw [hwI]
    try rw [HIB.out]
    clear hwI
    have BBI : Hid (Below wB.heap.size wB wI) := Bel.after BB5.out BI.out
    have OI : Hid (FnO wB.heap.size own wI (.slice ia gn icap) G.blocks) := O5.out.keep BI.out
    have HHI : Hid (∀ g, (own g).1 ≤ 3 → g < IB) := fun g hg => by have := O5.out.high g hg; omega
    replace a0 := Bel.keeps BI.out a0
    replace a1' := Bel.keeps BI.out a1'
    replace s0 := Bel.keeps BI.out s0
    replace s1 := Bel.keeps BI.out s1
    replace x0 := Bel.keeps BI.out x0
    replace x1 := Bel.keeps BI.out x1
    have BSI : Hid (Below wS.heap.size wS wI) := Bel.after BSB.out BBI.out
    have hsBI := BBI.out.size
    have FI : Hid (FnAt wI (.agg #[.slice ia gn icap, .int .i64 gv]) G) := FnAtLo.low (Nat.zero_le _) (OI.out.fnAt HGV.out)
    refine (eqFn_same _ _ G _ FI.out (FS.out.later BSI.out)).mono ?_
    rintro e w6 ⟨rfl, b6⟩
    have BI6 : Hid (Below wI.heap.size wI w6) := b6
    replace a0 := Bel.keeps b6 a0
    replace a1' := Bel.keeps b6 a1'
    replace s0 := Bel.keeps b6 s0
    replace s1 := Bel.keeps b6 s1
    replace x0 := Bel.keeps b6 x0
    replace x1 := Bel.keeps b6 x1
    replace i0 := Bel.keeps b6 i0
    replace i1 := Bel.keeps b6 i1
    clear b6
    have BA6 : Hid (Below wA.heap.size wA w6) := Bel.after BAS.out (Bel.after BSI.out BI6.out)
    have BB6 : Hid (Below wB.heap.size wB w6) := Bel.after BBI.out BI6.out
    go_wp2
    go_region_with (first | (go_at_call 11; refine (toFn_any _ F0 _ (HF.out.later (Bel.after HwA.out (by first | exact BA6.out.drew | exact BA6.out))) HS.out).mono ?_; rintro e w7 ⟨v3, rfl, hf3, b7, _⟩; have F3 : Hid (FnAt w7 v3 F0) := FnAtLo.low (Nat.zero_le _) hf3; have H67 : Hid (Below w6.heap.size w6 w7) := Bel.after (by first | exact (Below.refl _ _).drew | exact Below.refl _ _) b7; have F7 : Hid (FnAt w7 (.agg #[.slice ba2 n bcap2, .int .i64 vals]) F0) := (FB.out.later BB6.out).later H67.out; have y0 := Bel.keeps b7 x0; have y1 := Bel.keeps b7 x1; clear b7 hf3) | (go_at_call 13; refine (eqFn_same _ _ F0 _ (Hid.out (by assumption)) (Hid.out (by assumption))).mono ?_; rintro e w8 ⟨rfl, b8⟩; have H68 : Hid (Below w6.heap.size w6 w8) := Bel.after (Hid.out (by assumption)) b8; clear b8))
    all_goals
      have HB8 : Hid (Below w6.heap.size w6 w8) := by assumption
      have BB8 : Hid (Below wB.heap.size wB w8) := Bel.after BB6.out HB8.out
      have BI8 : Hid (Below wI.heap.size wI w8) := Bel.after BI6.out HB8.out
      have BA8 : Hid (Below wA.heap.size wA w8) := Bel.after BA6.out HB8.out
      have BS8 : Hid (Below wS.heap.size wS w8) := Bel.after BSI.out BI8.out
      have M8 : Hid (FnM wS.heap.size w4.heap.size w8 (.agg #[.slice ba2 n bcap2, .int .i64 vals]) n vals) := by
        have h := F2.out.m HS.out
        rw [HN.out, HV.out] at h
        exact h.later (Bel.after HwB.out BB8.out)
      have T8 : Hid (Thaw wS.heap.size w4.heap.size w8) := fun p h1 h2 => by
        rw [(Bel.after HwB.out BB8.out).frozen h2]
        exact Z4.out.new h1
      have hn : n ≤ 1048576 := by have := HS.out.1; rw [HN.out] at this; exact this
      have hs8 : w4.heap.size + 1 ≤ w8.heap.size := by have := BB8.out.size; omega
      have hsI8 := BI8.out.size
      have O8 : Hid (FnO wB.heap.size own w8 (.slice ia gn icap) G.blocks) := OI.out.keep BI8.out
      replace a0 := Bel.keeps HB8.out a0
      replace a1' := Bel.keeps HB8.out a1'
      replace s0 := Bel.keeps HB8.out s0
      replace s1 := Bel.keeps HB8.out s1
      replace x0 := Bel.keeps HB8.out x0
      replace x1 := Bel.keeps HB8.out x1
      replace i0 := Bel.keeps HB8.out i0
      replace i1 := Bel.keeps HB8.out i1
      clear HB8
      go_wp2_with fail
      refine (markFn_any wS.heap.size w4.heap.size _ n vals 1 _ M8.out T8.out hn (by omega) (by omega) (by omega) (by omega)).mono ?_
      rintro e w9 ⟨z, rfl, hz0, mk⟩
      have MK : Hid (Marked wS.heap.size w4.heap.size w8 w9) := mk
      have hs9 : w8.heap.size ≤ w9.heap.size := mk.bel.size
      have O9 : Hid (FnO wB.heap.size own w9 (.slice ia gn icap) G.blocks) := O8.out.same (fun g hg => mk.above g (by have := O8.out.low g hg; omega) (O8.out.high g hg)) hs9
      have BS9 : Hid (Below wS.heap.size wS w9) := BS8.out.trans mk.bel
      have BA9 : Hid (Below wA.heap.size wA w9) := Bel.after BAS.out BS9.out
      replace a0 := Bel.keeps BA9.out HA0.out
      replace a1' := Bel.keeps BA9.out HA1.out
      replace s0 := Bel.keeps BS9.out HS0.out
      replace s1 := Bel.keeps BS9.out HS1.out
      replace i0 := (cell_same (mk.above IB (by omega) (by omega)) _).trans i0
      replace i1 := (cell_same (mk.above IB (by omega) (by omega)) _).trans i1
      have hz1 : ¬ z < 0 := by omega
      clear mk x0 x1
      go_wp2_with fail
      refine (eqFn_same _ _ G _ (FnAtLo.low (Nat.zero_le _) (O9.out.fnAt HGV.out)) (FS.out.later BS9.out)).mono ?_
      rintro e w10 ⟨rfl, b10⟩
      have B910 : Hid (Below w9.heap.size w9 w10) := b10
      have O10 : Hid (FnO wB.heap.size own w10 (.slice ia gn icap) G.blocks) := O9.out.keep b10
      have BS10 : Hid (Below wS.heap.size wS w10) := Bel.after BS9.out b10
      have hs10 : w9.heap.size ≤ w10.heap.size := b10.size
      replace a0 := Bel.keeps b10 a0
      replace a1' := Bel.keeps b10 a1'
      replace s0 := Bel.keeps b10 s0
      replace s1 := Bel.keeps b10 s1
      replace i0 := Bel.keeps b10 i0
      replace i1 := Bel.keeps b10 i1
      clear b10
      obtain ⟨t, HT⟩ : ∃ t, Hid (blocksT w10 (.slice ia gn icap) = t) := ⟨_, rfl⟩
      obtain ⟨tr, nd⟩ := O10.out.tree (F := G) HSG.out HHI.out
      rw [HT.out] at tr nd
      have TR : Hid (FnTr wB.heap.size IB w10 (.agg #[.slice ia gn icap, .int .i64 gv]) t gv) := ⟨_, rfl, tr⟩
      have ND : Hid ((blocksSp t).Nodup) := nd
      obtain ⟨M, HM⟩ : ∃ M : Int, Hid (1 + ((blocksSp t).length : Int) = M) := ⟨_, rfl⟩
      have hM0 : ¬ M < 0 := by have := HM.out; omega
      clear tr nd
      go_wp2_with fail
      refine (markFn_wr wB.heap.size IB _ t gv 1 _ TR.out ND.out (by omega) (by omega) (by omega) (by omega)).mono ?_
      rw [HM.out]
      rintro e w11 ⟨rfl, mf⟩
      have HAS : Hid (Has w11 (blocksSp t) 1) := mf.has
      have TR11 : Hid (FnTr wB.heap.size IB w11 (.agg #[.slice ia gn icap, .int .i64 gv]) t gv) := TR.out.stay mf.stays
      have hs11 : w10.heap.size ≤ w11.heap.size := mf.marked.bel.size
      have BS11 : Hid (Below wS.heap.size wS w11) := BS10.out.trans (mf.marked.bel.mono (by omega))
      have BA11 : Hid (Below wA.heap.size wA w11) := Bel.after BAS.out BS11.out
      replace a0 := Bel.keeps BA11.out HA0.out
      replace a1' := Bel.keeps BA11.out HA1.out
      replace s0 := Bel.keeps BS11.out HS0.out
      replace s1 := Bel.keeps BS11.out HS1.out
      replace i0 := (cell_same (mf.marked.above IB (Nat.le_refl _) (by omega)) _).trans i0
      replace i1 := (cell_same (mf.marked.above IB (Nat.le_refl _) (by omega)) _).trans i1
      clear mf
      go_wp2_with fail
      refine (heldFn_has wB.heap.size IB _ t gv 1 _ TR11.out HAS.out (by omega) (by omega)).mono ?_
      rintro e w12 ⟨he, b12⟩
      rw [HM.out] at he
      subst he
      have HAS12 : Hid (Has w12 (blocksSp t) 1) := HAS.out.keep b12
      have TR12 : Hid (FnTr wB.heap.size IB w12 (.agg #[.slice ia gn icap, .int .i64 gv]) t gv) := TR11.out.stay (Stays.below b12)
      have BS12 : Hid (Below wS.heap.size wS w12) := Bel.after BS11.out b12
      have BA12 : Hid (Below wA.heap.size wA w12) := Bel.after BA11.out b12
      replace a0 := Bel.keeps b12 a0
      replace a1' := Bel.keeps b12 a1'
      replace s0 := Bel.keeps b12 s0
      replace s1 := Bel.keeps b12 s1
      replace i0 := Bel.keeps b12 i0
      replace i1 := Bel.keeps b12 i1
      clear b12
      go_wp2_with fail
      refine (toFn_any _ F0 _ (HF.out.later (Bel.after HwA.out BA12.out)) HS.out).mono ?_
      rintro e w13 ⟨v5, rfl, hf5, b13, _⟩
      have F5 : Hid (FnAt w13 v5 F0) := FnAtLo.low (Nat.zero_le _) hf5
      have B1213 : Hid (Below w12.heap.size w12 w13) := b13
      replace s0 := Bel.keeps b13 s0
      replace s1 := Bel.keeps b13 s1
      replace i0 := Bel.keeps b13 i0
      replace i1 := Bel.keeps b13 i1
      clear b13 hf5 a0 a1'
      go_wp2_with fail
      refine (impl_fold v5 F0 _ F5.out HS.out (HG.out.keep (Bel.after HwA.out (Bel.after BA12.out B1213.out)))).mono ?_
      rw [HGF.out]
      rintro e w14 ⟨hv, ownH, rfl, o14, b14⟩
      rw [HGV.out]
      have FH : Hid (FnAt w14 (.agg #[hv, .int .i64 gv]) G) := FnAtLo.low (Nat.zero_le _) (o14.fnAt HGV.out)
      obtain ⟨ha, hcap, hhv⟩ := o14.rows.is
      rw [HGN.out] at hhv
      subst hhv
      have B1214 : Hid (Below w12.heap.size w12 w14) := Bel.after B1213.out b14
      replace s0 := Bel.keeps b14 s0
      replace s1 := Bel.keeps b14 s1
      replace i0 := Bel.keeps b14 i0
      replace i1 := Bel.keeps b14 i1
      have hS14 : SB < w14.heap.size := World.block_lt_of_cell? w14 _ s0
      have hI14 : IB < w14.heap.size := World.block_lt_of_cell? w14 _ i0
      clear b14 o14
      go_wp2_with fail
      have BN : Hid (Below w14.heap.size w14 (w14.alloc (.cells #[.slice ha gn hcap, .int .i64 gv] 28))) := Bel.alloc _ _
      refine (eqFn_same _ _ G _ (FH.out.later BN.out) (FS.out.later (Bel.after BS12.out (Bel.after B1214.out BN.out)))).mono ?_
      rintro e w15 ⟨rfl, b15⟩
      have B1215 : Hid (Below w12.heap.size w12 w15) := Bel.after (Bel.after B1214.out BN.out) b15
      replace i0 := Bel.keeps b15 (Bel.keeps BN.out i0)
      replace i1 := Bel.keeps b15 (Bel.keeps BN.out i1)
      clear b15 s0 s1
      go_wp2_with fail
      refine (heldFn_has wB.heap.size IB _ t gv 1 _ (TR12.out.stay (Stays.below B1215.out)) (HAS12.out.keep B1215.out) (by omega) (by omega)).mono ?_
      rintro e w16 ⟨he, b16⟩
      rw [HM.out] at he
      subst he
      go_wp2_with fail
      go_ret
      exact ⟨rfl, Bel.after HwA.out (Bel.after BA12.out (Bel.after B1215.out b16))⟩
set_option maxRecDepth 100000 in
theorem lifted (os : Os) (started : os.Started) (H : Type) (enc : TypeId × Value → H) :
    ReturnsInHanded {} Tryz.checked os 3 .any (fun w args => (Rows.fnExactFoldSpec.pre enc Tryz.prog Tryz.f3 [] false w args ∧ laidMetH Tryz.prog Rows.fnExactFoldRow.laid w) ∧ sizedMet enc Tryz.prog Tryz.f3 (OpenSpec.ofChange Rows.fnExactFoldSpec) false w args)
      (Rows.fnExactFoldSpec.post enc Tryz.prog Tryz.f3 false true false false) := by
  refine returnsInHanded_of_change_and (C := Tryz.checked) (X := fun w _ => laidMetH Tryz.prog Rows.fnExactFoldRow.laid w) (fun _ _ _ hh h => h.of_heap hh) own started (by kernel_rfl) Tryz.func3
    (ChangeSpec.witness_at (enc := enc) (C := Tryz.checked) (os := os) (X := fun w _ => laidMetH Tryz.prog Rows.fnExactFoldRow.laid w) false (laidWorld os) #[.agg #[.slice none 0 0, .int .i64 0]] 8 rfl (by kernel_rfl) (by kernel_rfl) (by kernel_rfl) (by kernel_rfl) (by kernel_rfl) (laidWorld_met os _)) ?_
  intro W base args ds gs before hval0 hW _ _ hL _
  have hval : ∀ (j : Nat) t v, Tryz.f3.params[j]? = some t → args[j]? = some v → Value.okWide Tryz.prog W .any base t v := hval0
  have hW' := hW
  obtain ⟨p, q, hA0, hV, rfl, hfz, hnd⟩ := hW
  have hA : DataW.TrodAll enc Tryz.prog W 0 (fun _ => true) true Tryz.f3.params.toList args.toList ds p := hA0
  rw [Tryz.params3] at hA hval
  obtain ⟨v0, vs0, d0, ds0, p0, q0, hargs, rfl, rfl, h0, r0x⟩ := trodAll_cons hA
  obtain ⟨rfl, rfl, rfl⟩ := trodAll_nil r0x
  obtain rfl : args = #[v0] := by cases args; simp_all
  obtain ⟨rfl, rfl⟩ := trodVars_none hV
  have hg := of_laid hL
  have k0 := h0
  have lt0 : ∀ x ∈ p0, x.block < W.heap.size := by obtain ⟨m, hm⟩ := k0; exact DataW.trod_lt m _ _ _ hm
  obtain ⟨F0, hF0⟩ := openFn (hval 0 24 v0 rfl rfl) h0
  clear hA0 hval0
  refine (walk W v0 F0 hF0 hg).mono fun e W' ⟨he, bel⟩ => ?_
  subst he
  exact ⟨_, rfl, _, _, _, [], _, [], hW', trodAll_mk1 (shut_bool Tryz.underlying4 _), (trodAll_cons_mk (Below.trod laidOut (by kernel_rfl) (of_decide_eq_true (by kernel_rfl)) k0 bel lt0) trodAll_mk0), rfl, bel.frame _, fun h => by cases h⟩
theorem over : Rows.fnExactFoldRow.holds Tryz.pinned (OpenSpec.ofChange Rows.fnExactFoldSpec) :=
  OpenClaim.holds_of_wide 3 Tryz.f3 rfl rfl rfl rfl rfl rfl rfl ⟨rfl, rfl, rfl, rfl, rfl⟩ rfl rfl rfl rfl rfl (by kernel_rfl) Tryz.func3 (by kernel_rfl)
    (of_decide_eq_true (by kernel_rfl)) (by unfold Func.isWrapper; first | (rw [if_pos (by decide +kernel)]; kernel_rfl) | (rw [if_neg (by decide +kernel)]; exact ⟨rfl, rfl⟩))
    (fun os started H enc _ => lifted os started H enc)
theorem proved : Rows.FnExactFoldCardSaid :=
  Claim7.holds_tied_plain_at .later [] [.handle] true Rows.fnExactFoldCard.stood.harness true
    over (fun _ h => by cases h) (by kernel_rfl) (fun _ h => by cases h) fnExactFold_row_tie rfl ⟨rfl, rfl⟩ (by kernel_rfl) rfl
    (fun f fn hf hfn => by
      obtain rfl : f = 3 := Option.some.inj ((show Tryz.prog.funcNamed Rows.fnExactFoldRow.func = some 3 by kernel_rfl).symm.trans hf) |>.symm
      obtain rfl : fn = Tryz.f3 := (Option.some.inj (Tryz.func3.symm.trans hfn)).symm
      exact ⟨by kernel_rfl, fun j t ht => by
        rw [Tryz.params3] at ht
        have hm : t ∈ [24] := by simpa using Array.mem_of_getElem? ht
        have hall : ([24].all fun u => !Tryz.prog.wantsStandIn u) = true := by kernel_rfl
        exact (show Tryz.prog.wantsStandIn t = false by simpa using List.all_eq_true.1 hall t hm)⟩)
    (by kernel_rfl)
#print axioms proved
end Go.Proofs.YtfmdnjnmbkgmjaaGreatDoor.fnExactFold
