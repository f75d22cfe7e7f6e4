/- Proved: for every bytes the law FnExactUnpackFn returns true: the program's UnpackFn answers as the model's, field by field, writes into no argument, and its answer owns its memory, behind another call too; its argument and the program's table of names read afterwards as before. Condition: the package-level table of names holds, when the call begins, what the program's text lays in it; the card ties that to the text of the pruned copy of the project. -/
import Derived.Test.YthdioeeanodjiaaDoorRows
import Derived.Test.YthdioeeanodjiaaDoorKUa
import Derived.Test.YthdioeeanodjiaaDoorTie
import Derived.Test.YthdioeeanodjiaaDoorCards
import Derived.SevenTiedAt
import Derived.Test.YthdioeeanodjiaaDoorUkImK
import Derived.Test.YthdioeeanodjiaaDoorUsFnK
import Derived.Test.YthdioeeanodjiaaDoorEqK
import Derived.Test.YthdioeeanodjiaaDoorKHe
import Derived.Test.YthdioeeanodjiaaDoorOwnTrK
import Derived.Test.YthdioeeanodjiaaDoorKEb
import Derived.Test.YthdioeeanodjiaaDoorKDq
import Derived.Test.YthdioeeanodjiaaDoorToK
import Derived.WalkKit
import Derived.ProofKit
import Derived.OpenShut
import Derived.ShutString
import Derived.ChangeOld
import Derived.Below
namespace Go.Proofs.YthdioeeanodjiaaDoor.fnExactUnpackFn
open Go.ChangeShapes Go.WideShapes Go.ChangeAt Go.RowKit
open Go.ChangeMaps (open_string shut_string)
set_option linter.unusedVariables false

theorem laidOut : laidOutB Tryd.prog = true := by kernel_rfl

set_option maxHeartbeats 4000000 in
theorem walk (w : World) (a0 : Option Addr) (len0 cap0 : Nat) (z0 : List Int) (r0 : IsRow .u8 w a0 len0 cap0 z0) (hT : Tab w) :
    Calls Tryd.prog 4 #[.slice a0 len0 cap0] w fun e w' => e = .returned (.bool true) ∧ Below w.heap.size w w' := by
  obtain ⟨l, hl, hb⟩ := r0.bytes
  have HB : Hid (BytesAt w (.slice a0 len0 cap0) l) := hb
  have HL : Hid (l.length = len0) := hl
  have HT : Hid (Tab w) := hT
  clear hl hb r0 hT
  by_cases hbig : (1048576 : Int) < (len0 : Int)
  · go_enter Tryd.func4, Tryd.ntmps4
    go_wp2_with fail
    go_ret
    exact ⟨rfl, Below.refl _ _⟩
  · have HS : Hid (l.length ≤ 1048576) := by rw [HL.out]; show _ ≤ _; omega
    go_enter Tryd.func4, Tryd.ntmps4
    go_wp2_with fail
    refine (toByteS_any _ l _ HB.out HS.out).mono ?_
    rintro e w1 ⟨v1, rfl, o1, b1⟩
    have B1 : Hid (Below w.heap.size w w1) := b1
    have O1 : Hid (BytesAt w1 v1 l) := o1.at
    clear o1 b1
    go_wp2_with fail
    refine (spec_unpackFn v1 l w1 O1.out HS.out).mono ?_
    rintro e w2 ⟨G, sv, r, rfl, hf, b2, hu⟩
    have B2 : Hid (Below w.heap.size w w2) := Bel.after B1.out b2
    have HU : Hid (UnAns l G r) := hu
    obtain ⟨gn, HGN⟩ : ∃ q, Hid (G.blocks.length = q) := ⟨_, rfl⟩
    obtain ⟨gv, HGV⟩ : ∃ q, Hid (G.values = q) := ⟨_, rfl⟩
    rw [HGV.out] at hf ⊢
    have FS2 : Hid (FnAt w2 (.agg #[sv, .int .i64 gv]) G) := hf
    obtain ⟨sv2, he, sa, scap, hsv, _, _⟩ := hf
    have he2 : sv = sv2 := by simp at he; exact he.1
    rw [← he2, HGN.out] at hsv
    subst hsv
    clear he he2 b2 hu
    go_wp2_with fail
    have BS : Hid (Below w2.heap.size w2 (w2.alloc (.cells #[.slice sa gn scap, .int .i64 gv] 26))) := Bel.alloc _ _
    have s0 : (w2.alloc (.cells #[.slice sa gn scap, .int .i64 gv] 26)).cell? ⟨w2.heap.size, 0, none⟩ = some (.slice sa gn scap) := by simp [go_sem]
    have s1 : (w2.alloc (.cells #[.slice sa gn scap, .int .i64 gv] 26)).cell? ⟨w2.heap.size, 1, none⟩ = some (.int .i64 gv) := by simp [go_sem]
    have hsS : (w2.alloc (.cells #[.slice sa gn scap, .int .i64 gv] 26)).heap.size = w2.heap.size + 1 := by simp
    generalize w2.alloc (.cells #[.slice sa gn scap, .int .i64 gv] 26) = wS at BS s0 s1 hsS ⊢
    obtain ⟨SB, HSB⟩ : ∃ q, Hid (w2.heap.size = q) := ⟨_, rfl⟩
    rw [HSB.out] at s0 s1 hsS ⊢
    have HSS : Hid (wS.heap.size = SB + 1) := hsS
    have HS0 : Hid (wS.cell? ⟨SB, 0, none⟩ = some (.slice sa gn scap)) := s0
    have HS1 : Hid (wS.cell? ⟨SB, 1, none⟩ = some (.int .i64 gv)) := s1
    have FS : Hid (FnAt wS (.agg #[.slice sa gn scap, .int .i64 gv]) G) := FS2.out.later BS.out
    have BWS : Hid (Below w.heap.size w wS) := Bel.after B2.out BS.out
    clear hsS
    refine (toByteS_any _ l _ (HB.out.keep BWS.out) HS.out).mono ?_
    rintro e w4 ⟨v2, rfl, o4, b4⟩
    have O4 : Hid (OwnB w4 wS.heap.size v2 l) := o4
    have BS4 : Hid (Below wS.heap.size wS w4) := b4
    replace s0 := Bel.keeps b4 s0
    replace s1 := Bel.keeps b4 s1
    clear o4 b4
    go_wp2_with fail
    refine (impl_unpackFn v2 l w4 O4.out.at HS.out (fun i hi => Bel.keeps (Bel.after BWS.out BS4.out) (HT.out i hi))).mono ?_
    rintro e w5 ⟨G', iv, own, r', rfl, o5, hsm, b5, hu⟩
    obtain ⟨er, eG⟩ := HU.out.same hu
    subst er eG
    rw [HGV.out]
    have O5 : Hid (FnO w4.heap.size own w5 iv G.blocks) := o5
    have HSM : Hid (FnSmall G) := ⟨by have := hsm.1; omega, fun x hx => ⟨by have := (hsm.2 x hx).1; omega, by have := (hsm.2 x hx).2.2; omega, fun p hp => by have h9 := (hsm.2 x hx).2.1 p hp; unfold phiLim at h9; show p.arms.length ≤ 1048576; omega⟩⟩
    have B45 : Hid (Below w4.heap.size w4 w5) := b5
    obtain ⟨ia, icap, hiv⟩ := o5.rows.is
    rw [HGN.out] at hiv
    subst hiv
    replace s0 := Bel.keeps b5 s0
    replace s1 := Bel.keeps b5 s1
    have hS5 : SB < w5.heap.size := World.block_lt_of_cell? w5 _ s0
    clear o5 hsm b5 hu
    go_wp2_with fail
    clear hS5
    have BI : Hid (Below w5.heap.size w5 (w5.alloc (.cells #[.slice ia gn icap, .int .i64 gv] 26))) := Bel.alloc _ _
    have i0 : (w5.alloc (.cells #[.slice ia gn icap, .int .i64 gv] 26)).cell? ⟨w5.heap.size, 0, none⟩ = some (.slice ia gn icap) := by simp [go_sem]
    have i1 : (w5.alloc (.cells #[.slice ia gn icap, .int .i64 gv] 26)).cell? ⟨w5.heap.size, 1, none⟩ = some (.int .i64 gv) := by simp [go_sem]
    have hsI : (w5.alloc (.cells #[.slice ia gn icap, .int .i64 gv] 26)).heap.size = w5.heap.size + 1 := by simp
    replace s0 := Bel.keeps BI.out s0
    replace s1 := Bel.keeps BI.out s1
    generalize w5.alloc (.cells #[.slice ia gn icap, .int .i64 gv] 26) = wI at BI i0 i1 hsI s0 s1 ⊢
    obtain ⟨IB, HIB⟩ : ∃ q, Hid (w5.heap.size = q) := ⟨_, rfl⟩
    rw [HIB.out] at i0 i1 hsI ⊢
    have HSI : Hid (wI.heap.size = IB + 1) := hsI
    have HI0 : Hid (wI.cell? ⟨IB, 0, none⟩ = some (.slice ia gn icap)) := i0
    have HI1 : Hid (wI.cell? ⟨IB, 1, none⟩ = some (.int .i64 gv)) := i1
    have OI : Hid (FnO w4.heap.size own wI (.slice ia gn icap) G.blocks) := O5.out.keep BI.out
    have HHI : Hid (∀ g, (own g).1 ≤ 3 → g < IB) := fun g hg => by have := O5.out.high g hg; have := HIB.out; omega
    have BSI : Hid (Below wS.heap.size wS wI) := Bel.after BS4.out (Bel.after B45.out BI.out)
    have B4I : Hid (Below w4.heap.size w4 wI) := Bel.after B45.out BI.out
    have O4I : Hid (OwnB wI wS.heap.size v2 l) := O4.out.keep B4I.out
    have HV2 : Hid (∀ g, v2.ownBlock = some g → wS.heap.size ≤ g ∧ g < w4.heap.size) := O4.out.lt
    have hrr : (r != r) = false := by simp
    clear hsI
    refine (eqFn_same _ _ G _ (FnAtLo.low (Nat.zero_le _) (OI.out.fnAt HGV.out)) (FS.out.later BSI.out)).mono ?_
    rintro e w6 ⟨rfl, b6⟩
    have BI6 : Hid (Below wI.heap.size wI w6) := b6
    replace s0 := Bel.keeps b6 s0
    replace s1 := Bel.keeps b6 s1
    replace i0 := Bel.keeps b6 i0
    replace i1 := Bel.keeps b6 i1
    clear b6
    go_wp2_with fail
    have BW6 : Hid (Below w.heap.size w w6) := Bel.after BWS.out (Bel.after BSI.out BI6.out)
    refine (toByteS_any _ l _ (HB.out.keep BW6.out) HS.out).mono ?_
    rintro e w7 ⟨v3, rfl, o7, b7⟩
    have O7 : Hid (BytesAt w7 v3 l) := o7.at
    have BI7 : Hid (Below wI.heap.size wI w7) := Bel.after BI6.out b7
    replace s0 := Bel.keeps b7 s0
    replace s1 := Bel.keeps b7 s1
    replace i0 := Bel.keeps b7 i0
    replace i1 := Bel.keeps b7 i1
    clear o7 b7
    go_wp2_with fail
    refine (eqByteS_same v2 v3 l _ (O4I.out.keep BI7.out).at O7.out).mono ?_
    rintro e w8 ⟨rfl, b8⟩
    have BI8 : Hid (Below wI.heap.size wI w8) := Bel.after BI7.out b8
    replace s0 := Bel.keeps b8 s0
    replace s1 := Bel.keeps b8 s1
    replace i0 := Bel.keeps b8 i0
    replace i1 := Bel.keeps b8 i1
    clear b8
    have hs8 := BI8.out.size
    have hsS4 := BS4.out.size
    have hs4I := B4I.out.size
    have hSSS := HSS.out
    have hSII := HSI.out
    have hll := HS.out
    go_wp2_with fail
    refine (markByteS_ownX wS.heap.size v2 l 1 _ (O4I.out.keep BI8.out) (by omega) (by omega)).mono ?_
    rintro e w9 ⟨rfl, b9, _, hoth, hsz9⟩
    have HOT : Hid (∀ g, v2.ownBlock ≠ some g → w9.heap[g]? = w8.heap[g]?) := hoth
    have HZ9 : Hid (w9.heap.size = w8.heap.size) := hsz9
    have BS9 : Hid (Below wS.heap.size wS w9) := (BSI.out.trans (BI8.out.mono (by omega))).trans b9
    have O9 : Hid (FnO w4.heap.size own w9 (.slice ia gn icap) G.blocks) := (OI.out.keep BI8.out).same (fun g hg => HOT.out g (fun e => by have := (HV2.out g e).2; have := OI.out.low g hg; omega)) (by omega)
    have hIBne : v2.ownBlock ≠ some IB := fun e => by have := (HV2.out IB e).2; have := HIB.out; have := B45.out.size; omega
    replace s0 := Bel.keeps BS9.out HS0.out
    replace s1 := Bel.keeps BS9.out HS1.out
    replace i0 := (cell_same (HOT.out IB hIBne) _).trans i0
    replace i1 := (cell_same (HOT.out IB hIBne) _).trans i1
    obtain ⟨z, hz⟩ : ∃ z : Int, ((1 : Nat) : Int) + (l.length : Int) = z := ⟨_, rfl⟩
    have hz0 : ¬ z < 0 := by omega
    rw [hz]
    clear hz b9 hoth hsz9 hIBne
    go_wp2_with fail
    refine (eqFn_same _ _ G _ (FnAtLo.low (Nat.zero_le _) (O9.out.fnAt HGV.out)) (FS.out.later BS9.out)).mono ?_
    rintro e w10 ⟨rfl, b10⟩
    have O10 : Hid (FnO w4.heap.size own w10 (.slice ia gn icap) G.blocks) := O9.out.keep b10
    have BS10 : Hid (Below wS.heap.size wS w10) := Bel.after BS9.out b10
    have B910 : Hid (Below w9.heap.size w9 w10) := b10
    have hs9 := HZ9.out
    have hs10 := b10.size
    replace s0 := Bel.keeps b10 s0
    replace s1 := Bel.keeps b10 s1
    replace i0 := Bel.keeps b10 i0
    replace i1 := Bel.keeps b10 i1
    have HI10 : Hid (w10.cell? ⟨IB, 0, none⟩ = some (.slice ia gn icap) ∧ w10.cell? ⟨IB, 1, none⟩ = some (.int .i64 gv)) := ⟨i0, i1⟩
    clear b10
    obtain ⟨t, HTT⟩ : ∃ t, Hid (blocksT w10 (.slice ia gn icap) = t) := ⟨_, rfl⟩
    obtain ⟨tr, nd⟩ := O10.out.tree (F := G) HSM.out HHI.out
    rw [HTT.out] at tr nd
    have TR : Hid (FnTr w4.heap.size IB w10 (.agg #[.slice ia gn icap, .int .i64 gv]) t gv) := ⟨_, rfl, tr⟩
    have ND : Hid ((blocksSp t).Nodup) := nd
    obtain ⟨M, HM⟩ : ∃ M : Int, Hid (1 + ((blocksSp t).length : Int) = M) := ⟨_, rfl⟩
    have hM0 : ¬ M < 0 := by have := HM.out; omega
    clear tr nd
    go_wp2_with fail
    refine (markFn_wr w4.heap.size IB _ t gv 1 _ TR.out ND.out (by omega) (by omega) (by omega) (by omega)).mono ?_
    rw [HM.out]
    rintro e w11 ⟨rfl, mf⟩
    have HAS : Hid (Has w11 (blocksSp t) 1) := mf.has
    have TR11 : Hid (FnTr w4.heap.size IB w11 (.agg #[.slice ia gn icap, .int .i64 gv]) t gv) := TR.out.stay mf.stays
    have hs11 : w10.heap.size ≤ w11.heap.size := mf.marked.bel.size
    have BS11 : Hid (Below wS.heap.size wS w11) := BS10.out.trans (mf.marked.bel.mono (by omega))
    replace s0 := Bel.keeps BS11.out HS0.out
    replace s1 := Bel.keeps BS11.out HS1.out
    replace i0 := (cell_same (mf.marked.above IB (Nat.le_refl _) (by omega)) _).trans i0
    replace i1 := (cell_same (mf.marked.above IB (Nat.le_refl _) (by omega)) _).trans i1
    clear mf
    go_wp2_with fail
    refine (heldFn_has w4.heap.size IB _ t gv 1 _ TR11.out HAS.out (by omega) (by omega)).mono ?_
    rintro e w12 ⟨he, b12⟩
    rw [HM.out] at he
    subst he
    have HAS12 : Hid (Has w12 (blocksSp t) 1) := HAS.out.keep b12
    have TR12 : Hid (FnTr w4.heap.size IB w12 (.agg #[.slice ia gn icap, .int .i64 gv]) t gv) := TR11.out.stay (Stays.below b12)
    have BS12 : Hid (Below wS.heap.size wS w12) := Bel.after BS11.out b12
    replace s0 := Bel.keeps b12 s0
    replace s1 := Bel.keeps b12 s1
    replace i0 := Bel.keeps b12 i0
    replace i1 := Bel.keeps b12 i1
    clear b12
    have BW12 : Hid (Below w.heap.size w w12) := Bel.after BWS.out BS12.out
    go_wp2_with fail
    refine (toByteS_any _ l _ (HB.out.keep BW12.out) HS.out).mono ?_
    rintro e w13 ⟨v5, rfl, o13, b13⟩
    have O13 : Hid (BytesAt w13 v5 l) := o13.at
    have B1213 : Hid (Below w12.heap.size w12 w13) := b13
    replace s0 := Bel.keeps b13 s0
    replace s1 := Bel.keeps b13 s1
    replace i0 := Bel.keeps b13 i0
    replace i1 := Bel.keeps b13 i1
    clear b13 o13
    go_wp2_with fail
    refine (impl_unpackFn v5 l w13 O13.out HS.out (fun i hi => Bel.keeps (Bel.after BW12.out B1213.out) (HT.out i hi))).mono ?_
    rintro e w14 ⟨G', hv, ownH, r', rfl, o14, _, b14, hu⟩
    obtain ⟨er, eG⟩ := HU.out.same hu
    subst er eG
    rw [HGV.out]
    have FH : Hid (FnAt w14 (.agg #[hv, .int .i64 gv]) G) := FnAtLo.low (Nat.zero_le _) (o14.fnAt HGV.out)
    obtain ⟨ha, hcap, hhv⟩ := o14.rows.is
    rw [HGN.out] at hhv
    subst hhv
    have B1214 : Hid (Below w12.heap.size w12 w14) := Bel.after B1213.out b14
    replace s0 := Bel.keeps b14 s0
    replace s1 := Bel.keeps b14 s1
    replace i0 := Bel.keeps b14 i0
    replace i1 := Bel.keeps b14 i1
    have hS14 : SB < w14.heap.size := World.block_lt_of_cell? w14 _ s0
    have hI14 : IB < w14.heap.size := World.block_lt_of_cell? w14 _ i0
    clear b14 o14 hu
    go_wp2_with fail
    have BN : Hid (Below w14.heap.size w14 (w14.alloc (.cells #[.slice ha gn hcap, .int .i64 gv] 26))) := Bel.alloc _ _
    refine (eqFn_same _ _ G _ (FH.out.later BN.out) (FS.out.later (Bel.after BS12.out (Bel.after B1214.out BN.out)))).mono ?_
    rintro e w15 ⟨rfl, b15⟩
    have B1215 : Hid (Below w12.heap.size w12 w15) := Bel.after (Bel.after B1214.out BN.out) b15
    replace i0 := Bel.keeps b15 (Bel.keeps BN.out i0)
    replace i1 := Bel.keeps b15 (Bel.keeps BN.out i1)
    clear b15 s0 s1
    go_wp2_with fail
    refine (heldFn_has w4.heap.size IB _ t gv 1 _ (TR12.out.stay (Stays.below B1215.out)) (HAS12.out.keep B1215.out) (by omega) (by omega)).mono ?_
    rintro e w16 ⟨he, b16⟩
    rw [HM.out] at he
    subst he
    go_wp2_with fail
    go_ret
    exact ⟨rfl, Bel.after BW12.out (Bel.after B1215.out b16)⟩

set_option maxRecDepth 100000 in
theorem lifted (os : Os) (started : os.Started) (H : Type) (enc : TypeId × Value → H) :
    ReturnsInHanded {} Tryd.checked os 4 .any (fun w args => (Rows.fnExactUnpackFnSpec.pre enc Tryd.prog Tryd.f4 [] false w args ∧ laidMetH Tryd.prog Rows.fnExactUnpackFnRow.laid w) ∧ sizedMet enc Tryd.prog Tryd.f4 (OpenSpec.ofChange Rows.fnExactUnpackFnSpec) false w args)
      (Rows.fnExactUnpackFnSpec.post enc Tryd.prog Tryd.f4 false true false false) := by
  refine returnsInHanded_of_change_and (C := Tryd.checked) (X := fun w _ => laidMetH Tryd.prog Rows.fnExactUnpackFnRow.laid w) (fun _ _ _ hh h => h.of_heap hh) own started (by kernel_rfl) Tryd.func4
    (ChangeSpec.witness_shaped (enc := enc) (C := Tryd.checked) (os := os) (X := fun w _ => laidMetH Tryd.prog Rows.fnExactUnpackFnRow.laid w) false (World.doorLaid Tryd.prog 400 os) #[.slice none 0 0] 8 rfl (World.shaped_of_RefB (by kernel_rfl) (by kernel_rfl)) (by kernel_rfl) (by kernel_rfl) (by kernel_rfl) (door_met os _)) ?_
  intro W base args ds gs before hval0 hW _ _ hL _
  have hval : ∀ (j : Nat) t v, Tryd.f4.params[j]? = some t → args[j]? = some v → Value.okWide Tryd.prog W .any base t v := hval0
  have hW' := hW
  obtain ⟨p, q, hA0, hV0, rfl, hfz, hnd⟩ := hW
  have hA : DataW.TrodAll enc Tryd.prog W 0 (fun _ => true) true Tryd.f4.params.toList args.toList ds p := hA0
  rw [Tryd.params4] at hA hval
  obtain ⟨v0, vs0, d0, ds0, p0, q0, hargs, rfl, rfl, h0, r0x⟩ := trodAll_cons hA
  obtain ⟨rfl, rfl, rfl⟩ := trodAll_nil r0x
  obtain rfl : args = #[v0] := by cases args; simp_all
  have hV : DataW.TrodVars enc Tryd.prog W (fun _ => true) [tabName] gs q := hV0
  obtain ⟨g, t, cs, fuel, dv, pv, rfl, hg, ht, hvar, hd, rfl⟩ := trodVars_one hV
  obtain rfl := Option.some.inj (gTab.symm.trans hg)
  obtain rfl := Option.some.inj (tTab.symm.trans ht)
  have hT := of_laid hL
  have hlt0 : 0 < W.heap.size := World.block_lt_of_cell? W _ (hT 0 (by omega))
  have hltv : ∀ x ∈ pv, x.block < W.heap.size := fun x hx => hW'.lt x (List.mem_append_right _ (List.mem_append_right _ hx))
  have k0 := h0
  have lt0 : ∀ x ∈ p0, x.block < W.heap.size := by obtain ⟨m, hm⟩ := k0; exact DataW.trod_lt m _ _ _ hm
  obtain ⟨a0, len0, cap0, rfl⟩ := okWide_slice Tryd.underlying22 (hval 0 22 v0 rfl rfl)
  obtain ⟨z0, r0⟩ : ∃ zs, IsRow .u8 W a0 len0 cap0 zs := by
    obtain ⟨fuel, hf⟩ := h0
    rcases open_ints Tryd.underlying22 Tryd.underlying5 (by kernel_rfl) hf with ⟨hcs, _⟩ | ⟨x, l, c, zs, hcs, _, hl, hm, hz, _, hcell, hwz⟩
    · simp [Value.cells] at hcs
      obtain ⟨rfl, rfl, rfl⟩ := hcs
      exact ⟨[], .inl ⟨rfl, rfl, rfl, rfl⟩⟩
    · simp [Value.cells] at hcs
      obtain ⟨rfl, rfl, rfl⟩ := hcs
      exact ⟨zs, .inr ⟨_, rfl, hl, hm, by simpa using hz, hcell, hwz⟩⟩
  clear hA0 hV0 hval0
  refine (walk W a0 len0 cap0 z0 r0 hT).mono fun e W' ⟨he, bel⟩ => ?_
  subst he
  exact ⟨_, rfl, _, _, _, [], _, (MemPlace.row ⟨0, 0, none⟩ cs.size ++ pv), hW', trodAll_mk1 (shut_bool Tryd.underlying4 _), (trodAll_cons_mk (Below.trod laidOut (by kernel_rfl) (of_decide_eq_true (by kernel_rfl)) k0 bel lt0) trodAll_mk0), vars_again hvar hd hltv hlt0 bel, bel.frame _, fun h => by cases h⟩

theorem over : Rows.fnExactUnpackFnRow.holds Tryd.pinned (OpenSpec.ofChange Rows.fnExactUnpackFnSpec) :=
  OpenClaim.holds_of_wide 4 Tryd.f4 rfl rfl rfl rfl rfl rfl rfl ⟨rfl, rfl, rfl, rfl, rfl⟩ rfl rfl rfl rfl rfl (by kernel_rfl) Tryd.func4 (by kernel_rfl)
    (of_decide_eq_true (by kernel_rfl)) (by unfold Func.isWrapper; first | (rw [if_pos (by decide +kernel)]; kernel_rfl) | (rw [if_neg (by decide +kernel)]; exact ⟨rfl, rfl⟩))
    (fun os started H enc _ => lifted os started H enc)

/-- The card: the row, its listed variable tied to the program's text. -/
theorem proved : Rows.FnExactUnpackFnCardSaid :=
  Claim7.holds_tied_plain_at .later [] [.data] true Rows.fnExactUnpackFnCard.stood.harness Rows.fnExactUnpackFnCard.stood.looks
    over (fun _ h => by cases h) (by kernel_rfl) (fun _ h => by cases h) fnExactUnpackFn_row_tie rfl ⟨rfl, rfl⟩ (by kernel_rfl) rfl
    (fun f fn hf hfn => by
      obtain rfl : f = 4 := Option.some.inj ((show Tryd.prog.funcNamed Rows.fnExactUnpackFnRow.func = some 4 by kernel_rfl).symm.trans hf) |>.symm
      obtain rfl : fn = Tryd.f4 := (Option.some.inj (Tryd.func4.symm.trans hfn)).symm
      exact ⟨by kernel_rfl, fun j t ht => by
        rw [Tryd.params4] at ht
        have hm : t ∈ [22] := by simpa using Array.mem_of_getElem? ht
        have hall : ([22].all fun u => !Tryd.prog.wantsStandIn u) = true := by kernel_rfl
        exact (show Tryd.prog.wantsStandIn t = false by simpa using List.all_eq_true.1 hall t hm)⟩)
    (by kernel_rfl)
#print axioms proved
end Go.Proofs.YthdioeeanodjiaaDoor.fnExactUnpackFn
