/- Proved: for every program the program's Emit answers the code and the flag that the model answers, its answer owns its memory, and the program stands as it stood -/
import Derived.Test.YtkejplddeelahaaGreatDoorRows
import Derived.Test.YtkejplddeelahaaGreatDoorMaLaidK
import Derived.Test.YtkejplddeelahaaGreatDoorTie
import Derived.Test.YtkejplddeelahaaGreatDoorCards
import Derived.SevenTiedAt
import Derived.Test.YtkejplddeelahaaGreatDoorEmT4K
import Derived.Test.YtkejplddeelahaaGreatDoorEmU2K
import Derived.Test.YtkejplddeelahaaGreatDoorKSt
import Derived.Test.YtkejplddeelahaaGreatDoorKMark
import Derived.Test.YtkejplddeelahaaGreatDoorKEq
import Derived.Test.YtkejplddeelahaaGreatDoorKTo
import Derived.WalkKit
import Derived.ProofKit
import Derived.OpenShut
import Derived.ShutString
import Derived.ChangeOld
import Derived.Below
namespace Go.Proofs.YtkejplddeelahaaGreatDoor.fnExactEmit
open Go.ChangeShapes Go.WideShapes Go.ChangeAt Go.RowKit
open Go.ChangeMaps (open_string shut_string)
set_option linter.unusedVariables false

theorem laidOut : laidOutB Tryz.prog = true := by kernel_rfl

theorem emitOf_len (F : FnD) : (emitOf F).length ≤ 9900 := by
  cases h : emitB F with
  | false => rw [emitOf_no h]; simp
  | true =>
    rw [emitOf_yes h]
    have hp : FnPlain F := by
      apply Classical.byContradiction
      intro hn
      rw [emitB_no (fun h9 => hn h9.1)] at h
      cases h
    unfold codeE
    rw [List.length_map]
    exact rawE_len hp.1
set_option maxHeartbeats 4000000 in
theorem walk (w : World) (v0 : Value) (F0 : FnD) (hF0 : FnAt w v0 F0) (hT : FTab w) :
    Calls Tryz.prog 7 #[v0] w fun e w' => e = .returned (.bool true) ∧ Below w.heap.size w w' := by
  have HF : Hid (FnAt w v0 F0) := hF0
  obtain ⟨n, HN⟩ : ∃ n, Hid (F0.blocks.length = n) := ⟨_, rfl⟩
  obtain ⟨vals, HV⟩ : ∃ x, Hid (F0.values = x) := ⟨_, rfl⟩
  obtain ⟨ba, bcap, rfl⟩ := hF0.out HN.out HV.out
  clear hF0
  obtain ⟨L, HL⟩ : ∃ L, Hid (emitOf F0 = L) := ⟨_, rfl⟩
  obtain ⟨R, HRR⟩ : ∃ r, Hid (emitB F0 = r) := ⟨_, rfl⟩
  have hd : (R != R) = false := by simp
  have HT : Hid (FTab w) := hT
  clear hT
  have hlen : L.length ≤ 9900 := by rw [← HL.out]; exact emitOf_len F0
  obtain ⟨wA, hwA⟩ : ∃ wA, w.alloc (.cells #[.slice ba n bcap, .int .i64 vals] 50) = wA := ⟨_, rfl⟩
  have hsA : wA.heap.size = w.heap.size + 1 := by rw [← hwA]; simp
  have HwA : Hid (Below w.heap.size w wA) := by rw [← hwA]; exact Bel.alloc _ _
  have a0 : wA.cell? ⟨w.heap.size, 0, none⟩ = some (.slice ba n bcap) := by rw [← hwA]; simp [go_sem]
  have a1' : wA.cell? ⟨w.heap.size, 1, none⟩ = some (.int .i64 vals) := by rw [← hwA]; simp [go_sem]
  have HA0 : Hid (wA.cell? ⟨w.heap.size, 0, none⟩ = some (.slice ba n bcap)) := a0
  have HA1 : Hid (wA.cell? ⟨w.heap.size, 1, none⟩ = some (.int .i64 vals)) := a1'
  go_enter Tryz.func7, Tryz.ntmps7
  go_wp2_with fail
  try rw [hwA]
  clear hwA
  refine (szFn_any _ F0 1048576 _ (HF.out.later HwA.out) (by omega) (by omega)).mono ?_
  rintro e w1 ⟨r, rfl, hr0, hr1, hsm, b1⟩
  have HSM : Hid (0 ≤ r → FnSmall F0) := hsm
  have B1 : Hid (Below wA.heap.size wA w1) := b1
  replace a0 := Bel.keeps b1 a0
  replace a1' := Bel.keeps b1 a1'
  clear b1 hsm
  by_cases hr : r < 0
  · go_wp2_with fail
    go_ret
    exact ⟨rfl, Bel.after HwA.out B1.out⟩
  · have HS : Hid (FnSmall F0) := HSM.out (by omega)
    go_wp2_with fail
    refine (toFn_any _ F0 _ (HF.out.later (Bel.after HwA.out B1.out)) HS.out).mono ?_
    rintro e w2 ⟨v1, rfl, hf1, b2, _⟩
    have F1 : Hid (FnAt w2 v1 F0) := FnAtLo.low (Nat.zero_le _) hf1
    have B2 : Hid (Below wA.heap.size wA w2) := Bel.after B1.out b2
    replace a0 := Bel.keeps b2 a0
    replace a1' := Bel.keeps b2 a1'
    clear b2 hf1
    go_wp2_with fail
    refine (spec_emit v1 F0 _ F1.out).mono ?_
    rw [HL.out, HRR.out]
    rintro e w3 ⟨g0, rfl, o0, b3⟩
    have O0 : Hid (OwnSteps w3 w2.heap.size g0 L) := o0
    have B3 : Hid (Below wA.heap.size wA w3) := Bel.after B2.out b3
    replace a0 := Bel.keeps b3 a0
    replace a1' := Bel.keeps b3 a1'
    clear b3 o0
    go_wp2_with fail
    refine (toFn_any _ F0 _ (HF.out.later (Bel.after HwA.out B3.out)) HS.out).mono ?_
    rintro e w4 ⟨v2, rfl, hf2, b4, z4⟩
    have F2 : Hid (FnAtLo w3.heap.size w4 v2 F0) := hf2
    have Z4 : Hid (FZ w3 w4) := z4
    have B4 : Hid (Below wA.heap.size wA w4) := Bel.after B3.out b4
    have O04 : Hid (OwnSteps w4 w2.heap.size g0 L) := O0.out.keep b4
    have hs34 : w3.heap.size ≤ w4.heap.size := b4.size
    replace a0 := Bel.keeps b4 a0
    replace a1' := Bel.keeps b4 a1'
    clear b4 hf2 z4
    have F4 : Hid (FnAt w4 v2 F0) := FnAtLo.low (Nat.zero_le _) F2.out
    obtain ⟨ba2, bcap2, rfl⟩ := FnAt.out F4.out HN.out HV.out
    go_wp2_with fail
    obtain ⟨wB, hwB⟩ : ∃ wB, w4.alloc (.cells #[.slice ba2 n bcap2, .int .i64 vals] 26) = wB := ⟨_, rfl⟩
    have HwB : Hid (Below w4.heap.size w4 wB) := by rw [← hwB]; exact Bel.alloc _ _
    have hsB : wB.heap.size = w4.heap.size + 1 := by rw [← hwB]; simp
    have x0 : wB.cell? ⟨w4.heap.size, 0, none⟩ = some (.slice ba2 n bcap2) := by rw [← hwB]; simp [go_sem]
    have x1 : wB.cell? ⟨w4.heap.size, 1, none⟩ = some (.int .i64 vals) := by rw [← hwB]; simp [go_sem]
    try rw [hwB]
    clear hwB
    have FB : Hid (FnAt wB (.agg #[.slice ba2 n bcap2, .int .i64 vals]) F0) := F4.out.later HwB.out
    refine (impl_emit _ F0 _ FB.out (HT.out.keep (Bel.after (Bel.after HwA.out B4.out) HwB.out))).mono ?_
    rw [HL.out, HRR.out]
    rintro e w5 ⟨g1, rfl, o1, b5⟩
    have O1 : Hid (OwnSteps w5 wB.heap.size g1 L) := o1
    have BB5 : Hid (Below wB.heap.size wB w5) := b5
    have O05 : Hid (OwnSteps w5 w2.heap.size g0 L) := (O04.out.keep HwB.out).keep b5
    replace a0 := Bel.keeps b5 (Bel.keeps HwB.out a0)
    replace a1' := Bel.keeps b5 (Bel.keeps HwB.out a1')
    replace x0 := Bel.keeps b5 x0
    replace x1 := Bel.keeps b5 x1
    clear b5 o1
    go_wp2_with fail
    refine (eqStepS_same g1 g0 L _ O1.out.at O05.out.at).mono ?_
    rintro e w6 ⟨rfl, b6⟩
    have BB6 : Hid (Below wB.heap.size wB w6) := Bel.after BB5.out b6
    have O16 : Hid (OwnSteps w6 wB.heap.size g1 L) := O1.out.keep b6
    have O06 : Hid (OwnSteps w6 w2.heap.size g0 L) := O05.out.keep b6
    replace a0 := Bel.keeps b6 a0
    replace a1' := Bel.keeps b6 a1'
    replace x0 := Bel.keeps b6 x0
    replace x1 := Bel.keeps b6 x1
    clear b6
    have BA6 : Hid (Below wA.heap.size wA w6) := Bel.after (Bel.after B4.out HwB.out) BB6.out
    go_wp2
    go_region_with (first | (go_at_call 31; refine (toFn_any _ F0 _ (HF.out.later (Bel.after HwA.out (by first | exact BA6.out.drew | exact BA6.out))) HS.out).mono ?_; rintro e w7 ⟨v3, rfl, hf3, b7, _⟩; have F3 : Hid (FnAt w7 v3 F0) := FnAtLo.low (Nat.zero_le _) hf3; have H67 : Hid (Below w6.heap.size w6 w7) := Bel.after (by first | exact (Below.refl _ _).drew | exact Below.refl _ _) b7; have F7 : Hid (FnAt w7 (.agg #[.slice ba2 n bcap2, .int .i64 vals]) F0) := (FB.out.later BB6.out).later H67.out; have y0 := Bel.keeps b7 x0; have y1 := Bel.keeps b7 x1; clear b7 hf3) | (go_at_call 33; refine (eqFn_same _ _ F0 _ (Hid.out (by assumption)) (Hid.out (by assumption))).mono ?_; rintro e w8 ⟨rfl, b8⟩; have H68 : Hid (Below w6.heap.size w6 w8) := Bel.after (Hid.out (by assumption)) b8; clear b8))
    all_goals
      have HB8 : Hid (Below w6.heap.size w6 w8) := by assumption
      have O18 : Hid (OwnSteps w8 wB.heap.size g1 L) := O16.out.keep HB8.out
      have O08 : Hid (OwnSteps w8 w2.heap.size g0 L) := O06.out.keep HB8.out
      have BB8 : Hid (Below wB.heap.size wB w8) := Bel.after BB6.out HB8.out
      have BA8 : Hid (Below wA.heap.size wA w8) := Bel.after BA6.out HB8.out
      have M8 : Hid (FnM w3.heap.size w4.heap.size w8 (.agg #[.slice ba2 n bcap2, .int .i64 vals]) n vals) := by
        have h := F2.out.m HS.out
        rw [HN.out, HV.out] at h
        exact h.later (Bel.after HwB.out BB8.out)
      have T8 : Hid (Thaw w3.heap.size w4.heap.size w8) := fun p h1 h2 => by
        rw [(Bel.after HwB.out BB8.out).frozen h2]
        exact Z4.out.new h1
      have hn : n ≤ 1048576 := by have := HS.out.1; rw [HN.out] at this; exact this
      have hs8 : w4.heap.size + 1 ≤ w8.heap.size := by have := BB8.out.size; omega
      replace a0 := Bel.keeps HB8.out a0
      replace a1' := Bel.keeps HB8.out a1'
      replace x0 := Bel.keeps HB8.out x0
      replace x1 := Bel.keeps HB8.out x1
      clear HB8
      go_wp2_with fail
      refine (markFn_any w3.heap.size w4.heap.size _ n vals 1 _ M8.out T8.out hn (by omega) (by omega) (by omega) (by omega)).mono ?_
      rintro e w9 ⟨z, rfl, hz0, mk⟩
      have MK : Hid (Marked w3.heap.size w4.heap.size w8 w9) := mk
      have O19 : Hid (OwnSteps w9 wB.heap.size g1 L) := O18.out.marked mk (fun b hb => .inr (by have := (O18.out.lt b hb).1; omega))
      have O09 : Hid (OwnSteps w9 w2.heap.size g0 L) := O08.out.marked mk (fun b hb => .inl (O0.out.lt b hb).2)
      have hsA3 : wA.heap.size ≤ w3.heap.size := B3.out.size
      have BA9 : Hid (Below wA.heap.size wA w9) := BA8.out.trans (mk.bel.mono hsA3)
      replace a0 := (BA9.out.cell (p := ⟨w.heap.size, 0, none⟩) (by show w.heap.size < wA.heap.size; omega)).trans HA0.out
      replace a1' := (BA9.out.cell (p := ⟨w.heap.size, 1, none⟩) (by show w.heap.size < wA.heap.size; omega)).trans HA1.out
      have hs9 : wB.heap.size ≤ w9.heap.size := by have := mk.bel.size; omega
      clear mk x0 x1
      go_wp2_with fail
      refine (eqStepS_same g1 g0 L _ O19.out.at O09.out.at).mono ?_
      rintro e w10 ⟨rfl, b10⟩
      have O110 : Hid (OwnSteps w10 wB.heap.size g1 L) := O19.out.keep b10
      have O010 : Hid (OwnSteps w10 w2.heap.size g0 L) := O09.out.keep b10
      have BA10 : Hid (Below wA.heap.size wA w10) := Bel.after BA9.out b10
      have hs10 : wB.heap.size ≤ w10.heap.size := Nat.le_trans hs9 b10.size
      replace a0 := Bel.keeps b10 a0
      replace a1' := Bel.keeps b10 a1'
      clear b10
      obtain ⟨ln, HLN⟩ : ∃ ln, Hid (L.length = ln) := ⟨_, rfl⟩
      have hln : ln ≤ 9900 := by rw [← HLN.out]; exact hlen
      have hq0 : ¬ (1 + (ln : Int) * 5) < 0 := by omega
      have hqq : ((1 + (ln : Int) * 5) != (1 + (ln : Int) * 5)) = false := by simp
      go_wp2_with fail
      refine (markStepS_own wB.heap.size g1 L 1 _ O110.out hs10 (by omega) (by rw [HLN.out]; omega)).mono ?_
      rintro e w11 ⟨rfl, b11, r11⟩
      rw [HLN.out] at r11 ⊢
      have R11 : Hid (StepsAt w11 g1 (smarks 1 ln)) := r11
      have R011 : Hid (StepsAt w11 g0 L) := O010.out.at.under b11 (fun b hb => by have := (O0.out.lt b hb).2; omega)
      have BA11 : Hid (Below wA.heap.size wA w11) := BA10.out.trans (b11.mono (by omega))
      replace a0 := (BA11.out.cell (p := ⟨w.heap.size, 0, none⟩) (by show w.heap.size < wA.heap.size; omega)).trans HA0.out
      replace a1' := (BA11.out.cell (p := ⟨w.heap.size, 1, none⟩) (by show w.heap.size < wA.heap.size; omega)).trans HA1.out
      clear b11 r11
      go_wp2_with fail
      refine (heldStepS_any g1 ln 1 _ R11.out (by omega) (by omega)).mono ?_
      rintro e w11' ⟨rfl, hw11⟩
      subst hw11
      go_wp2_with fail
      refine (toFn_any _ F0 _ (HF.out.later (Bel.after HwA.out BA11.out)) HS.out).mono ?_
      rintro e w12 ⟨v5, rfl, hf5, b12, _⟩
      have F5 : Hid (FnAt w12 v5 F0) := FnAtLo.low (Nat.zero_le _) hf5
      have R12 : Hid (StepsAt w12 g1 (smarks 1 ln)) := R11.out.keep b12
      have R012 : Hid (StepsAt w12 g0 L) := R011.out.keep b12
      have BA12 : Hid (Below wA.heap.size wA w12) := Bel.after BA11.out b12
      clear b12 hf5 a0 a1'
      go_wp2_with fail
      refine (impl_emit v5 F0 _ F5.out (HT.out.keep (Bel.after HwA.out BA12.out))).mono ?_
      rw [HL.out, HRR.out]
      rintro e w13 ⟨g2, rfl, o2, b13⟩
      have O2 : Hid (OwnSteps w13 w12.heap.size g2 L) := o2
      have R13 : Hid (StepsAt w13 g1 (smarks 1 ln)) := R12.out.keep b13
      have R013 : Hid (StepsAt w13 g0 L) := R012.out.keep b13
      have BA13 : Hid (Below wA.heap.size wA w13) := Bel.after BA12.out b13
      clear b13 o2
      go_wp2_with fail
      refine (eqStepS_same g2 g0 L _ O2.out.at R013.out).mono ?_
      rintro e w14 ⟨rfl, b14⟩
      have R14 : Hid (StepsAt w14 g1 (smarks 1 ln)) := R13.out.keep b14
      have BA14 : Hid (Below wA.heap.size wA w14) := Bel.after BA13.out b14
      clear b14
      go_wp2_with fail
      refine (heldStepS_any g1 ln 1 _ R14.out (by omega) (by omega)).mono ?_
      rintro e w14' ⟨rfl, hw14⟩
      subst hw14
      go_wp2_with fail
      go_ret
      exact ⟨rfl, Bel.after HwA.out BA14.out⟩

set_option maxRecDepth 100000 in
theorem lifted (os : Os) (started : os.Started) (H : Type) (enc : TypeId × Value → H) :
    ReturnsInHanded {} Tryz.checked os 7 .any (fun w args => (Rows.fnExactEmitSpec.pre enc Tryz.prog Tryz.f7 [] false w args ∧ laidMetH Tryz.prog Rows.fnExactEmitRow.laid w) ∧ sizedMet enc Tryz.prog Tryz.f7 (OpenSpec.ofChange Rows.fnExactEmitSpec) false w args)
      (Rows.fnExactEmitSpec.post enc Tryz.prog Tryz.f7 false true false false) := by
  refine returnsInHanded_of_change_and (C := Tryz.checked) (X := fun w _ => laidMetH Tryz.prog Rows.fnExactEmitRow.laid w) (fun _ _ _ hh h => h.of_heap hh) own started (by kernel_rfl) Tryz.func7
    (ChangeSpec.witness_shaped (enc := enc) (C := Tryz.checked) (os := os) (X := fun w _ => laidMetH Tryz.prog Rows.fnExactEmitRow.laid w) false (World.doorLaid Tryz.prog 400 os) #[.agg #[.slice none 0 0, .int .i64 0]] 8 rfl (World.shaped_of_RefB (by kernel_rfl) (by kernel_rfl)) (by kernel_rfl) (by kernel_rfl) (by kernel_rfl) (door_met os _)) ?_
  intro W base args ds gs before hval0 hW _ _ hL _
  have hval : ∀ (j : Nat) t v, Tryz.f7.params[j]? = some t → args[j]? = some v → Value.okWide Tryz.prog W .any base t v := hval0
  have hW' := hW
  obtain ⟨p, q, hA0, hV0, rfl, hfz, hnd⟩ := hW
  have hA : DataW.TrodAll enc Tryz.prog W 0 (fun _ => true) true Tryz.f7.params.toList args.toList ds p := hA0
  rw [Tryz.params7] at hA hval
  obtain ⟨v0, vs0, d0, ds0, p0, q0, hargs, rfl, rfl, h0, r0x⟩ := trodAll_cons hA
  obtain ⟨rfl, rfl, rfl⟩ := trodAll_nil r0x
  obtain rfl : args = #[v0] := by cases args; simp_all
  have hV : DataW.TrodVars enc Tryz.prog W (fun _ => true) [tabName] gs q := hV0
  obtain ⟨g, t, cs, fuel, dv, pv, rfl, hg, ht, hvar, hd, rfl⟩ := trodVars_one hV
  obtain rfl := Option.some.inj (gTab.symm.trans hg)
  obtain rfl := Option.some.inj (tTab.symm.trans ht)
  have hT := of_laid hL
  have hlt0 : 0 < W.heap.size := World.block_lt_of_cell? W _ (hT 0 (by omega)).1
  have hltv : ∀ x ∈ pv, x.block < W.heap.size := fun x hx => hW'.lt x (List.mem_append_right _ (List.mem_append_right _ hx))
  have k0 := h0
  have lt0 : ∀ x ∈ p0, x.block < W.heap.size := by obtain ⟨m, hm⟩ := k0; exact DataW.trod_lt m _ _ _ hm
  obtain ⟨F0, hF0⟩ := openFn (hval 0 50 v0 rfl rfl) h0
  clear hA0 hV0 hval0
  refine (walk W v0 F0 hF0 hT).mono fun e W' ⟨he, bel⟩ => ?_
  subst he
  exact ⟨_, rfl, _, _, _, [], _, (MemPlace.row ⟨0, 0, none⟩ cs.size ++ pv), hW', trodAll_mk1 (shut_bool Tryz.underlying4 _), (trodAll_cons_mk (Below.trod laidOut (by kernel_rfl) (of_decide_eq_true (by kernel_rfl)) k0 bel lt0) trodAll_mk0), vars_again hvar hd hltv hlt0 bel, bel.frame _, fun h => by cases h⟩

theorem over : Rows.fnExactEmitRow.holds Tryz.pinned (OpenSpec.ofChange Rows.fnExactEmitSpec) :=
  OpenClaim.holds_of_wide 7 Tryz.f7 rfl rfl rfl rfl rfl rfl rfl ⟨rfl, rfl, rfl, rfl, rfl⟩ rfl rfl rfl rfl rfl (by kernel_rfl) Tryz.func7 (by kernel_rfl)
    (of_decide_eq_true (by kernel_rfl)) (by unfold Func.isWrapper; first | (rw [if_pos (by decide +kernel)]; kernel_rfl) | (rw [if_neg (by decide +kernel)]; exact ⟨rfl, rfl⟩))
    (fun os started H enc _ => lifted os started H enc)

/-- The card: the row, its listed variable tied to the program's text. -/
theorem proved : Rows.FnExactEmitCardSaid :=
  Claim7.holds_tied_plain_at .later [] [.data] true Rows.fnExactEmitCard.stood.harness Rows.fnExactEmitCard.stood.looks
    over (fun _ h => by cases h) (by kernel_rfl) (fun _ h => by cases h) fnExactEmit_row_tie rfl ⟨rfl, rfl⟩ (by kernel_rfl) rfl
    (fun f fn hf hfn => by
      obtain rfl : f = 7 := Option.some.inj ((show Tryz.prog.funcNamed Rows.fnExactEmitRow.func = some 7 by kernel_rfl).symm.trans hf) |>.symm
      obtain rfl : fn = Tryz.f7 := (Option.some.inj (Tryz.func7.symm.trans hfn)).symm
      exact ⟨by kernel_rfl, fun j t ht => by
        rw [Tryz.params7] at ht
        have hm : t ∈ [50] := by simpa using Array.mem_of_getElem? ht
        have hall : ([50].all fun u => !Tryz.prog.wantsStandIn u) = true := by kernel_rfl
        exact (show Tryz.prog.wantsStandIn t = false by simpa using List.all_eq_true.1 hall t hm)⟩)
    (by kernel_rfl)
#print axioms proved
end Go.Proofs.YtkejplddeelahaaGreatDoor.fnExactEmit
