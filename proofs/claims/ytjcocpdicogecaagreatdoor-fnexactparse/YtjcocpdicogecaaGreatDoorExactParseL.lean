/- Proved: at every text of at most 1048576 bytes Parse answers as the model does, and its answer owns its memory; no condition on the input; the card ties the listed variables to the program's text. -/
import Derived.Test.YtjcocpdicogecaaGreatDoorRows
import Derived.Test.YtjcocpdicogecaaGreatDoorTxLd
import Derived.Test.YtjcocpdicogecaaGreatDoorTie
import Derived.Test.YtjcocpdicogecaaGreatDoorCards
import Derived.SevenTiedAt
import Derived.Test.YtjcocpdicogecaaGreatDoorTxPs7
import Derived.Test.YtjcocpdicogecaaGreatDoorTxPz
import Derived.WalkKit
import Derived.ProofKit
import Derived.OpenShut
import Derived.ShutString
import Derived.ChangeOld
import Derived.Below
namespace Go.Proofs.YtjcocpdicogecaaGreatDoor.fnExactParse
open Go.ChangeShapes Go.WideShapes Go.ChangeAt Go.RowKit
open Go.ChangeMaps (open_string shut_string)
set_option linter.unusedVariables false

theorem laidOut : laidOutB Tryz.prog = true := by kernel_rfl

set_option maxHeartbeats 4000000 in
theorem walk (w : World) (s0 : ByteArray) (EP : Addr) (hT : Libs w EP) :
    Calls Tryz.prog 3 #[.string s0] w fun e w' => e = .returned (.bool true) ∧ Below w.heap.size w w' := by
  obtain ⟨t, rfl⟩ : ∃ t, s0 = bs t := ⟨s0.data.toList, (bs_of s0).symm⟩
  have HT : Hid (Libs w EP) := hT
  obtain ⟨m, HM⟩ : ∃ m, Hid (t.length = m) := ⟨_, rfl⟩
  have hsz : (bs t).size = m := by rw [bs_size, HM.out]
  obtain ⟨L, HL⟩ : ∃ L, Hid (parseOf t = L) := ⟨_, rfl⟩
  obtain ⟨R, HRR⟩ : ∃ r, Hid (parseB t = r) := ⟨_, rfl⟩
  have hd : (R != R) = false := by simp
  have hlen : L.length ≤ 900 := by rw [← HL.out]; exact parseOf_len t
  clear hT
  go_enter Tryz.func3, Tryz.ntmps3
  by_cases hbig : (1048576 : Int) < (m : Int)
  · go_wp2_with fail
    go_ret
    exact ⟨rfl, Below.refl _ _⟩
  · have HLM : Hid (t.length ≤ 1048576) := by show _ ≤ _; rw [HM.out]; omega
    go_wp2_with fail
    refine (spec_parse t _ HLM.out).mono ?_
    unfold GivesParse
    rw [HL.out, HRR.out]
    rintro e w3 ⟨g0, rfl, o0, b3⟩
    have O03 : Hid (OwnSteps w3 w.heap.size g0 L) := o0
    have B3 : Hid (Below w.heap.size w w3) := b3
    clear b3 o0
    go_wp2_with fail
    refine (impl_parse EP t _ HLM.out (HT.out.keep B3.out)).mono ?_
    unfold GivesParse
    rw [HL.out, HRR.out]
    rintro e w5 ⟨g1, rfl, o1, b5⟩
    have O1 : Hid (OwnSteps w5 w3.heap.size g1 L) := o1
    have O05 : Hid (OwnSteps w5 w.heap.size g0 L) := O03.out.keep b5
    have B5 : Hid (Below w.heap.size w w5) := Bel.after B3.out b5
    have HS35 : Hid (w3.heap.size ≤ w5.heap.size) := b5.size
    clear b5 o1
    go_wp2_with fail
    refine (eqStepS_same g1 g0 L _ O1.out.at O05.out.at).mono ?_
    rintro e w6 ⟨rfl, b6⟩
    have O16 : Hid (OwnSteps w6 w3.heap.size g1 L) := O1.out.keep b6
    have O06 : Hid (OwnSteps w6 w.heap.size g0 L) := O05.out.keep b6
    have B6 : Hid (Below w.heap.size w w6) := Bel.after B5.out b6
    have HS6 : Hid (w3.heap.size ≤ w6.heap.size) := Nat.le_trans HS35.out b6.size
    clear b6
    obtain ⟨ln, HLN⟩ : ∃ ln, Hid (L.length = ln) := ⟨_, rfl⟩
    have hln : ln ≤ 900 := by rw [← HLN.out]; exact hlen
    have hq0 : ¬ (1 + (ln : Int) * 5) < 0 := by omega
    have hqq : ((1 + (ln : Int) * 5) != (1 + (ln : Int) * 5)) = false := by simp
    go_wp2_with fail
    refine (markStepS_own w3.heap.size g1 L 1 _ O16.out HS6.out (by omega) (by rw [HLN.out]; omega)).mono ?_
    rintro e w11 ⟨rfl, b11, r11⟩
    rw [HLN.out] at r11 ⊢
    have R11 : Hid (StepsAt w11 g1 (smarks 1 ln)) := r11
    have R011 : Hid (StepsAt w11 g0 L) := O06.out.at.under b11 (fun b hb => (O03.out.lt b hb).2)
    have B11 : Hid (Below w.heap.size w w11) := B6.out.trans (b11.mono B3.out.size)
    clear b11 r11
    go_wp2_with fail
    refine (heldStepS_any g1 ln 1 _ R11.out (by omega) (by omega)).mono ?_
    rintro e w11' ⟨rfl, hw11⟩
    subst hw11
    go_wp2_with fail
    refine (impl_parse EP t _ HLM.out (HT.out.keep B11.out)).mono ?_
    unfold GivesParse
    rw [HL.out, HRR.out]
    rintro e w13 ⟨g2, rfl, o2, b13⟩
    have O2 : Hid (OwnSteps w13 w11'.heap.size g2 L) := o2
    have R13 : Hid (StepsAt w13 g1 (smarks 1 ln)) := R11.out.keep b13
    have R013 : Hid (StepsAt w13 g0 L) := R011.out.keep b13
    have B13 : Hid (Below w.heap.size w w13) := Bel.after B11.out b13
    clear b13 o2
    go_wp2_with fail
    refine (eqStepS_same g2 g0 L _ O2.out.at R013.out).mono ?_
    rintro e w14 ⟨rfl, b14⟩
    have R14 : Hid (StepsAt w14 g1 (smarks 1 ln)) := R13.out.keep b14
    have B14 : Hid (Below w.heap.size w w14) := Bel.after B13.out b14
    clear b14
    go_wp2_with fail
    refine (heldStepS_any g1 ln 1 _ R14.out (by omega) (by omega)).mono ?_
    rintro e w14' ⟨rfl, hw14⟩
    subst hw14
    go_wp2_with fail
    go_ret
    exact ⟨rfl, B14.out⟩

set_option maxRecDepth 100000 in
theorem lifted (os : Os) (started : os.Started) (H : Type) (enc : TypeId × Value → H) :
    ReturnsInHanded {} Tryz.checked os 3 .any (fun w args => (Rows.fnExactParseSpec.pre enc Tryz.prog Tryz.f3 [] false w args ∧ laidMetH Tryz.prog Rows.fnExactParseRow.laid w) ∧ sizedMet enc Tryz.prog Tryz.f3 (OpenSpec.ofChange Rows.fnExactParseSpec) false w args)
      (Rows.fnExactParseSpec.post enc Tryz.prog Tryz.f3 false true false false) := by
  refine returnsInHanded_laid_shaped (C := Tryz.checked) (X := fun w _ => laidMetH Tryz.prog Rows.fnExactParseRow.laid w) (fun _ _ _ hh h => h.of_heap hh) own started (by kernel_rfl) Tryz.func3
    (ChangeSpec.witness_shaped (enc := enc) (C := Tryz.checked) (os := os) (X := fun w _ => laidMetH Tryz.prog Rows.fnExactParseRow.laid w) false (World.laidAll Tryz.prog os Rows.fnExactParseRow.laid) #[.string ⟨#[]⟩] 8 (World.laidAll_os _ _ _)
      (World.shaped_of_ZipB (by kernel_rfl) (by kernel_rfl)) (by kernel_rfl) (by kernel_rfl) (by kernel_rfl)
      (by rw [MakeChecks.laidMetH_plain _ _ _ (by kernel_rfl)]; exact laidMet_laidAll _ (by kernel_rfl) (by kernel_rfl))) ?_
  intro W base args ds gs before hval0 hW hL hsh
  have hval : ∀ (j : Nat) t v, Tryz.f3.params[j]? = some t → args[j]? = some v → Value.okWide Tryz.prog W .any base t v := hval0
  have hW' := hW
  obtain ⟨p, q, hA0, hV0, rfl, hfz, hnd⟩ := hW
  have hA : DataW.TrodAll enc Tryz.prog W 0 (fun _ => true) true Tryz.f3.params.toList args.toList ds p := hA0
  rw [Tryz.params3] at hA hval
  obtain ⟨v0, vs0, d0, ds0, p0, q0, hargs, rfl, rfl, h0, r0x⟩ := trodAll_cons hA
  obtain ⟨rfl, rfl, rfl⟩ := trodAll_nil r0x
  obtain rfl : args = #[v0] := by cases args; simp_all
  have hV : DataW.TrodVars enc Tryz.prog W (fun _ => true) Rows.fnExactParseSpec.vars gs q := hV0
  obtain ⟨gv0, gv1, gv2, gv3, rfl⟩ := trodVars_four hV
  obtain ⟨EP, hT⟩ := libs_of hL hsh
  have k0 := h0
  have lt0 : ∀ x ∈ p0, x.block < W.heap.size := by obtain ⟨m, hm⟩ := k0; exact DataW.trod_lt m _ _ _ hm
  obtain ⟨s0, rfl, _, _, _⟩ := open_string Tryz.underlying9 (hval 0 9 v0 rfl rfl) h0
  clear hA0 hV0 hval0
  refine (walk W s0 EP hT).mono fun e W' ⟨he, bel⟩ => ?_
  subst he
  exact ⟨_, rfl, _, _, _, [], _, q, hW', trodAll_mk1 (shut_bool Tryz.underlying4 _), (trodAll_cons_mk (Below.trod laidOut (by kernel_rfl) (of_decide_eq_true (by kernel_rfl)) k0 bel lt0) trodAll_mk0), Below.trodVars laidOut bel (by kernel_rfl) hV, bel.frame _, fun h => by cases h⟩

theorem over : Rows.fnExactParseRow.holds Tryz.pinned (OpenSpec.ofChange Rows.fnExactParseSpec) :=
  OpenClaim.holds_of_wide 3 Tryz.f3 rfl rfl rfl rfl rfl rfl rfl ⟨rfl, rfl, rfl, rfl, rfl⟩ rfl rfl rfl rfl rfl (by kernel_rfl) Tryz.func3 (by kernel_rfl)
    (of_decide_eq_true (by kernel_rfl)) (by unfold Func.isWrapper; first | (rw [if_pos (by decide +kernel)]; kernel_rfl) | (rw [if_neg (by decide +kernel)]; exact ⟨rfl, rfl⟩))
    (fun os started H enc _ => lifted os started H enc)

/-- The card: the row, its listed variable tied to the program's text. -/
theorem proved : Rows.FnExactParseCardSaid :=
  Claim7.holds_tied_plain_at .later [] [.data, .data, .data, .data, .sentinel, .sentinel, .data, .data, .sentinel, .data, .pinned] true Rows.fnExactParseCard.stood.harness Rows.fnExactParseCard.stood.looks
    over (fun _ h => by cases h) (by kernel_rfl) (fun _ h => by cases h) fnExactParse_row_tie rfl ⟨rfl, rfl⟩ (by kernel_rfl) rfl
    (fun f fn hf hfn => by
      obtain rfl : f = 3 := Option.some.inj ((show Tryz.prog.funcNamed Rows.fnExactParseRow.func = some 3 by kernel_rfl).symm.trans hf) |>.symm
      obtain rfl : fn = Tryz.f3 := (Option.some.inj (Tryz.func3.symm.trans hfn)).symm
      exact ⟨by kernel_rfl, fun j t ht => by
        rw [Tryz.params3] at ht
        have hm : t ∈ [9] := by simpa using Array.mem_of_getElem? ht
        have hall : ([9].all fun u => !Tryz.prog.wantsStandIn u) = true := by kernel_rfl
        exact (show Tryz.prog.wantsStandIn t = false by simpa using List.all_eq_true.1 hall t hm)⟩)
    (by kernel_rfl)
#print axioms proved
end Go.Proofs.YtjcocpdicogecaaGreatDoor.fnExactParse
