/- Proved: at every place EmitIns answers as the model, and its answer owns its memory. -/
import Derived.Test.YtgnngibbojjebaaRows
import Derived.Test.YtgnngibbojjebaaEmS3
import Derived.Test.YtgnngibbojjebaaEmI5
import Derived.WalkKit
import Derived.ProofKit
import Derived.OpenShut
import Derived.ShutString
import Derived.ChangeOld
import Derived.Below
namespace Go.Proofs.Ytgnngibbojjebaa.fnExactEmitIns
open Go.ChangeShapes Go.WideShapes Go.ChangeAt Go.RowKit
open Go.ChangeMaps (open_string shut_string)
set_option linter.unusedVariables false

theorem own : ownKnob Try.prog.godebug = none := by kernel_rfl
theorem laidOut : laidOutB Try.prog = true := by kernel_rfl

set_option maxHeartbeats 4000000 in
theorem walk (w : World) (a0p a0q a0r a0s a0t : Int) :
    Calls Try.prog 3 #[.agg #[.int .i64 a0p, .int .i64 a0q, .int .i64 a0r, .int .i64 a0s, .int .i64 a0t]] w fun e w' => e = .returned (.bool true) ∧ Below w.heap.size w w' := by
  obtain ⟨L, HLL⟩ : ∃ L, Hid (emitX ⟨a0p, a0q, a0r, a0s, a0t⟩ = L) := ⟨_, rfl⟩
  have hlen : L.length ≤ 4 := by rw [← HLL.out]; exact emitX_len _
  obtain ⟨wA, hwA⟩ : ∃ W, w.alloc (.cells #[.int .i64 a0p, .int .i64 a0q, .int .i64 a0r, .int .i64 a0s, .int .i64 a0t] 23) = W := ⟨_, rfl⟩
  have HBX : Hid (InsBox wA w.heap.size a0p a0q a0r a0s a0t) := by show InsBox _ _ _ _ _ _ _; rw [← hwA]; exact insBox_new w _ a0p a0q a0r a0s a0t
  have BW : Hid (Below w.heap.size w wA) := by show Below _ _ _; rw [← hwA]; exact Bel.alloc _ _
  obtain ⟨c0, c1, c2, c3, c4⟩ := HBX.out
  go_enter Try.func3, Try.ntmps3
  go_wp2_with fail
  try rw [hwA]
  clear hwA c0 c1 c2 c3 c4
  refine (toIns_any a0p a0q a0r a0s a0t _).mono ?_
  rintro e w1 ⟨rfl, b1⟩
  have B1 : Hid (Below wA.heap.size wA w1) := b1
  clear b1
  go_wp2_with fail
  refine (spec_emitIns a0p a0q a0r a0s a0t _).mono ?_
  rw [HLL.out]
  rintro e w2 ⟨g0, rfl, oo0, b2⟩
  have O0 : Hid (OwnSteps w2 w1.heap.size g0 L) := oo0
  have B2 : Hid (Below wA.heap.size wA w2) := Bel.after B1.out b2
  clear b2 oo0
  obtain ⟨c0, c1, c2, c3, c4⟩ := HBX.out.keep B2.out
  go_wp2_with fail
  clear c0 c1 c2 c3 c4
  refine (toIns_any a0p a0q a0r a0s a0t _).mono ?_
  rintro e w3 ⟨rfl, b3⟩
  have O03 : Hid (OwnSteps w3 w1.heap.size g0 L) := O0.out.keep b3
  have B3 : Hid (Below wA.heap.size wA w3) := Bel.after B2.out b3
  have hs23 : w2.heap.size ≤ w3.heap.size := b3.size
  clear b3
  go_wp2_with fail
  refine (impl_emitIns a0p a0q a0r a0s a0t _).mono ?_
  rw [HLL.out]
  rintro e w4 ⟨g1, rfl, oo1, b4⟩
  have O1 : Hid (OwnSteps w4 w3.heap.size g1 L) := oo1
  have O04 : Hid (OwnSteps w4 w1.heap.size g0 L) := O03.out.keep b4
  have B4 : Hid (Below wA.heap.size wA w4) := Bel.after B3.out b4
  have hs34 : w3.heap.size ≤ w4.heap.size := b4.size
  clear b4 oo1
  go_wp2_with fail
  refine (eqStepS_same g1 g0 L _ O1.out.at O04.out.at).mono ?_
  rintro e w5 ⟨rfl, b5⟩
  have O15 : Hid (OwnSteps w5 w3.heap.size g1 L) := O1.out.keep b5
  have O05 : Hid (OwnSteps w5 w1.heap.size g0 L) := O04.out.keep b5
  have B5 : Hid (Below wA.heap.size wA w5) := Bel.after B4.out b5
  have hs35 : w3.heap.size ≤ w5.heap.size := Nat.le_trans hs34 b5.size
  clear b5
  obtain ⟨ln, HLN⟩ : ∃ ln, Hid (L.length = ln) := ⟨_, rfl⟩
  have hln : ln ≤ 4 := by rw [← HLN.out]; exact hlen
  have hq0 : ¬ (1 + (ln : Int) * 5) < 0 := by omega
  have hqq : ((1 + (ln : Int) * 5) != (1 + (ln : Int) * 5)) = false := by simp
  go_wp2_with fail
  refine (markStepS_own w3.heap.size g1 L 1 _ O15.out hs35 (by omega) (by rw [HLN.out]; omega)).mono ?_
  rintro e w10 ⟨rfl, b10, r10⟩
  rw [HLN.out] at r10 ⊢
  have R10 : Hid (StepsAt w10 g1 (smarks 1 ln)) := r10
  have R010 : Hid (StepsAt w10 g0 L) := O05.out.at.under b10 (fun b hb => by have := (O0.out.lt b hb).2; omega)
  have B10 : Hid (Below wA.heap.size wA w10) := B5.out.trans (b10.mono B3.out.size)
  clear b10 r10
  go_wp2_with fail
  refine (heldStepS_any g1 ln 1 _ R10.out (by omega) (by omega)).mono ?_
  rintro e w10' ⟨rfl, hw10⟩
  subst hw10
  obtain ⟨c0, c1, c2, c3, c4⟩ := HBX.out.keep B10.out
  go_wp2_with fail
  clear c0 c1 c2 c3 c4
  refine (toIns_any a0p a0q a0r a0s a0t _).mono ?_
  rintro e w11 ⟨rfl, b11⟩
  have R11 : Hid (StepsAt w11 g1 (smarks 1 ln)) := R10.out.keep b11
  have R011 : Hid (StepsAt w11 g0 L) := R010.out.keep b11
  have B11 : Hid (Below wA.heap.size wA w11) := Bel.after B10.out b11
  clear b11
  go_wp2_with fail
  refine (impl_emitIns a0p a0q a0r a0s a0t _).mono ?_
  rw [HLL.out]
  rintro e w12 ⟨g2, rfl, oo2, b12⟩
  have O2 : Hid (OwnSteps w12 w11.heap.size g2 L) := oo2
  have R12 : Hid (StepsAt w12 g1 (smarks 1 ln)) := R11.out.keep b12
  have R012 : Hid (StepsAt w12 g0 L) := R011.out.keep b12
  have B12 : Hid (Below wA.heap.size wA w12) := Bel.after B11.out b12
  clear b12 oo2
  go_wp2_with fail
  refine (eqStepS_same g2 g0 L _ O2.out.at R012.out).mono ?_
  rintro e w13 ⟨rfl, b13⟩
  have R13 : Hid (StepsAt w13 g1 (smarks 1 ln)) := R12.out.keep b13
  have B13 : Hid (Below wA.heap.size wA w13) := Bel.after B12.out b13
  clear b13
  go_wp2_with fail
  refine (heldStepS_any g1 ln 1 _ R13.out (by omega) (by omega)).mono ?_
  rintro e w13' ⟨rfl, hw13⟩
  subst hw13
  go_wp2_with fail
  go_ret
  exact ⟨rfl, Bel.after BW.out B13.out⟩

set_option maxRecDepth 100000 in
theorem lifted (os : Os) (started : os.Started) (H : Type) (enc : TypeId × Value → H) :
    ReturnsInHanded {} Try.checked os 3 .any (Rows.fnExactEmitInsSpec.pre6 enc Try.prog Try.f3 Rows.fnExactEmitInsRow.domain false) (Rows.fnExactEmitInsSpec.post enc Try.prog Try.f3 false true false false) := by
  refine returnsInHanded_of_change (C := Try.checked) own started (by kernel_rfl) Try.func3
    (ChangeSpec.witness6 (enc := enc) (C := Try.checked) false ⟨#[], #[.agg #[.int .i64 0, .int .i64 0, .int .i64 0, .int .i64 0, .int .i64 0]], []⟩ 8 (by kernel_rfl) (by kernel_rfl) (by kernel_rfl) (by kernel_rfl)) ?_
  intro W base args ds gs before hval0 hW hcnd _
  have hval : ∀ (j : Nat) t v, Try.f3.params[j]? = some t → args[j]? = some v → Value.okWide Try.prog W .any base t v := hval0
  have hW' := hW
  obtain ⟨p, q, hA0, hV, rfl, hfz, hnd⟩ := hW
  have hA : DataW.TrodAll enc Try.prog W 0 (fun _ => true) true Try.f3.params.toList args.toList ds p := hA0
  rw [Try.params3] at hA hval
  obtain ⟨v0, vs0, d0, ds0, p0, q0, hargs, rfl, rfl, h0, r0x⟩ := trodAll_cons hA
  obtain ⟨rfl, rfl, rfl⟩ := trodAll_nil r0x
  obtain rfl : args = #[v0] := by cases args; simp_all
  obtain ⟨rfl, rfl⟩ := trodVars_none hV
  have k0 := h0
  have lt0 : ∀ x ∈ p0, x.block < W.heap.size := by obtain ⟨m, hm⟩ := k0; exact DataW.trod_lt m _ _ _ hm
  obtain ⟨a0p, a0q, a0r, a0s, a0t, rfl⟩ := openIns (hval 0 23 v0 rfl rfl) h0
  clear hA0 hval0
  refine (walk W a0p a0q a0r a0s a0t).mono fun e W' ⟨he, bel⟩ => ?_
  subst he
  exact ⟨_, rfl, _, _, _, [], _, [], hW', trodAll_mk1 (shut_bool Try.underlying4 _), (trodAll_cons_mk (Below.trod laidOut (by kernel_rfl) (of_decide_eq_true (by kernel_rfl)) k0 bel lt0) trodAll_mk0), rfl, bel.frame _, fun h => by cases h⟩

theorem over : Rows.fnExactEmitInsRow.holds Try.pinned (OpenSpec.ofChange Rows.fnExactEmitInsSpec) :=
  OpenClaim.holds_of_wide 3 Try.f3 rfl rfl rfl rfl rfl rfl rfl ⟨rfl, rfl, rfl, rfl, rfl⟩ rfl rfl rfl rfl rfl (by kernel_rfl) Try.func3 (by kernel_rfl)
    (of_decide_eq_true (by kernel_rfl)) (by unfold Func.isWrapper; first | (rw [if_pos (by decide +kernel)]; kernel_rfl) | (rw [if_neg (by decide +kernel)]; exact ⟨rfl, rfl⟩))
    (fun os started H enc _ => lifted os started H enc)

/-- The statement. -/
theorem proved : Rows.FnExactEmitInsSaid := over
#print axioms proved
end Go.Proofs.Ytgnngibbojjebaa.fnExactEmitIns
