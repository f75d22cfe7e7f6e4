/- Proved: at every number PackNum answers as its model, twice; its answer owns its memory. No condition. -/
import Derived.Test.YtgjojajodkagbaaRows
import Derived.Test.YtgjojajodkagbaaEqB
import Derived.Test.YtgjojajodkagbaaPkNum
import Derived.WalkKit
import Derived.ProofKit
import Derived.OpenShut
import Derived.ShutString
import Derived.ChangeOld
import Derived.Below
namespace Go.Proofs.Ytgjojajodkagbaa.fnExactPackNum
open Go.ChangeShapes Go.WideShapes Go.ChangeAt Go.RowKit
open Go.ChangeMaps (open_string shut_string)
set_option linter.unusedVariables false

theorem own : ownKnob Try.prog.godebug = none := by kernel_rfl
theorem laidOut : laidOutB Try.prog = true := by kernel_rfl

set_option maxHeartbeats 4000000 in
theorem walk (w : World) (a0 : Int) (wf0 : (Lit.int .i64 a0).wf = true) :
    Calls Try.prog 4 #[.int .i64 a0] w fun e w' => e = .returned (.bool true) ∧ Below w.heap.size w w' := by
  have HX : Hid (-9223372036854775808 ≤ a0 ∧ a0 ≤ 9223372036854775807) := by
    simp [Lit.wf, IntKind.min, IntKind.max, IntKind.bits, IntKind.signed] at wf0
    exact wf0
  obtain ⟨L, HL⟩ : ∃ L, Hid (packX a0 = L) := ⟨_, rfl⟩
  have hlen : L.length ≤ 9 := by rw [← HL.out]; exact packX_len a0
  clear wf0
  go_enter Try.func4, Try.ntmps4
  go_wp2_with fail
  refine (spec_packNum a0 _ HX.out).mono ?_
  rw [HL.out]
  rintro e w1 ⟨v1, rfl, o1, b1⟩
  have O1 : Hid (OwnB w1 w.heap.size v1 L) := o1
  have B1 : Hid (Below w.heap.size w w1) := b1
  clear o1 b1
  go_wp2_with fail
  refine (impl_packNum a0 _ HX.out).mono ?_
  rw [HL.out]
  rintro e w2 ⟨v2, rfl, o2, b2⟩
  have O2 : Hid (OwnB w2 w1.heap.size v2 L) := o2
  have O1b : Hid (OwnB w2 w.heap.size v1 L) := O1.out.keep b2
  have B2 : Hid (Below w.heap.size w w2) := Bel.after B1.out b2
  have HV1 : Hid (∀ g, v1.ownBlock = some g → g < w1.heap.size) := fun g hg => (O1.out.lt g hg).2
  have S2 : Hid (w1.heap.size ≤ w2.heap.size) := b2.size
  clear o2 b2 O1
  go_wp2_with fail
  refine (eqByteS_same v2 v1 L _ O2.out.at O1b.out.at).mono ?_
  rintro e w3 ⟨rfl, b3⟩
  have O3 : Hid (OwnB w3 w1.heap.size v2 L) := O2.out.keep b3
  have O1c : Hid (OwnB w3 w.heap.size v1 L) := O1b.out.keep b3
  have B3 : Hid (Below w.heap.size w w3) := Bel.after B2.out b3
  have S3 : Hid (w1.heap.size ≤ w3.heap.size) := Nat.le_trans S2.out b3.size
  clear b3 O2 O1b
  go_wp2_with fail
  refine (markByteS_own w1.heap.size v2 L 1 _ O3.out S3.out (by omega)).mono ?_
  rintro e w4 ⟨rfl, b4, m4⟩
  have M4 : Hid (BytesAt w4 v2 (bmk 1 L.length)) := m4
  have O1d : Hid (BytesAt w4 v1 L) := O1c.out.at.under b4 HV1.out
  have B4 : Hid (Below w.heap.size w w4) := B3.out.trans (b4.mono B1.out.size)
  clear b4 m4 O3 O1c
  go_wp2_with fail
  refine (heldByteS_any v2 1 L.length _ M4.out (by omega)).mono ?_
  rintro e w5 ⟨rfl, rfl⟩
  have hq0 : (0 : Int) ≤ 1 + (L.length : Int) := by omega
  have hqe : ((1 : Int) + (L.length : Int) != 1 + (L.length : Int)) = false := by simp
  go_wp2_with fail
  refine (impl_packNum a0 _ HX.out).mono ?_
  rw [HL.out]
  rintro e w6 ⟨v6, rfl, o6, b6⟩
  have O6 : Hid (BytesAt w6 v6 L) := o6.at
  have M6 : Hid (BytesAt w6 v2 (bmk 1 L.length)) := M4.out.keep b6
  have O1e : Hid (BytesAt w6 v1 L) := O1d.out.keep b6
  have B6 : Hid (Below w.heap.size w w6) := Bel.after B4.out b6
  clear o6 b6
  go_wp2_with fail
  refine (eqByteS_same v6 v1 L _ O6.out O1e.out).mono ?_
  rintro e w7 ⟨rfl, b7⟩
  have M7 : Hid (BytesAt w7 v2 (bmk 1 L.length)) := M6.out.keep b7
  have B7 : Hid (Below w.heap.size w w7) := Bel.after B6.out b7
  clear b7
  go_wp2_with fail
  refine (heldByteS_any v2 1 L.length _ M7.out (by omega)).mono ?_
  rintro e w8 ⟨rfl, rfl⟩
  go_wp2_with fail
  go_ret
  exact ⟨rfl, B7.out⟩

set_option maxRecDepth 100000 in
theorem lifted (os : Os) (started : os.Started) (H : Type) (enc : TypeId × Value → H) :
    ReturnsInHanded {} Try.checked os 4 .any (Rows.fnExactPackNumSpec.pre6 enc Try.prog Try.f4 Rows.fnExactPackNumRow.domain false) (Rows.fnExactPackNumSpec.post enc Try.prog Try.f4 false true false false) := by
  refine returnsInHanded_of_change (C := Try.checked) own started (by kernel_rfl) Try.func4
    (ChangeSpec.witness6 (enc := enc) (C := Try.checked) false ⟨#[], #[.int .i64 0], []⟩ 8 (by kernel_rfl) (by kernel_rfl) (by kernel_rfl) (by kernel_rfl)) ?_
  intro W base args ds gs before hval0 hW hcnd _
  have hval : ∀ (j : Nat) t v, Try.f4.params[j]? = some t → args[j]? = some v → Value.okWide Try.prog W .any base t v := hval0
  have hW' := hW
  obtain ⟨p, q, hA0, hV, rfl, hfz, hnd⟩ := hW
  have hA : DataW.TrodAll enc Try.prog W 0 (fun _ => true) true Try.f4.params.toList args.toList ds p := hA0
  rw [Try.params4] at hA hval
  obtain ⟨v0, vs0, d0, ds0, p0, q0, hargs, rfl, rfl, h0, r0x⟩ := trodAll_cons hA
  obtain ⟨rfl, rfl, rfl⟩ := trodAll_nil r0x
  obtain rfl : args = #[v0] := by cases args; simp_all
  obtain ⟨rfl, rfl⟩ := trodVars_none hV
  have k0 := h0
  have lt0 : ∀ x ∈ p0, x.block < W.heap.size := by obtain ⟨m, hm⟩ := k0; exact DataW.trod_lt m _ _ _ hm
  obtain ⟨a0, rfl, _, _, wf0⟩ := open_int Try.underlying3 (hval 0 3 v0 rfl rfl) h0
  clear hA0 hval0
  refine (walk W a0 wf0).mono fun e W' ⟨he, bel⟩ => ?_
  subst he
  exact ⟨_, rfl, _, _, _, [], _, [], hW', trodAll_mk1 (shut_bool Try.underlying4 _), (trodAll_cons_mk (Below.trod laidOut (by kernel_rfl) (of_decide_eq_true (by kernel_rfl)) k0 bel lt0) trodAll_mk0), rfl, bel.frame _, fun h => by cases h⟩

theorem over : Rows.fnExactPackNumRow.holds Try.pinned (OpenSpec.ofChange Rows.fnExactPackNumSpec) :=
  OpenClaim.holds_of_wide 4 Try.f4 rfl rfl rfl rfl rfl rfl rfl ⟨rfl, rfl, rfl, rfl, rfl⟩ rfl rfl rfl rfl rfl (by kernel_rfl) Try.func4 (by kernel_rfl)
    (of_decide_eq_true (by kernel_rfl)) (by unfold Func.isWrapper; first | (rw [if_pos (by decide +kernel)]; kernel_rfl) | (rw [if_neg (by decide +kernel)]; exact ⟨rfl, rfl⟩))
    (fun os started H enc _ => lifted os started H enc)

/-- The statement. -/
theorem proved : Rows.FnExactPackNumSaid := over
#print axioms proved
end Go.Proofs.Ytgjojajodkagbaa.fnExactPackNum
