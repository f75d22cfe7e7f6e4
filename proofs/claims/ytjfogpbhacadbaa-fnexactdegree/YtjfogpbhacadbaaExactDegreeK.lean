/- Proved: Who is in the way of how many: the program answers as its model at every program and number (FnExactDegree), with no condition. -/
import Derived.Test.YtjfogpbhacadbaaRows
import Derived.Test.YtjfogpbhacadbaaKTo
import Derived.Test.YtjfogpbhacadbaaKEq
import Derived.Test.YtjfogpbhacadbaaKMark
import Derived.Test.YtjfogpbhacadbaaClImp2K
import Derived.WalkKit
import Derived.ProofKit
import Derived.OpenShut
import Derived.ShutString
import Derived.ChangeOld
import Derived.Below
namespace Go.Proofs.Ytjfogpbhacadbaa.fnExactDegree
open Go.ChangeShapes Go.WideShapes Go.ChangeAt Go.RowKit
open Go.ChangeMaps (open_string shut_string)
set_option linter.unusedVariables false

theorem own : ownKnob Try.prog.godebug = none := by kernel_rfl
theorem laidOut : laidOutB Try.prog = true := by kernel_rfl

set_option maxHeartbeats 4000000 in
theorem walk (w : World) (v0 : Value) (F0 : FnD) (hF0 : FnAt w v0 F0) (a1 : Int) (wf1 : (Lit.int .i64 a1).wf = true) :
    Calls Try.prog 3 #[v0, .int .i64 a1] w fun e w' => e = .returned (.bool true) ∧ Below w.heap.size w w' := by
  have HF : Hid (FnAt w v0 F0) := hF0
  obtain ⟨n, HN⟩ : ∃ n, Hid (F0.blocks.length = n) := ⟨_, rfl⟩
  obtain ⟨vals, HV⟩ : ∃ x, Hid (F0.values = x) := ⟨_, rfl⟩
  obtain ⟨ba, bcap, rfl⟩ := hF0.out HN.out HV.out
  clear hF0
  obtain ⟨r, HR⟩ : ∃ r, Hid (degreeOf F0 a1 = r) := ⟨_, rfl⟩
  have hd : (r != r) = false := by simp
  go_enter Try.func3, Try.ntmps3
  go_wp2_with fail
  refine (szFn_any _ F0 1048576 _ (HF.out.later (Bel.alloc w _)) (by omega) (by omega)).mono ?_
  rintro e w1 ⟨z, rfl, hr0, hr1, hsm, b1⟩
  have HSM : Hid (0 ≤ z → FnSmall F0) := hsm
  have B1 : Hid (Below w.heap.size w w1) := Bel.after (Bel.alloc w _) b1
  have c0 := box_cell b1 0
  have c1 := box_cell b1 1
  simp at c0 c1
  clear b1 hsm
  by_cases hr : z < 0
  · go_wp2_with fail
    go_ret
    exact ⟨rfl, B1.out⟩
  · have HS : Hid (FnSmall F0) := HSM.out (by omega)
    go_wp2_with fail
    refine (toFn_any _ F0 _ (HF.out.later B1.out) HS.out).mono ?_
    rintro e w2 ⟨v1, rfl, hf1, b2, _⟩
    have F1 : Hid (FnAt w2 v1 F0) := FnAtLo.low (Nat.zero_le _) hf1
    have B2 : Hid (Below w.heap.size w w2) := Bel.after B1.out b2
    replace c0 := Bel.keeps b2 c0
    replace c1 := Bel.keeps b2 c1
    clear b2 hf1
    go_wp2_with fail
    refine (spec_degree v1 F0 a1 _ F1.out).mono ?_
    rw [HR.out]
    rintro e w3 ⟨rfl, b3⟩
    have B3 : Hid (Below w.heap.size w w3) := Bel.after B2.out b3
    replace c0 := Bel.keeps b3 c0
    replace c1 := Bel.keeps b3 c1
    clear b3
    go_wp2_with fail
    refine (toFn_any _ F0 _ (HF.out.later B3.out) HS.out).mono ?_
    rintro e w4 ⟨v2, rfl, hf2, b4, _⟩
    have F2 : Hid (FnAt w4 v2 F0) := FnAtLo.low (Nat.zero_le _) hf2
    have B4 : Hid (Below w.heap.size w w4) := Bel.after B3.out b4
    replace c0 := Bel.keeps b4 c0
    replace c1 := Bel.keeps b4 c1
    clear b4 hf2
    obtain ⟨ba2, bcap2, rfl⟩ := FnAt.out F2.out HN.out HV.out
    go_wp2_with fail
    refine (impl_degree _ F0 a1 _ (F2.out.later (Bel.alloc _ _))).mono ?_
    rw [HR.out]
    rintro e w5 ⟨rfl, b5⟩
    have B5 : Hid (Below w.heap.size w w5) := Bel.after (Bel.after B4.out (Bel.alloc _ _)) b5
    have x0 := box_cell b5 0
    have x1 := box_cell b5 1
    simp at x0 x1
    have F5 : Hid (FnAt w5 (.agg #[.slice ba2 n bcap2, .int .i64 vals]) F0) := (F2.out.later (Bel.alloc _ _)).later b5
    replace c0 := Bel.keeps b5 (Bel.keeps (Bel.alloc _ _) c0)
    replace c1 := Bel.keeps b5 (Bel.keeps (Bel.alloc _ _) c1)
    clear b5
    go_wp2
    go_region_with (first | (go_at_call 6; refine (toFn_any _ F0 _ (HF.out.later (by first | exact B5.out.drew | exact B5.out)) HS.out).mono ?_; rintro e w6 ⟨v3, rfl, hf3, b6, _⟩; have F3 : Hid (FnAt w6 v3 F0) := FnAtLo.low (Nat.zero_le _) hf3; have F6 : Hid (FnAt w6 (.agg #[.slice ba2 n bcap2, .int .i64 vals]) F0) := F5.out.later (Bel.after (by first | exact (Below.refl _ _).drew | exact Below.refl _ _) b6); have B6 : Hid (Below w.heap.size w w6) := Bel.after (by first | exact B5.out.drew | exact B5.out) b6; have y0 := Bel.keeps b6 x0; have y1 := Bel.keeps b6 x1) | (go_at_call 8; refine (eqFn_same _ _ F0 _ (Hid.out (by assumption)) (Hid.out (by assumption))).mono ?_; rintro e w7 ⟨rfl, b7⟩; have B7 : Hid (Below w.heap.size w w7) := Bel.after (Hid.out (by assumption)) b7))
    all_goals
      go_wp2
      go_ret
      exact ⟨rfl, Hid.out (by assumption)⟩

set_option maxRecDepth 100000 in
theorem lifted (os : Os) (started : os.Started) (H : Type) (enc : TypeId × Value → H) :
    ReturnsInHanded {} Try.checked os 3 .any (Rows.fnExactDegreeSpec.pre6 enc Try.prog Try.f3 Rows.fnExactDegreeRow.domain false) (Rows.fnExactDegreeSpec.post enc Try.prog Try.f3 false true false false) := by
  refine returnsInHanded_of_change (C := Try.checked) own started (by kernel_rfl) Try.func3
    (ChangeSpec.witness6 (enc := enc) (C := Try.checked) false ⟨#[], #[.agg #[.slice none 0 0, .int .i64 0], .int .i64 0], []⟩ 8 (by kernel_rfl) (by kernel_rfl) (by kernel_rfl) (by kernel_rfl)) ?_
  intro W base args ds gs before hval0 hW hcnd _
  have hval : ∀ (j : Nat) t v, Try.f3.params[j]? = some t → args[j]? = some v → Value.okWide Try.prog W .any base t v := hval0
  have hW' := hW
  obtain ⟨p, q, hA0, hV, rfl, hfz, hnd⟩ := hW
  have hA : DataW.TrodAll enc Try.prog W 0 (fun _ => true) true Try.f3.params.toList args.toList ds p := hA0
  rw [Try.params3] at hA hval
  obtain ⟨v0, vs0, d0, ds0, p0, q0, hargs, rfl, rfl, h0, r0x⟩ := trodAll_cons hA
  obtain ⟨v1, vs1, d1, ds1, p1, q1, rfl, rfl, rfl, h1, r1x⟩ := trodAll_cons r0x
  obtain ⟨rfl, rfl, rfl⟩ := trodAll_nil r1x
  obtain rfl : args = #[v0, v1] := by cases args; simp_all
  obtain ⟨rfl, rfl⟩ := trodVars_none hV
  have k0 := h0
  have lt0 : ∀ x ∈ p0, x.block < W.heap.size := by obtain ⟨m, hm⟩ := k0; exact DataW.trod_lt m _ _ _ hm
  have k1 := h1
  have lt1 : ∀ x ∈ p1, x.block < W.heap.size := by obtain ⟨m, hm⟩ := k1; exact DataW.trod_lt m _ _ _ hm
  obtain ⟨F0, hF0⟩ := openFn (hval 0 24 v0 rfl rfl) h0
  obtain ⟨a1, rfl, _, _, wf1⟩ := open_int Try.underlying3 (hval 1 3 v1 rfl rfl) h1
  clear hA0 hval0
  refine (walk W v0 F0 hF0 a1 wf1).mono fun e W' ⟨he, bel⟩ => ?_
  subst he
  exact ⟨_, rfl, _, _, _, [], _, [], hW', trodAll_mk1 (shut_bool Try.underlying4 _), (trodAll_cons_mk (Below.trod laidOut (by kernel_rfl) (of_decide_eq_true (by kernel_rfl)) k0 bel lt0) (trodAll_cons_mk (Below.trod laidOut (by kernel_rfl) (of_decide_eq_true (by kernel_rfl)) k1 bel lt1) trodAll_mk0)), rfl, bel.frame _, fun h => by cases h⟩

theorem over : Rows.fnExactDegreeRow.holds Try.pinned (OpenSpec.ofChange Rows.fnExactDegreeSpec) :=
  OpenClaim.holds_of_wide 3 Try.f3 rfl rfl rfl rfl rfl rfl rfl ⟨rfl, rfl, rfl, rfl, rfl⟩ rfl rfl rfl rfl rfl (by kernel_rfl) Try.func3 (by kernel_rfl)
    (of_decide_eq_true (by kernel_rfl)) (by unfold Func.isWrapper; first | (rw [if_pos (by decide +kernel)]; kernel_rfl) | (rw [if_neg (by decide +kernel)]; exact ⟨rfl, rfl⟩))
    (fun os started H enc _ => lifted os started H enc)

/-- The statement. -/
theorem proved : Rows.FnExactDegreeSaid := over
#print axioms proved
end Go.Proofs.Ytjfogpbhacadbaa.fnExactDegree
