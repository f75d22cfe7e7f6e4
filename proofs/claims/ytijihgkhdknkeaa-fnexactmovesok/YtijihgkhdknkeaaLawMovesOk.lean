/- Proved: MovesOk of the program answers as the model's at every list of moves and every number, and writes into none. -/
import Derived.Test.YtijihgkhdknkeaaRows
import Derived.Test.YtijihgkhdknkeaaMvOk
import Derived.WalkKit
import Derived.ProofKit
import Derived.OpenShut
import Derived.ShutString
import Derived.ChangeOld
import Derived.Below
namespace Go.Proofs.Ytijihgkhdknkeaa.fnExactMovesOk
open Go.ChangeShapes Go.WideShapes Go.ChangeAt Go.RowKit
open Go.ChangeMaps (open_string shut_string)
set_option linter.unusedVariables false

theorem own : ownKnob Try.prog.godebug = none := by kernel_rfl
theorem laidOut : laidOutB Try.prog = true := by kernel_rfl

set_option maxHeartbeats 4000000 in
theorem walk (w : World) (a0 : Option Addr) (len0 cap0 : Nat) (l0 : List ArmD) (r0 : MovesAt w (.slice a0 len0 cap0) l0) (a1 : Int) (wf1 : (Lit.int .i64 a1).wf = true) :
    Calls Try.prog 5 #[.slice a0 len0 cap0, .int .i64 a1] w fun e w' => e = .returned (.bool true) ∧ Below w.heap.size w w' := by
  have HR : Hid (MovesAt w (.slice a0 len0 cap0) l0) := r0
  clear r0
  obtain ⟨R, HR2⟩ : ∃ R, Hid (movesOk l0 a1 = R) := ⟨_, rfl⟩
  have hRR : (R != R) = false := by simp
  go_enter Try.func5, Try.ntmps5
  go_wp2_with fail
  refine (szMoveS_any _ l0 _ HR.out).mono ?_
  rintro e w1 ⟨⟨r, rfl, hr⟩, rfl⟩
  have HL : Hid (0 ≤ r → l0.length ≤ 1048576) := hr
  clear hr
  by_cases h0 : r < 0
  · go_wp2_with fail
    go_ret
    exact ⟨rfl, Below.refl _ _⟩
  · have HS : Hid (l0.length ≤ 1048576) := HL.out (by omega)
    go_wp2_with fail
    refine (toMoveS_any _ l0 _ HR.out HS.out).mono ?_
    rintro e w2 ⟨v1, rfl, o1, b2⟩
    have O1 : Hid (OwnMoves w2 w1.heap.size v1 l0) := o1
    have B2 : Hid (Below w1.heap.size w1 w2) := b2
    clear o1 b2
    go_wp2_with fail
    refine (spec_movesOk v1 l0 a1 _ O1.out.at).mono ?_
    rw [HR2.out]
    rintro e w3 ⟨rfl, b3⟩
    have B3 : Hid (Below w1.heap.size w1 w3) := Bel.after B2.out b3
    clear b3
    go_wp2_with fail
    refine (toMoveS_any _ l0 _ (HR.out.keep B3.out) HS.out).mono ?_
    rintro e w4 ⟨v2, rfl, o2, b4⟩
    have O2 : Hid (OwnMoves w4 w3.heap.size v2 l0) := o2
    have B4 : Hid (Below w1.heap.size w1 w4) := Bel.after B3.out b4
    clear o2 b4
    go_wp2_with fail
    refine (impl_movesOk v2 l0 a1 _ O2.out.at).mono ?_
    rw [HR2.out]
    rintro e w5 ⟨rfl, b5⟩
    have B5 : Hid (Below w1.heap.size w1 w5) := Bel.after B4.out b5
    have O25 : Hid (OwnMoves w5 w3.heap.size v2 l0) := O2.out.keep b5
    clear b5
    go_wp2_with fail
    refine (toMoveS_any _ l0 _ (HR.out.keep B5.out) HS.out).mono ?_
    rintro e w6 ⟨v3, rfl, o3, b6⟩
    have O3 : Hid (OwnMoves w6 w5.heap.size v3 l0) := o3
    have B6 : Hid (Below w1.heap.size w1 w6) := Bel.after B5.out b6
    have O26 : Hid (OwnMoves w6 w3.heap.size v2 l0) := O25.out.keep b6
    clear o3 b6
    go_wp2_with fail
    refine (eqMoveS_same v2 v3 l0 _ O26.out.at O3.out.at).mono ?_
    rintro e w7 ⟨rfl, b7⟩
    have B7 : Hid (Below w1.heap.size w1 w7) := Bel.after B6.out b7
    clear b7
    go_wp2_with fail
    go_ret
    exact ⟨rfl, B7.out⟩

set_option maxRecDepth 100000 in
theorem lifted (os : Os) (started : os.Started) (H : Type) (enc : TypeId × Value → H) :
    ReturnsInHanded {} Try.checked os 5 .any (Rows.fnExactMovesOkSpec.pre6 enc Try.prog Try.f5 Rows.fnExactMovesOkRow.domain false) (Rows.fnExactMovesOkSpec.post enc Try.prog Try.f5 false true false false) := by
  refine returnsInHanded_of_change (C := Try.checked) own started (by kernel_rfl) Try.func5
    (ChangeSpec.witness6 (enc := enc) (C := Try.checked) false ⟨#[], #[.slice none 0 0, .int .i64 0], []⟩ 8 (by kernel_rfl) (by kernel_rfl) (by kernel_rfl) (by kernel_rfl)) ?_
  intro W base args ds gs before hval0 hW hcnd _
  have hval : ∀ (j : Nat) t v, Try.f5.params[j]? = some t → args[j]? = some v → Value.okWide Try.prog W .any base t v := hval0
  have hW' := hW
  obtain ⟨p, q, hA0, hV, rfl, hfz, hnd⟩ := hW
  have hA : DataW.TrodAll enc Try.prog W 0 (fun _ => true) true Try.f5.params.toList args.toList ds p := hA0
  rw [Try.params5] at hA hval
  obtain ⟨v0, vs0, d0, ds0, p0, q0, hargs, rfl, rfl, h0, r0x⟩ := trodAll_cons hA
  obtain ⟨v1, vs1, d1, ds1, p1, q1, rfl, rfl, rfl, h1, r1x⟩ := trodAll_cons r0x
  obtain ⟨rfl, rfl, rfl⟩ := trodAll_nil r1x
  obtain rfl : args = #[v0, v1] := by cases args; simp_all
  obtain ⟨rfl, rfl⟩ := trodVars_none hV
  have k0 := h0
  have lt0 : ∀ x ∈ p0, x.block < W.heap.size := by obtain ⟨m, hm⟩ := k0; exact DataW.trod_lt m _ _ _ hm
  have k1 := h1
  have lt1 : ∀ x ∈ p1, x.block < W.heap.size := by obtain ⟨m, hm⟩ := k1; exact DataW.trod_lt m _ _ _ hm
  obtain ⟨a0, len0, cap0, rfl⟩ := okWide_slice Try.underlying34 (hval 0 34 v0 rfl rfl)
  obtain ⟨l0, r0⟩ := openMoves h0
  obtain ⟨a1, rfl, _, _, wf1⟩ := open_int Try.underlying3 (hval 1 3 v1 rfl rfl) h1
  clear hA0 hval0
  refine (walk W a0 len0 cap0 l0 r0 a1 wf1).mono fun e W' ⟨he, bel⟩ => ?_
  subst he
  exact ⟨_, rfl, _, _, _, [], _, [], hW', trodAll_mk1 (shut_bool Try.underlying4 _), (trodAll_cons_mk (Below.trod laidOut (by kernel_rfl) (of_decide_eq_true (by kernel_rfl)) k0 bel lt0) (trodAll_cons_mk (Below.trod laidOut (by kernel_rfl) (of_decide_eq_true (by kernel_rfl)) k1 bel lt1) trodAll_mk0)), rfl, bel.frame _, fun h => by cases h⟩

theorem over : Rows.fnExactMovesOkRow.holds Try.pinned (OpenSpec.ofChange Rows.fnExactMovesOkSpec) :=
  OpenClaim.holds_of_wide 5 Try.f5 rfl rfl rfl rfl rfl rfl rfl ⟨rfl, rfl, rfl, rfl, rfl⟩ rfl rfl rfl rfl rfl (by kernel_rfl) Try.func5 (by kernel_rfl)
    (of_decide_eq_true (by kernel_rfl)) (by unfold Func.isWrapper; first | (rw [if_pos (by decide +kernel)]; kernel_rfl) | (rw [if_neg (by decide +kernel)]; exact ⟨rfl, rfl⟩))
    (fun os started H enc _ => lifted os started H enc)

/-- The statement. -/
theorem proved : Rows.FnExactMovesOkSaid := over
#print axioms proved
end Go.Proofs.Ytijihgkhdknkeaa.fnExactMovesOk
