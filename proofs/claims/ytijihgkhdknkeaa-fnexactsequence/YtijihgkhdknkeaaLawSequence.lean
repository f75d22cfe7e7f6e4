/- Proved: Sequence of the program answers as the model's at every list of moves and every number, writes into none, and its answer owns its memory. -/
import Derived.Test.YtijihgkhdknkeaaRows
import Derived.Test.YtijihgkhdknkeaaMvSq2
import Derived.WalkKit
import Derived.ProofKit
import Derived.OpenShut
import Derived.ShutString
import Derived.ChangeOld
import Derived.Below
namespace Go.Proofs.Ytijihgkhdknkeaa.fnExactSequence
open Go.ChangeShapes Go.WideShapes Go.ChangeAt Go.RowKit
open Go.ChangeMaps (open_string shut_string)
set_option linter.unusedVariables false

theorem own : ownKnob Try.prog.godebug = none := by kernel_rfl
theorem laidOut : laidOutB Try.prog = true := by kernel_rfl

set_option maxHeartbeats 4000000 in
theorem walk (w : World) (a0 : Option Addr) (len0 cap0 : Nat) (l0 : List ArmD) (r0 : MovesAt w (.slice a0 len0 cap0) l0) (a1 : Int) (wf1 : (Lit.int .i64 a1).wf = true) :
    Calls Try.prog 8 #[.slice a0 len0 cap0, .int .i64 a1] w fun e w' => e = .returned (.bool true) ∧ Below w.heap.size w w' := by
  have HR : Hid (MovesAt w (.slice a0 len0 cap0) l0) := r0
  clear r0
  obtain ⟨R, HRR⟩ : ∃ R, Hid (movesOk l0 a1 = R) := ⟨_, rfl⟩
  obtain ⟨L, HLL⟩ : ∃ L, Hid (seqRow l0 a1 = L) := ⟨_, rfl⟩
  have hln0 : L.length ≤ 48 := by rw [← HLL.out]; exact seqRow_len _ _
  obtain ⟨ln, HLN⟩ : ∃ q, Hid (L.length = q) := ⟨_, rfl⟩
  have hln : ln ≤ 48 := by rw [← HLN.out]; exact hln0
  clear hln0
  have hRR : (R != R) = false := by simp
  go_enter Try.func8, Try.ntmps8
  go_wp2_with fail
  refine (szMoveS_any _ l0 _ HR.out).mono ?_
  rintro e w1 ⟨⟨r, rfl, hr⟩, rfl⟩
  have HL : Hid (0 ≤ r → l0.length ≤ 1048576) := hr
  clear hr
  by_cases h0 : r < 0
  · go_wp2_with fail
    go_ret
    exact ⟨rfl, Below.refl _ _⟩
  have HS : Hid (l0.length ≤ 1048576) := HL.out (by omega)
  have Bw1 : Hid (Below w1.heap.size w1 w1) := Below.refl _ _
  go_wp2_with fail
  refine (toMoveS_any _ l0 _ (HR.out.keep Bw1.out) HS.out).mono ?_
  rintro e w2 ⟨s0, rfl, o9, b9⟩
  have s0w2 : Hid (OwnMoves w2 w1.heap.size s0 l0) := o9
  have LTs0 : Hid (∀ b, s0.ownBlock = some b → w1.heap.size ≤ b ∧ b < w2.heap.size) := o9.lt
  have LEw2 : w1.heap.size ≤ w2.heap.size := b9.size
  have Bw2 : Hid (Below w1.heap.size w1 w2) := Bel.after Bw1.out b9
  clear o9 b9
  go_wp2_with fail
  refine (spec_sequence s0 l0 a1 _ s0w2.out.at).mono ?_
  rw [HRR.out, HLL.out]
  rintro e w3 ⟨g0, rfl, o9, b9⟩
  have g0w3 : Hid (OwnMoves w3 w2.heap.size g0 L) := o9
  have LTg0 : Hid (∀ b, g0.ownBlock = some b → w2.heap.size ≤ b ∧ b < w3.heap.size) := o9.lt
  have LEw3 : w2.heap.size ≤ w3.heap.size := b9.size
  have Bw3 : Hid (Below w1.heap.size w1 w3) := Bel.after Bw2.out b9
  have s0w3 : Hid (OwnMoves w3 w1.heap.size s0 l0) := s0w2.out.keep b9
  clear o9 b9
  go_wp2_with fail
  refine (toMoveS_any _ l0 _ (HR.out.keep Bw3.out) HS.out).mono ?_
  rintro e w4 ⟨x0, rfl, o9, b9⟩
  have x0w4 : Hid (OwnMoves w4 w3.heap.size x0 l0) := o9
  have LTx0 : Hid (∀ b, x0.ownBlock = some b → w3.heap.size ≤ b ∧ b < w4.heap.size) := o9.lt
  have LEw4 : w3.heap.size ≤ w4.heap.size := b9.size
  have Bw4 : Hid (Below w1.heap.size w1 w4) := Bel.after Bw3.out b9
  have g0w4 : Hid (OwnMoves w4 w2.heap.size g0 L) := g0w3.out.keep b9
  clear o9 b9
  go_wp2_with fail
  refine (impl_sequence x0 l0 a1 _ x0w4.out.at).mono ?_
  rw [HRR.out, HLL.out]
  rintro e w5 ⟨g1, rfl, o9, b9⟩
  have g1w5 : Hid (OwnMoves w5 w4.heap.size g1 L) := o9
  have LTg1 : Hid (∀ b, g1.ownBlock = some b → w4.heap.size ≤ b ∧ b < w5.heap.size) := o9.lt
  have LEw5 : w4.heap.size ≤ w5.heap.size := b9.size
  have Bw5 : Hid (Below w1.heap.size w1 w5) := Bel.after Bw4.out b9
  have g0w5 : Hid (OwnMoves w5 w2.heap.size g0 L) := g0w4.out.keep b9
  have x0w5 : Hid (OwnMoves w5 w3.heap.size x0 l0) := x0w4.out.keep b9
  clear o9 b9
  go_wp2_with fail
  refine (eqMoveS_same g1 g0 L _ g1w5.out.at g0w5.out.at).mono ?_
  rintro e w6 ⟨rfl, b9⟩
  have LEw6 : w5.heap.size ≤ w6.heap.size := b9.size
  have Bw6 : Hid (Below w1.heap.size w1 w6) := Bel.after Bw5.out b9
  have g0w6 : Hid (OwnMoves w6 w2.heap.size g0 L) := g0w5.out.keep b9
  have x0w6 : Hid (OwnMoves w6 w3.heap.size x0 l0) := x0w5.out.keep b9
  have g1w6 : Hid (OwnMoves w6 w4.heap.size g1 L) := g1w5.out.keep b9
  clear b9
  go_wp2_with fail
  refine (toMoveS_any _ l0 _ (HR.out.keep Bw6.out) HS.out).mono ?_
  rintro e w7 ⟨y0, rfl, o9, b9⟩
  have y0w7 : Hid (OwnMoves w7 w6.heap.size y0 l0) := o9
  have LTy0 : Hid (∀ b, y0.ownBlock = some b → w6.heap.size ≤ b ∧ b < w7.heap.size) := o9.lt
  have LEw7 : w6.heap.size ≤ w7.heap.size := b9.size
  have Bw7 : Hid (Below w1.heap.size w1 w7) := Bel.after Bw6.out b9
  have g0w7 : Hid (OwnMoves w7 w2.heap.size g0 L) := g0w6.out.keep b9
  have x0w7 : Hid (OwnMoves w7 w3.heap.size x0 l0) := x0w6.out.keep b9
  have g1w7 : Hid (OwnMoves w7 w4.heap.size g1 L) := g1w6.out.keep b9
  clear o9 b9
  go_wp2_with fail
  refine (eqMoveS_same x0 y0 l0 _ x0w7.out.at y0w7.out.at).mono ?_
  rintro e w8 ⟨rfl, b9⟩
  have LEw8 : w7.heap.size ≤ w8.heap.size := b9.size
  have Bw8 : Hid (Below w1.heap.size w1 w8) := Bel.after Bw7.out b9
  have g0w8 : Hid (OwnMoves w8 w2.heap.size g0 L) := g0w7.out.keep b9
  have x0w8 : Hid (OwnMoves w8 w3.heap.size x0 l0) := x0w7.out.keep b9
  have g1w8 : Hid (OwnMoves w8 w4.heap.size g1 L) := g1w7.out.keep b9
  have y0w8 : Hid (OwnMoves w8 w6.heap.size y0 l0) := y0w7.out.keep b9
  clear b9
  obtain ⟨n0, HN0⟩ : ∃ q, Hid (l0.length = q) := ⟨_, rfl⟩
  have hn0 : n0 ≤ 1048576 := by rw [← HN0.out]; exact HS.out
  go_wp2_with fail
  refine (markMoveS_apart w3.heap.size x0 l0 1 _ x0w8.out (by omega) (by omega) (by rw [HN0.out]; omega)).mono ?_
  rw [HN0.out]
  rintro e w9 ⟨rfl, b9, _, a9⟩
  have LEw9 : w8.heap.size ≤ w9.heap.size := b9.size
  have Bw9 : Hid (Below w1.heap.size w1 w9) := Bw8.out.trans (b9.mono (by omega))
  have g0w9 : Hid (OwnMoves w9 w2.heap.size g0 L) := g0w8.out.apartM a9 (fun b h1 h2 => by have := LTx0.out b h1; have := LTg0.out b h2; omega)
  have g1w9 : Hid (OwnMoves w9 w4.heap.size g1 L) := g1w8.out.apartM a9 (fun b h1 h2 => by have := LTx0.out b h1; have := LTg1.out b h2; omega)
  clear b9 a9
  have hk0 : ¬ (1 + (n0 : Int) * 2) < 0 := by omega
  go_wp2_with fail
  refine (eqMoveS_same g1 g0 L _ g1w9.out.at g0w9.out.at).mono ?_
  rintro e w10 ⟨rfl, b9⟩
  have LEw10 : w9.heap.size ≤ w10.heap.size := b9.size
  have Bw10 : Hid (Below w1.heap.size w1 w10) := Bel.after Bw9.out b9
  have g0w10 : Hid (OwnMoves w10 w2.heap.size g0 L) := g0w9.out.keep b9
  have g1w10 : Hid (OwnMoves w10 w4.heap.size g1 L) := g1w9.out.keep b9
  clear b9
  go_wp2_with fail
  refine (markMoveS_apart w4.heap.size g1 L 1 _ g1w10.out (by omega) (by omega) (by rw [HLN.out]; omega)).mono ?_
  rw [HLN.out]
  rintro e w11 ⟨rfl, b9, r9, a9⟩
  have LEw11 : w10.heap.size ≤ w11.heap.size := b9.size
  have Bw11 : Hid (Below w1.heap.size w1 w11) := Bw10.out.trans (b9.mono (by omega))
  have g0w11 : Hid (OwnMoves w11 w2.heap.size g0 L) := g0w10.out.apartM a9 (fun b h1 h2 => by have := LTg1.out b h1; have := LTg0.out b h2; omega)
  have G1w11 : Hid (MovesAt w11 g1 (mmarks 1 ln)) := r9
  clear b9 r9 a9
  have hq0 : ¬ (1 + (ln : Int) * 2) < 0 := by omega
  have hqq : ((1 + (ln : Int) * 2) != (1 + (ln : Int) * 2)) = false := by simp
  go_wp2_with fail
  refine (heldMoveS_any g1 ln 1 _ G1w11.out (by omega) (by omega)).mono ?_
  rintro e w99 ⟨rfl, e99⟩
  have e99 := e99.symm
  subst e99
  go_wp2_with fail
  refine (toMoveS_any _ l0 _ (HR.out.keep Bw11.out) HS.out).mono ?_
  rintro e w12 ⟨z0, rfl, o9, b9⟩
  have z0w12 : Hid (OwnMoves w12 w11.heap.size z0 l0) := o9
  have LTz0 : Hid (∀ b, z0.ownBlock = some b → w11.heap.size ≤ b ∧ b < w12.heap.size) := o9.lt
  have LEw12 : w11.heap.size ≤ w12.heap.size := b9.size
  have Bw12 : Hid (Below w1.heap.size w1 w12) := Bel.after Bw11.out b9
  have g0w12 : Hid (OwnMoves w12 w2.heap.size g0 L) := g0w11.out.keep b9
  have G1w12 : Hid (MovesAt w12 g1 (mmarks 1 ln)) := G1w11.out.keep b9
  clear o9 b9
  go_wp2_with fail
  refine (impl_sequence z0 l0 a1 _ z0w12.out.at).mono ?_
  rw [HRR.out, HLL.out]
  rintro e w13 ⟨h9, rfl, o9, b9⟩
  have h9w13 : Hid (OwnMoves w13 w12.heap.size h9 L) := o9
  have LTh9 : Hid (∀ b, h9.ownBlock = some b → w12.heap.size ≤ b ∧ b < w13.heap.size) := o9.lt
  have LEw13 : w12.heap.size ≤ w13.heap.size := b9.size
  have Bw13 : Hid (Below w1.heap.size w1 w13) := Bel.after Bw12.out b9
  have g0w13 : Hid (OwnMoves w13 w2.heap.size g0 L) := g0w12.out.keep b9
  have z0w13 : Hid (OwnMoves w13 w11.heap.size z0 l0) := z0w12.out.keep b9
  have G1w13 : Hid (MovesAt w13 g1 (mmarks 1 ln)) := G1w12.out.keep b9
  clear o9 b9
  go_wp2_with fail
  refine (eqMoveS_same h9 g0 L _ h9w13.out.at g0w13.out.at).mono ?_
  rintro e w14 ⟨rfl, b9⟩
  have LEw14 : w13.heap.size ≤ w14.heap.size := b9.size
  have Bw14 : Hid (Below w1.heap.size w1 w14) := Bel.after Bw13.out b9
  have g0w14 : Hid (OwnMoves w14 w2.heap.size g0 L) := g0w13.out.keep b9
  have z0w14 : Hid (OwnMoves w14 w11.heap.size z0 l0) := z0w13.out.keep b9
  have h9w14 : Hid (OwnMoves w14 w12.heap.size h9 L) := h9w13.out.keep b9
  have G1w14 : Hid (MovesAt w14 g1 (mmarks 1 ln)) := G1w13.out.keep b9
  clear b9
  go_wp2_with fail
  refine (heldMoveS_any g1 ln 1 _ G1w14.out (by omega) (by omega)).mono ?_
  rintro e w98 ⟨rfl, e98⟩
  have e98 := e98.symm
  subst e98
  go_wp2_with fail
  go_ret
  exact ⟨rfl, Bw14.out⟩

set_option maxRecDepth 100000 in
theorem lifted (os : Os) (started : os.Started) (H : Type) (enc : TypeId × Value → H) :
    ReturnsInHanded {} Try.checked os 8 .any (Rows.fnExactSequenceSpec.pre6 enc Try.prog Try.f8 Rows.fnExactSequenceRow.domain false) (Rows.fnExactSequenceSpec.post enc Try.prog Try.f8 false true false false) := by
  refine returnsInHanded_of_change (C := Try.checked) own started (by kernel_rfl) Try.func8
    (ChangeSpec.witness6 (enc := enc) (C := Try.checked) false ⟨#[], #[.slice none 0 0, .int .i64 0], []⟩ 8 (by kernel_rfl) (by kernel_rfl) (by kernel_rfl) (by kernel_rfl)) ?_
  intro W base args ds gs before hval0 hW hcnd _
  have hval : ∀ (j : Nat) t v, Try.f8.params[j]? = some t → args[j]? = some v → Value.okWide Try.prog W .any base t v := hval0
  have hW' := hW
  obtain ⟨p, q, hA0, hV, rfl, hfz, hnd⟩ := hW
  have hA : DataW.TrodAll enc Try.prog W 0 (fun _ => true) true Try.f8.params.toList args.toList ds p := hA0
  rw [Try.params8] at hA hval
  obtain ⟨v0, vs0, d0, ds0, p0, q0, hargs, rfl, rfl, h0, r0x⟩ := trodAll_cons hA
  obtain ⟨v1, vs1, d1, ds1, p1, q1, rfl, rfl, rfl, h1, r1x⟩ := trodAll_cons r0x
  obtain ⟨rfl, rfl, rfl⟩ := trodAll_nil r1x
  obtain rfl : args = #[v0, v1] := by cases args; simp_all
  obtain ⟨rfl, rfl⟩ := trodVars_none hV
  have k0 := h0
  have lt0 : ∀ x ∈ p0, x.block < W.heap.size := by obtain ⟨m, hm⟩ := k0; exact DataW.trod_lt m _ _ _ hm
  have k1 := h1
  have lt1 : ∀ x ∈ p1, x.block < W.heap.size := by obtain ⟨m, hm⟩ := k1; exact DataW.trod_lt m _ _ _ hm
  obtain ⟨a0, len0, cap0, rfl⟩ := okWide_slice Try.underlying34 (hval 0 34 v0 rfl rfl)
  obtain ⟨l0, r0⟩ := openMoves h0
  obtain ⟨a1, rfl, _, _, wf1⟩ := open_int Try.underlying3 (hval 1 3 v1 rfl rfl) h1
  clear hA0 hval0
  refine (walk W a0 len0 cap0 l0 r0 a1 wf1).mono fun e W' ⟨he, bel⟩ => ?_
  subst he
  exact ⟨_, rfl, _, _, _, [], _, [], hW', trodAll_mk1 (shut_bool Try.underlying4 _), (trodAll_cons_mk (Below.trod laidOut (by kernel_rfl) (of_decide_eq_true (by kernel_rfl)) k0 bel lt0) (trodAll_cons_mk (Below.trod laidOut (by kernel_rfl) (of_decide_eq_true (by kernel_rfl)) k1 bel lt1) trodAll_mk0)), rfl, bel.frame _, fun h => by cases h⟩

theorem over : Rows.fnExactSequenceRow.holds Try.pinned (OpenSpec.ofChange Rows.fnExactSequenceSpec) :=
  OpenClaim.holds_of_wide 8 Try.f8 rfl rfl rfl rfl rfl rfl rfl ⟨rfl, rfl, rfl, rfl, rfl⟩ rfl rfl rfl rfl rfl (by kernel_rfl) Try.func8 (by kernel_rfl)
    (of_decide_eq_true (by kernel_rfl)) (by unfold Func.isWrapper; first | (rw [if_pos (by decide +kernel)]; kernel_rfl) | (rw [if_neg (by decide +kernel)]; exact ⟨rfl, rfl⟩))
    (fun os started H enc _ => lifted os started H enc)

/-- The statement. -/
theorem proved : Rows.FnExactSequenceSaid := over
#print axioms proved
end Go.Proofs.Ytijihgkhdknkeaa.fnExactSequence
