/- Proved: MovesDo of the program answers as the model's at every list of moves and every list of numbers, writes into none, and its answer owns its memory. -/
import Derived.Test.YtijihgkhdknkeaaRows
import Derived.Test.YtijihgkhdknkeaaMvRun
import Derived.WalkKit
import Derived.ProofKit
import Derived.OpenShut
import Derived.ShutString
import Derived.ChangeOld
import Derived.Below
namespace Go.Proofs.Ytijihgkhdknkeaa.fnExactMovesDo
open Go.ChangeShapes Go.WideShapes Go.ChangeAt Go.RowKit
open Go.ChangeMaps (open_string shut_string)
set_option linter.unusedVariables false

theorem own : ownKnob Try.prog.godebug = none := by kernel_rfl
theorem laidOut : laidOutB Try.prog = true := by kernel_rfl

set_option maxHeartbeats 4000000 in
theorem walk (w : World) (a0 : Option Addr) (len0 cap0 : Nat) (l0 : List ArmD) (r0 : MovesAt w (.slice a0 len0 cap0) l0) (a1 : Option Addr) (len1 cap1 : Nat) (z1 : List Int) (r1 : IsRow .i64 w a1 len1 cap1 z1) :
    Calls Try.prog 6 #[.slice a0 len0 cap0, .slice a1 len1 cap1] w fun e w' => e = .returned (.bool true) ∧ Below w.heap.size w w' := by
  obtain ⟨vals, hv0, _, hvl⟩ := IntsAt.ofRow r1
  have HRW : Hid (IsRow .i64 w a1 len1 cap1 z1) := r1
  have HZ : Hid (z1.take len1 = vals) := (by assumption : vals = _).symm
  have HVL : Hid (vals.length = len1) := hvl
  have hlm : len1 ≤ 9223372036854775807 := by obtain ⟨_, _, e, h, _⟩ := hv0; simp at e; omega
  have HR : Hid (MovesAt w (.slice a0 len0 cap0) l0) := r0
  clear r0 r1 hv0 hvl
  rename_i hx__
  clear hx__
  obtain ⟨LL, HLL⟩ : ∃ R, Hid (movesDo l0 vals = R) := ⟨_, rfl⟩
  have HLN : Hid (LL.length = len1) := by show _ = _; rw [← HLL.out, movesDo_len]; exact HVL.out
  have hd : decide (LL = LL) = true := by simp
  have hd2 : decide (vals = vals) = true := by simp
  by_cases hbig : (len1 : Int) > 1048576
  · go_enter Try.func6, Try.ntmps6
    go_wp2_with fail
    go_ret
    exact ⟨rfl, Below.refl _ _⟩
  have hsm : len1 ≤ 1048576 := by omega
  go_enter Try.func6, Try.ntmps6
  go_wp2_with fail
  refine (szMoveS_any _ l0 _ HR.out).mono ?_
  rintro e w1 ⟨⟨r, rfl, hr⟩, rfl⟩
  have HL : Hid (0 ≤ r → l0.length ≤ 1048576) := hr
  clear hr
  by_cases h0 : r < 0
  · go_wp2_with fail
    go_ret
    exact ⟨rfl, Below.refl _ _⟩
  have HS : Hid (l0.length ≤ 1048576) := HL.out (by omega)
  have HSM : Hid (vals.length ≤ 1048577) := by show _ ≤ _; have := HVL.out; omega
  have Bw1 : Hid (Below w1.heap.size w1 w1) := Below.refl _ _
  go_wp2_with fail
  refine (toMoveS_any _ l0 _ (HR.out.keep Bw1.out) HS.out).mono ?_
  rintro e w2 ⟨s0, rfl, o9, b9⟩
  have s0w2 : Hid (OwnMoves w2 w1.heap.size s0 l0) := o9
  have LTs0 : Hid (∀ b, s0.ownBlock = some b → w1.heap.size ≤ b ∧ b < w2.heap.size) := o9.lt
  have LEw2 : w1.heap.size ≤ w2.heap.size := b9.size
  have Bw2 : Hid (Below w1.heap.size w1 w2) := Bel.after Bw1.out b9
  clear o9 b9
  go_wp2_with fail
  refine (toIntS_any a1 len1 cap1 z1 _ (HRW.out.after Bw2.out) hsm).mono ?_
  rw [HZ.out]
  rintro e w3 ⟨s1, rfl, o9, b9⟩
  have s1w3 : Hid (OwnInts w3 w2.heap.size s1 vals) := o9
  have LTs1 : Hid (∀ b, s1.ownBlock = some b → w2.heap.size ≤ b ∧ b < w3.heap.size) := o9.lt
  have LEw3 : w2.heap.size ≤ w3.heap.size := b9.size
  have Bw3 : Hid (Below w1.heap.size w1 w3) := Bel.after Bw2.out b9
  have s0w3 : Hid (OwnMoves w3 w1.heap.size s0 l0) := s0w2.out.keep b9
  clear o9 b9
  go_wp2_with fail
  refine (spec_movesDo s0 l0 s1 vals _ s0w3.out.at s1w3.out.at HSM.out).mono ?_
  rw [HLL.out]
  rintro e w4 ⟨g0, rfl, o9, b9⟩
  have g0w4 : Hid (OwnInts w4 w3.heap.size g0 LL) := o9
  have LTg0 : Hid (∀ b, g0.ownBlock = some b → w3.heap.size ≤ b ∧ b < w4.heap.size) := o9.lt
  have LEw4 : w3.heap.size ≤ w4.heap.size := b9.size
  have Bw4 : Hid (Below w1.heap.size w1 w4) := Bel.after Bw3.out b9
  have s0w4 : Hid (OwnMoves w4 w1.heap.size s0 l0) := s0w3.out.keep b9
  have s1w4 : Hid (OwnInts w4 w2.heap.size s1 vals) := s1w3.out.keep b9
  clear o9 b9
  go_wp2_with fail
  refine (toMoveS_any _ l0 _ (HR.out.keep Bw4.out) HS.out).mono ?_
  rintro e w5 ⟨x0, rfl, o9, b9⟩
  have x0w5 : Hid (OwnMoves w5 w4.heap.size x0 l0) := o9
  have LTx0 : Hid (∀ b, x0.ownBlock = some b → w4.heap.size ≤ b ∧ b < w5.heap.size) := o9.lt
  have LEw5 : w4.heap.size ≤ w5.heap.size := b9.size
  have Bw5 : Hid (Below w1.heap.size w1 w5) := Bel.after Bw4.out b9
  have g0w5 : Hid (OwnInts w5 w3.heap.size g0 LL) := g0w4.out.keep b9
  clear o9 b9
  go_wp2_with fail
  refine (toIntS_any a1 len1 cap1 z1 _ (HRW.out.after Bw5.out) hsm).mono ?_
  rw [HZ.out]
  rintro e w6 ⟨x1, rfl, o9, b9⟩
  have x1w6 : Hid (OwnInts w6 w5.heap.size x1 vals) := o9
  have LTx1 : Hid (∀ b, x1.ownBlock = some b → w5.heap.size ≤ b ∧ b < w6.heap.size) := o9.lt
  have LEw6 : w5.heap.size ≤ w6.heap.size := b9.size
  have Bw6 : Hid (Below w1.heap.size w1 w6) := Bel.after Bw5.out b9
  have g0w6 : Hid (OwnInts w6 w3.heap.size g0 LL) := g0w5.out.keep b9
  have x0w6 : Hid (OwnMoves w6 w4.heap.size x0 l0) := x0w5.out.keep b9
  clear o9 b9
  go_wp2_with fail
  refine (impl_movesDo x0 l0 x1 vals _ x0w6.out.at x1w6.out.at HSM.out).mono ?_
  rw [HLL.out]
  rintro e w7 ⟨g1, rfl, o9, b9⟩
  have g1w7 : Hid (OwnInts w7 w6.heap.size g1 LL) := o9
  have LTg1 : Hid (∀ b, g1.ownBlock = some b → w6.heap.size ≤ b ∧ b < w7.heap.size) := o9.lt
  have LEw7 : w6.heap.size ≤ w7.heap.size := b9.size
  have Bw7 : Hid (Below w1.heap.size w1 w7) := Bel.after Bw6.out b9
  have g0w7 : Hid (OwnInts w7 w3.heap.size g0 LL) := g0w6.out.keep b9
  have x0w7 : Hid (OwnMoves w7 w4.heap.size x0 l0) := x0w6.out.keep b9
  have x1w7 : Hid (OwnInts w7 w5.heap.size x1 vals) := x1w6.out.keep b9
  clear o9 b9
  go_wp2_with fail
  refine (eqIntS_any g1 g0 _ _ _ g1w7.out.at g0w7.out.at).mono ?_
  rintro e w8 ⟨rfl, b9⟩
  have LEw8 : w7.heap.size ≤ w8.heap.size := b9.size
  have Bw8 : Hid (Below w1.heap.size w1 w8) := Bel.after Bw7.out b9
  have g0w8 : Hid (OwnInts w8 w3.heap.size g0 LL) := g0w7.out.keep b9
  have x0w8 : Hid (OwnMoves w8 w4.heap.size x0 l0) := x0w7.out.keep b9
  have x1w8 : Hid (OwnInts w8 w5.heap.size x1 vals) := x1w7.out.keep b9
  have g1w8 : Hid (OwnInts w8 w6.heap.size g1 LL) := g1w7.out.keep b9
  clear b9
  go_wp2_with fail
  refine (toMoveS_any _ l0 _ (HR.out.keep Bw8.out) HS.out).mono ?_
  rintro e w9 ⟨y0, rfl, o9, b9⟩
  have y0w9 : Hid (OwnMoves w9 w8.heap.size y0 l0) := o9
  have LTy0 : Hid (∀ b, y0.ownBlock = some b → w8.heap.size ≤ b ∧ b < w9.heap.size) := o9.lt
  have LEw9 : w8.heap.size ≤ w9.heap.size := b9.size
  have Bw9 : Hid (Below w1.heap.size w1 w9) := Bel.after Bw8.out b9
  have g0w9 : Hid (OwnInts w9 w3.heap.size g0 LL) := g0w8.out.keep b9
  have x0w9 : Hid (OwnMoves w9 w4.heap.size x0 l0) := x0w8.out.keep b9
  have x1w9 : Hid (OwnInts w9 w5.heap.size x1 vals) := x1w8.out.keep b9
  have g1w9 : Hid (OwnInts w9 w6.heap.size g1 LL) := g1w8.out.keep b9
  clear o9 b9
  go_wp2_with fail
  refine (eqMoveS_same x0 y0 l0 _ x0w9.out.at y0w9.out.at).mono ?_
  rintro e w10 ⟨rfl, b9⟩
  have LEw10 : w9.heap.size ≤ w10.heap.size := b9.size
  have Bw10 : Hid (Below w1.heap.size w1 w10) := Bel.after Bw9.out b9
  have g0w10 : Hid (OwnInts w10 w3.heap.size g0 LL) := g0w9.out.keep b9
  have x0w10 : Hid (OwnMoves w10 w4.heap.size x0 l0) := x0w9.out.keep b9
  have x1w10 : Hid (OwnInts w10 w5.heap.size x1 vals) := x1w9.out.keep b9
  have g1w10 : Hid (OwnInts w10 w6.heap.size g1 LL) := g1w9.out.keep b9
  have y0w10 : Hid (OwnMoves w10 w8.heap.size y0 l0) := y0w9.out.keep b9
  clear b9
  go_wp2_with fail
  refine (toIntS_any a1 len1 cap1 z1 _ (HRW.out.after Bw10.out) hsm).mono ?_
  rw [HZ.out]
  rintro e w11 ⟨y1, rfl, o9, b9⟩
  have y1w11 : Hid (OwnInts w11 w10.heap.size y1 vals) := o9
  have LTy1 : Hid (∀ b, y1.ownBlock = some b → w10.heap.size ≤ b ∧ b < w11.heap.size) := o9.lt
  have LEw11 : w10.heap.size ≤ w11.heap.size := b9.size
  have Bw11 : Hid (Below w1.heap.size w1 w11) := Bel.after Bw10.out b9
  have g0w11 : Hid (OwnInts w11 w3.heap.size g0 LL) := g0w10.out.keep b9
  have x0w11 : Hid (OwnMoves w11 w4.heap.size x0 l0) := x0w10.out.keep b9
  have x1w11 : Hid (OwnInts w11 w5.heap.size x1 vals) := x1w10.out.keep b9
  have g1w11 : Hid (OwnInts w11 w6.heap.size g1 LL) := g1w10.out.keep b9
  clear o9 b9
  go_wp2_with fail
  refine (eqIntS_any x1 y1 _ _ _ x1w11.out.at y1w11.out.at).mono ?_
  rintro e w12 ⟨rfl, b9⟩
  have LEw12 : w11.heap.size ≤ w12.heap.size := b9.size
  have Bw12 : Hid (Below w1.heap.size w1 w12) := Bel.after Bw11.out b9
  have g0w12 : Hid (OwnInts w12 w3.heap.size g0 LL) := g0w11.out.keep b9
  have x0w12 : Hid (OwnMoves w12 w4.heap.size x0 l0) := x0w11.out.keep b9
  have x1w12 : Hid (OwnInts w12 w5.heap.size x1 vals) := x1w11.out.keep b9
  have g1w12 : Hid (OwnInts w12 w6.heap.size g1 LL) := g1w11.out.keep b9
  have y1w12 : Hid (OwnInts w12 w10.heap.size y1 vals) := y1w11.out.keep b9
  clear b9
  obtain ⟨n0, HN0⟩ : ∃ q, Hid (l0.length = q) := ⟨_, rfl⟩
  have hn0 : n0 ≤ 1048576 := by rw [← HN0.out]; exact HS.out
  go_wp2_with fail
  refine (markMoveS_apart w4.heap.size x0 l0 1 _ x0w12.out (by omega) (by omega) (by rw [HN0.out]; omega)).mono ?_
  rw [HN0.out]
  rintro e w13 ⟨rfl, b9, _, a9⟩
  have LEw13 : w12.heap.size ≤ w13.heap.size := b9.size
  have Bw13 : Hid (Below w1.heap.size w1 w13) := Bw12.out.trans (b9.mono (by omega))
  have x1w13 : Hid (OwnInts w13 w5.heap.size x1 vals) := x1w12.out.apartM a9 (fun b h1 h2 => by have := LTx0.out b h1; have := LTx1.out b h2; omega)
  have g0w13 : Hid (OwnInts w13 w3.heap.size g0 LL) := g0w12.out.apartM a9 (fun b h1 h2 => by have := LTx0.out b h1; have := LTg0.out b h2; omega)
  have g1w13 : Hid (OwnInts w13 w6.heap.size g1 LL) := g1w12.out.apartM a9 (fun b h1 h2 => by have := LTx0.out b h1; have := LTg1.out b h2; omega)
  clear b9 a9
  go_wp2_with fail
  refine (markIntS_apart w5.heap.size x1 vals (1 + (n0 : Int) * 2) _ x1w13.out (by omega) (by omega) (by rw [HVL.out]; omega)).mono ?_
  rw [HVL.out]
  rintro e w14 ⟨rfl, b9, _, a9⟩
  have LEw14 : w13.heap.size ≤ w14.heap.size := b9.size
  have Bw14 : Hid (Below w1.heap.size w1 w14) := Bw13.out.trans (b9.mono (by omega))
  have g0w14 : Hid (OwnInts w14 w3.heap.size g0 LL) := g0w13.out.apartM a9 (fun b h1 h2 => by have := LTx1.out b h1; have := LTg0.out b h2; omega)
  have g1w14 : Hid (OwnInts w14 w6.heap.size g1 LL) := g1w13.out.apartM a9 (fun b h1 h2 => by have := LTx1.out b h1; have := LTg1.out b h2; omega)
  clear b9 a9
  have hk0 : ¬ (1 + (n0 : Int) * 2 + (len1 : Int)) < 0 := by omega
  go_wp2_with fail
  refine (eqIntS_any g1 g0 _ _ _ g1w14.out.at g0w14.out.at).mono ?_
  rintro e w15 ⟨rfl, b9⟩
  have LEw15 : w14.heap.size ≤ w15.heap.size := b9.size
  have Bw15 : Hid (Below w1.heap.size w1 w15) := Bel.after Bw14.out b9
  have g0w15 : Hid (OwnInts w15 w3.heap.size g0 LL) := g0w14.out.keep b9
  have g1w15 : Hid (OwnInts w15 w6.heap.size g1 LL) := g1w14.out.keep b9
  clear b9
  go_wp2_with fail
  refine (markIntS_apart w6.heap.size g1 LL 1 _ g1w15.out (by omega) (by omega) (by rw [HLN.out]; omega)).mono ?_
  rw [HLN.out]
  rintro e w16 ⟨rfl, b9, r9, a9⟩
  have LEw16 : w15.heap.size ≤ w16.heap.size := b9.size
  have Bw16 : Hid (Below w1.heap.size w1 w16) := Bw15.out.trans (b9.mono (by omega))
  have g0w16 : Hid (OwnInts w16 w3.heap.size g0 LL) := g0w15.out.apartM a9 (fun b h1 h2 => by have := LTg1.out b h1; have := LTg0.out b h2; omega)
  have G1w16 : Hid (IntsAt w16 g1 (marks 1 len1)) := r9
  clear b9 r9 a9
  have hq0 : ¬ (1 + (len1 : Int)) < 0 := by omega
  have hqq : ((1 + (len1 : Int)) != (1 + (len1 : Int))) = false := by simp
  go_wp2_with fail
  refine (heldIntS_any g1 len1 1 _ G1w16.out (by omega) (by omega)).mono ?_
  rintro e w99 ⟨rfl, e99⟩
  have e99 := e99.symm
  subst e99
  go_wp2_with fail
  refine (toMoveS_any _ l0 _ (HR.out.keep Bw16.out) HS.out).mono ?_
  rintro e w17 ⟨z0, rfl, o9, b9⟩
  have z0w17 : Hid (OwnMoves w17 w16.heap.size z0 l0) := o9
  have LTz0 : Hid (∀ b, z0.ownBlock = some b → w16.heap.size ≤ b ∧ b < w17.heap.size) := o9.lt
  have LEw17 : w16.heap.size ≤ w17.heap.size := b9.size
  have Bw17 : Hid (Below w1.heap.size w1 w17) := Bel.after Bw16.out b9
  have g0w17 : Hid (OwnInts w17 w3.heap.size g0 LL) := g0w16.out.keep b9
  have G1w17 : Hid (IntsAt w17 g1 (marks 1 len1)) := G1w16.out.keep b9
  clear o9 b9
  go_wp2_with fail
  refine (toIntS_any a1 len1 cap1 z1 _ (HRW.out.after Bw17.out) hsm).mono ?_
  rw [HZ.out]
  rintro e w18 ⟨z1, rfl, o9, b9⟩
  have z1w18 : Hid (OwnInts w18 w17.heap.size z1 vals) := o9
  have LTz1 : Hid (∀ b, z1.ownBlock = some b → w17.heap.size ≤ b ∧ b < w18.heap.size) := o9.lt
  have LEw18 : w17.heap.size ≤ w18.heap.size := b9.size
  have Bw18 : Hid (Below w1.heap.size w1 w18) := Bel.after Bw17.out b9
  have g0w18 : Hid (OwnInts w18 w3.heap.size g0 LL) := g0w17.out.keep b9
  have z0w18 : Hid (OwnMoves w18 w16.heap.size z0 l0) := z0w17.out.keep b9
  have G1w18 : Hid (IntsAt w18 g1 (marks 1 len1)) := G1w17.out.keep b9
  clear o9 b9
  go_wp2_with fail
  refine (impl_movesDo z0 l0 z1 vals _ z0w18.out.at z1w18.out.at HSM.out).mono ?_
  rw [HLL.out]
  rintro e w19 ⟨h9, rfl, o9, b9⟩
  have h9w19 : Hid (OwnInts w19 w18.heap.size h9 LL) := o9
  have LTh9 : Hid (∀ b, h9.ownBlock = some b → w18.heap.size ≤ b ∧ b < w19.heap.size) := o9.lt
  have LEw19 : w18.heap.size ≤ w19.heap.size := b9.size
  have Bw19 : Hid (Below w1.heap.size w1 w19) := Bel.after Bw18.out b9
  have g0w19 : Hid (OwnInts w19 w3.heap.size g0 LL) := g0w18.out.keep b9
  have z0w19 : Hid (OwnMoves w19 w16.heap.size z0 l0) := z0w18.out.keep b9
  have z1w19 : Hid (OwnInts w19 w17.heap.size z1 vals) := z1w18.out.keep b9
  have G1w19 : Hid (IntsAt w19 g1 (marks 1 len1)) := G1w18.out.keep b9
  clear o9 b9
  go_wp2_with fail
  refine (eqIntS_any h9 g0 _ _ _ h9w19.out.at g0w19.out.at).mono ?_
  rintro e w20 ⟨rfl, b9⟩
  have LEw20 : w19.heap.size ≤ w20.heap.size := b9.size
  have Bw20 : Hid (Below w1.heap.size w1 w20) := Bel.after Bw19.out b9
  have g0w20 : Hid (OwnInts w20 w3.heap.size g0 LL) := g0w19.out.keep b9
  have z0w20 : Hid (OwnMoves w20 w16.heap.size z0 l0) := z0w19.out.keep b9
  have z1w20 : Hid (OwnInts w20 w17.heap.size z1 vals) := z1w19.out.keep b9
  have h9w20 : Hid (OwnInts w20 w18.heap.size h9 LL) := h9w19.out.keep b9
  have G1w20 : Hid (IntsAt w20 g1 (marks 1 len1)) := G1w19.out.keep b9
  clear b9
  go_wp2_with fail
  refine (heldIntS_any g1 len1 1 _ G1w20.out (by omega) (by omega)).mono ?_
  rintro e w98 ⟨rfl, e98⟩
  have e98 := e98.symm
  subst e98
  go_wp2_with fail
  go_ret
  exact ⟨rfl, Bw20.out⟩

set_option maxRecDepth 100000 in
theorem lifted (os : Os) (started : os.Started) (H : Type) (enc : TypeId × Value → H) :
    ReturnsInHanded {} Try.checked os 6 .any (Rows.fnExactMovesDoSpec.pre6 enc Try.prog Try.f6 Rows.fnExactMovesDoRow.domain false) (Rows.fnExactMovesDoSpec.post enc Try.prog Try.f6 false true false false) := by
  refine returnsInHanded_of_change (C := Try.checked) own started (by kernel_rfl) Try.func6
    (ChangeSpec.witness6 (enc := enc) (C := Try.checked) false ⟨#[], #[.slice none 0 0, .slice none 0 0], []⟩ 8 (by kernel_rfl) (by kernel_rfl) (by kernel_rfl) (by kernel_rfl)) ?_
  intro W base args ds gs before hval0 hW hcnd _
  have hval : ∀ (j : Nat) t v, Try.f6.params[j]? = some t → args[j]? = some v → Value.okWide Try.prog W .any base t v := hval0
  have hW' := hW
  obtain ⟨p, q, hA0, hV, rfl, hfz, hnd⟩ := hW
  have hA : DataW.TrodAll enc Try.prog W 0 (fun _ => true) true Try.f6.params.toList args.toList ds p := hA0
  rw [Try.params6] at hA hval
  obtain ⟨v0, vs0, d0, ds0, p0, q0, hargs, rfl, rfl, h0, r0x⟩ := trodAll_cons hA
  obtain ⟨v1, vs1, d1, ds1, p1, q1, rfl, rfl, rfl, h1, r1x⟩ := trodAll_cons r0x
  obtain ⟨rfl, rfl, rfl⟩ := trodAll_nil r1x
  obtain rfl : args = #[v0, v1] := by cases args; simp_all
  obtain ⟨rfl, rfl⟩ := trodVars_none hV
  have k0 := h0
  have lt0 : ∀ x ∈ p0, x.block < W.heap.size := by obtain ⟨m, hm⟩ := k0; exact DataW.trod_lt m _ _ _ hm
  have k1 := h1
  have lt1 : ∀ x ∈ p1, x.block < W.heap.size := by obtain ⟨m, hm⟩ := k1; exact DataW.trod_lt m _ _ _ hm
  obtain ⟨a0, len0, cap0, rfl⟩ := okWide_slice Try.underlying34 (hval 0 34 v0 rfl rfl)
  obtain ⟨l0, r0⟩ := openMoves h0
  obtain ⟨a1, len1, cap1, rfl⟩ := okWide_slice Try.underlying25 (hval 1 25 v1 rfl rfl)
  obtain ⟨z1, r1⟩ : ∃ zs, IsRow .i64 W a1 len1 cap1 zs := by
    obtain ⟨fuel, hf⟩ := h1
    rcases open_ints Try.underlying25 Try.underlying3 (by kernel_rfl) hf with ⟨hcs, _⟩ | ⟨x, l, c, zs, hcs, _, hl, hm, hz, _, hcell, hwz⟩
    · simp [Value.cells] at hcs
      obtain ⟨rfl, rfl, rfl⟩ := hcs
      exact ⟨[], .inl ⟨rfl, rfl, rfl, rfl⟩⟩
    · simp [Value.cells] at hcs
      obtain ⟨rfl, rfl, rfl⟩ := hcs
      exact ⟨zs, .inr ⟨_, rfl, hl, hm, by simpa using hz, hcell, hwz⟩⟩
  clear hA0 hval0
  refine (walk W a0 len0 cap0 l0 r0 a1 len1 cap1 z1 r1).mono fun e W' ⟨he, bel⟩ => ?_
  subst he
  exact ⟨_, rfl, _, _, _, [], _, [], hW', trodAll_mk1 (shut_bool Try.underlying4 _), (trodAll_cons_mk (Below.trod laidOut (by kernel_rfl) (of_decide_eq_true (by kernel_rfl)) k0 bel lt0) (trodAll_cons_mk (Below.trod laidOut (by kernel_rfl) (of_decide_eq_true (by kernel_rfl)) k1 bel lt1) trodAll_mk0)), rfl, bel.frame _, fun h => by cases h⟩

theorem over : Rows.fnExactMovesDoRow.holds Try.pinned (OpenSpec.ofChange Rows.fnExactMovesDoSpec) :=
  OpenClaim.holds_of_wide 6 Try.f6 rfl rfl rfl rfl rfl rfl rfl ⟨rfl, rfl, rfl, rfl, rfl⟩ rfl rfl rfl rfl rfl (by kernel_rfl) Try.func6 (by kernel_rfl)
    (of_decide_eq_true (by kernel_rfl)) (by unfold Func.isWrapper; first | (rw [if_pos (by decide +kernel)]; kernel_rfl) | (rw [if_neg (by decide +kernel)]; exact ⟨rfl, rfl⟩))
    (fun os started H enc _ => lifted os started H enc)

/-- The statement. -/
theorem proved : Rows.FnExactMovesDoSaid := over
#print axioms proved
end Go.Proofs.Ytijihgkhdknkeaa.fnExactMovesDo
