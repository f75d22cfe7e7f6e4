/- Proved: a drawn row of copies done one behind the other is a part of it, and then the rest. -/
import Derived.Test.YtijihgkhdknkeaaRows
import Derived.Test.YtijihgkhdknkeaaMvLaw
import Derived.WalkKit
import Derived.ProofKit
import Derived.OpenShut
import Derived.ShutString
import Derived.ChangeOld
import Derived.Below
namespace Go.Proofs.Ytijihgkhdknkeaa.fnEach
open Go.ChangeShapes Go.WideShapes Go.ChangeAt Go.RowKit
open Go.ChangeMaps (open_string shut_string)
set_option linter.unusedVariables false

theorem own : ownKnob Try.prog.godebug = none := by kernel_rfl
theorem laidOut : laidOutB Try.prog = true := by kernel_rfl

set_option maxHeartbeats 4000000 in
theorem walk (w : World) (a0 : Option Addr) (len0 cap0 : Nat) (z0 : List Int) (r0 : IsRow .u8 w a0 len0 cap0 z0) :
    Calls Try.prog 4 #[.slice a0 len0 cap0] w fun e w' => e = .returned (.bool true) ∧ Below w.heap.size w w' := by
  have HR : Hid (IsRow .u8 w a0 len0 cap0 z0) := r0
  clear r0
  go_enter Try.func4, Try.ntmps4
  go_wp2_with fail
  refine (big_any a0 len0 cap0 _).mono ?_
  rintro e w1 ⟨⟨b, rfl⟩, rfl⟩
  cases b with
  | true =>
    go_wp2_with fail
    go_ret
    exact ⟨rfl, Below.refl _ _⟩
  | false =>
    go_wp2_with fail
    refine (drawMovesEach_any a0 len0 cap0 z0 _ HR.out).mono ?_
    rintro e w2 ⟨lv, l, vv, vals, rfl, hol, hl26, hlnn, hov, hv26, hvnn, b2⟩
    obtain ⟨ll, HLL⟩ : ∃ q, Hid (l.length = q) := ⟨_, rfl⟩
    obtain ⟨vl, HVL⟩ : ∃ q, Hid (vals.length = q) := ⟨_, rfl⟩
    obtain ⟨lg, lcap, rfl, hlc, hlm, _, _⟩ := hol.open' hlnn HLL.out
    obtain ⟨vg, vcap, rfl, hvc, hvm, _, _⟩ := hov.open' hvnn HVL.out
    have HOL : Hid (OwnMoves w2 w1.heap.size (.slice (some ⟨lg, 0, none⟩) ll lcap) l) := hol
    have HOV : Hid (OwnInts w2 w1.heap.size (.slice (some ⟨vg, 0, none⟩) vl vcap) vals) := hov
    have B2 : Hid (Below w1.heap.size w1 w2) := b2
    have hll : ll ≤ 26 := by rw [← HLL.out]; exact hl26
    have hvl : vl ≤ 26 := by rw [← HVL.out]; exact hv26
    clear hol hov b2 hlnn hvnn hl26 hv26
    obtain ⟨A, HA⟩ : ∃ A, Hid (mvEach l vals = A) := ⟨_, rfl⟩
    have HAL : Hid (A.length = vl) := by show _ = _; rw [← HA.out, mvEach_len, HVL.out]
    have hdec : decide (A = A) = true := by simp
    go_wp2_with fail
    refine (impl_movesEach _ l _ vals _ HOL.out.at HOV.out.at (by have := HVL.out; omega)).mono ?_
    rw [HA.out]
    rintro e w3 ⟨av, rfl, oa, b3⟩
    have OA : Hid (OwnInts w3 w2.heap.size av A) := oa
    have HOL3 : Hid (OwnMoves w3 w1.heap.size (.slice (some ⟨lg, 0, none⟩) ll lcap) l) := HOL.out.keep b3
    have HOV3 : Hid (OwnInts w3 w1.heap.size (.slice (some ⟨vg, 0, none⟩) vl vcap) vals) := HOV.out.keep b3
    have B3 : Hid (Below w1.heap.size w1 w3) := Bel.after B2.out b3
    obtain ⟨aa, acap, rfl⟩ : ∃ aa acap, av = .slice aa vl acap := by
      obtain ⟨a9, c9, e9, _⟩ := oa.row
      exact ⟨a9, c9, by rw [e9, HAL.out]⟩
    clear oa b3
    go_wp2_with fail
    refine (spec_movesEach _ l _ vals _ HOL3.out.at HOV3.out.at (by have := HVL.out; omega)).mono ?_
    rw [HA.out]
    rintro e w4 ⟨sv, rfl, os, b4⟩
    have OS : Hid (OwnInts w4 w3.heap.size sv A) := os
    have OA4 : Hid (OwnInts w4 w2.heap.size (.slice aa vl acap) A) := OA.out.keep b4
    have HOL4 : Hid (OwnMoves w4 w1.heap.size (.slice (some ⟨lg, 0, none⟩) ll lcap) l) := HOL3.out.keep b4
    have HOV4 : Hid (OwnInts w4 w1.heap.size (.slice (some ⟨vg, 0, none⟩) vl vcap) vals) := HOV3.out.keep b4
    have B4 : Hid (Below w1.heap.size w1 w4) := Bel.after B3.out b4
    clear os b4
    go_wp2_with fail
    refine (sameInts_any _ sv A A _ OA4.out.at OS.out.at).mono ?_
    rintro e w5 ⟨rfl, b5⟩
    have OA5 : Hid (OwnInts w5 w2.heap.size (.slice aa vl acap) A) := OA4.out.keep b5
    have HOL5 : Hid (OwnMoves w5 w1.heap.size (.slice (some ⟨lg, 0, none⟩) ll lcap) l) := HOL4.out.keep b5
    have HOV5 : Hid (OwnInts w5 w1.heap.size (.slice (some ⟨vg, 0, none⟩) vl vcap) vals) := HOV4.out.keep b5
    have B5 : Hid (Below w1.heap.size w1 w5) := Bel.after B4.out b5
    clear b5
    go_wp2_with fail
    refine (at_any a0 len0 cap0 z0 _ (HR.out.after B5.out)).mono ?_
    rintro e w6 ⟨⟨x, rfl, hx⟩, e6⟩
    have e6 := e6.symm
    subst e6
    obtain ⟨r, HRM⟩ : ∃ r, Hid (x % (ll + 1) = r) := ⟨_, rfl⟩
    have hrm : r ≤ ll := by have := Nat.mod_lt x (show 0 < ll + 1 by omega); have := HRM.out; omega
    have hrem : Int.tmod (x : Int) ((ll : Int) + 1) = (r : Int) := by rw [← HRM.out, Int.tmod_eq_emod_of_nonneg (by omega)]; push_cast; rfl
    have hrem2 : (x : Int) % ((ll : Int) + 1) = (r : Int) := by rw [← HRM.out]; push_cast; rfl
    have hll1 : IntKind.i64.wrap ((ll : Int) + 1) = (ll : Int) + 1 := by simp [IntKind.wrap, IntKind.bits, IntKind.signed]; omega
    have hnz : ¬ ((ll : Int) + 1 = 0) := by omega
    go_wp2_with fail
    clear hrem hrem2 hll1 hnz
    have hhd := slice_head lg ll lcap r (by omega)
    have htl := slice_tail lg ll lcap r (by omega) (by omega)
    obtain ⟨TA, HTA⟩ : ∃ A : Option Addr, Hid ((if lcap = r then some ⟨lg, 0, none⟩ else some ⟨lg, r * 2, none⟩) = A) := ⟨_, rfl⟩
    obtain ⟨tl, HTL⟩ : ∃ tl, Hid (ll - r = tl) := ⟨_, rfl⟩
    obtain ⟨tc, HTC⟩ : ∃ tc, Hid (lcap - r = tc) := ⟨_, rfl⟩
    rw [HTA.out, HTL.out, HTC.out] at htl
    refine wp_noThrow (wp_region_held_drew (S := fun _ => True) (by kernel_rfl) trivial (fun hHeld => ?_))
    have BD : Below w5.heap.size w5 w5.drew := (Below.refl _ _).drew
    generalize w5.drew = wD at BD ⊢
    have HOLD : Hid (OwnMoves wD w1.heap.size (.slice (some ⟨lg, 0, none⟩) ll lcap) l) := HOL5.out.keep BD
    have HOVD : Hid (OwnInts wD w1.heap.size (.slice (some ⟨vg, 0, none⟩) vl vcap) vals) := HOV5.out.keep BD
    have OAD : Hid (OwnInts wD w2.heap.size (.slice aa vl acap) A) := OA5.out.keep BD
    have BDD : Hid (Below w1.heap.size w1 wD) := Bel.after B5.out BD
    clear BD
    obtain ⟨P1, HP1⟩ : ∃ P, Hid (mvEach (l.take r) vals = P) := ⟨_, rfl⟩
    have HP2 : Hid (mvEach (l.drop r) P1 = A) := by show _ = _; rw [← HP1.out, mvEach_cut, HA.out]
    have HPL : Hid (P1.length = vl) := by show _ = _; rw [← HP1.out, mvEach_len, HVL.out]
    refine wpAnyH_take (i := 0) (oi := { dst := some 29, op := Go.Op.move (Go.Operand.tmp 3), type := 24, pos := "laws.go:289", after := #[], guard := none }) (v := ?_) rfl (by kernel_rfl) (by kernel_rfl) (by kernel_rfl) (fun _ _ _ h => h) (Or.inl ⟨by rfl, ?_⟩) (by assumption) ?_
    rotate_left
    · intro w hSw
      (try dsimp only at hSw)
      go_simp
      (try with_reducible rfl)
    try simp only [Act.put, List.setIfInBounds_toArray, List.set_cons_zero, List.set_cons_succ]
    refine wpAnyH_take (i := 1) (oi := { dst := some 30, op := Go.Op.move (Go.Operand.tmp 6), type := 3, pos := "laws.go:289", after := #[], guard := none }) (v := ?_) rfl (by kernel_rfl) (by kernel_rfl) (by kernel_rfl) (fun _ _ _ h => h) (Or.inl ⟨by rfl, ?_⟩) (by assumption) ?_
    rotate_left
    · intro w hSw
      (try dsimp only at hSw)
      go_simp
      (try with_reducible rfl)
    try simp only [Act.put, List.setIfInBounds_toArray, List.set_cons_zero, List.set_cons_succ]
    refine wpAnyH_take (i := 2) (oi := { dst := some 31, op := Go.Op.slice 24 (Go.Operand.tmp 29) (some (Go.Operand.tmp 30)) none none, type := 24, pos := "laws.go:289", after := #[{ on := 0, ground := Go.Ground.data }, { on := 1, ground := Go.Ground.data }], guard := none }) (v := ?_) rfl (by kernel_rfl) (by kernel_rfl) (by kernel_rfl) (fun _ _ _ h => h) (Or.inl ⟨by rfl, ?_⟩) (by assumption) ?_
    rotate_left
    · intro w hSw
      (try dsimp only at hSw)
      go_simp
      (try with_reducible rfl)
    try simp only [Act.put, List.setIfInBounds_toArray, List.set_cons_zero, List.set_cons_succ]
    refine wpAnyH_take (i := 3) (oi := { dst := some 32, op := Go.Op.move (Go.Operand.tmp 3), type := 24, pos := "laws.go:289", after := #[], guard := none }) (v := ?_) rfl (by kernel_rfl) (by kernel_rfl) (by kernel_rfl) (fun _ _ _ h => h) (Or.inl ⟨by rfl, ?_⟩) (by assumption) ?_
    rotate_left
    · intro w hSw
      (try dsimp only at hSw)
      go_simp
      (try with_reducible rfl)
    try simp only [Act.put, List.setIfInBounds_toArray, List.set_cons_zero, List.set_cons_succ]
    refine wpAnyH_take (i := 4) (oi := { dst := some 33, op := Go.Op.move (Go.Operand.tmp 6), type := 3, pos := "laws.go:289", after := #[], guard := none }) (v := ?_) rfl (by kernel_rfl) (by kernel_rfl) (by kernel_rfl) (fun _ _ _ h => h) (Or.inl ⟨by rfl, ?_⟩) (by assumption) ?_
    rotate_left
    · intro w hSw
      (try dsimp only at hSw)
      go_simp
      (try with_reducible rfl)
    try simp only [Act.put, List.setIfInBounds_toArray, List.set_cons_zero, List.set_cons_succ]
    refine wpAnyH_take (i := 5) (oi := { dst := some 34, op := Go.Op.slice 24 (Go.Operand.tmp 32) none (some (Go.Operand.tmp 33)) none, type := 24, pos := "laws.go:289", after := #[{ on := 3, ground := Go.Ground.data }, { on := 4, ground := Go.Ground.data }], guard := none }) (v := ?_) rfl (by kernel_rfl) (by kernel_rfl) (by kernel_rfl) (fun _ _ _ h => h) (Or.inl ⟨by rfl, ?_⟩) (by assumption) ?_
    rotate_left
    · intro w hSw
      (try dsimp only at hSw)
      go_simp
      (try with_reducible rfl)
    try simp only [Act.put, List.setIfInBounds_toArray, List.set_cons_zero, List.set_cons_succ]
    refine wpAnyH_take (i := 6) (oi := { dst := some 35, op := Go.Op.move (Go.Operand.tmp 4), type := 25, pos := "laws.go:289", after := #[], guard := none }) (v := ?_) rfl (by kernel_rfl) (by kernel_rfl) (by kernel_rfl) (fun _ _ _ h => h) (Or.inl ⟨by rfl, ?_⟩) (by assumption) ?_
    rotate_left
    · intro w hSw
      (try dsimp only at hSw)
      go_simp
      (try with_reducible rfl)
    try simp only [Act.put, List.setIfInBounds_toArray, List.set_cons_zero, List.set_cons_succ]
    refine wpAnyH_take (i := 9) (oi := { dst := some 38, op := Go.Op.move (Go.Operand.tmp 5), type := 25, pos := "laws.go:289", after := #[], guard := none }) (v := ?_) rfl (by kernel_rfl) (by kernel_rfl) (by kernel_rfl) (fun _ _ _ h => h) (Or.inl ⟨by rfl, ?_⟩) (by assumption) ?_
    rotate_left
    · intro w hSw
      (try dsimp only at hSw)
      go_simp
      (try with_reducible rfl)
    try simp only [Act.put, List.setIfInBounds_toArray, List.set_cons_zero, List.set_cons_succ]
    clear hhd htl
    refine ckAnyH_oneK (i := 7) (o := { dst := some 36, op := Go.Op.call { callee := Go.Callee.value (Go.Operand.func 18), args := #[Go.Operand.tmp 34, Go.Operand.tmp 35], argTypes := #[24, 25] }, type := 25, pos := "laws.go:289", after := #[{ on := 5, ground := Go.Ground.data }, { on := 6, ground := Go.Ground.data }], guard := none }) rfl rfl (by kernel_rfl) (fun K9 hK9 => ?_)
    refine wp_call_of (f := 18) (args := #[.slice (some ⟨lg, 0, none⟩) r lcap, .slice (some ⟨vg, 0, none⟩) vl vcap]) (by go_simp) (impl_movesEach _ (l.take r) _ vals _ (moves_head HOLD.out (by have := HLL.out; omega)) HOVD.out.at (by have := HVL.out; omega)) ?_
    rw [HP1.out]
    rintro e w7 ⟨pv, rfl, op, b7⟩
    have OP : Hid (OwnInts w7 wD.heap.size pv P1) := op
    have HOL7 : Hid (OwnMoves w7 w1.heap.size (.slice (some ⟨lg, 0, none⟩) ll lcap) l) := HOLD.out.keep b7
    have OA7 : Hid (OwnInts w7 w2.heap.size (.slice aa vl acap) A) := OAD.out.keep b7
    have B7 : Hid (Below w1.heap.size w1 w7) := Bel.after BDD.out b7
    clear op b7
    refine ⟨_, rfl, hK9 _ _ ⟨trivial, ?_⟩⟩
    try simp only [Act.put, List.setIfInBounds_toArray, List.set_cons_zero, List.set_cons_succ]
    clear hK9
    refine ckAnyH_oneK (i := 8) (o := { dst := some 37, op := Go.Op.call { callee := Go.Callee.value (Go.Operand.func 18), args := #[Go.Operand.tmp 31, Go.Operand.tmp 36], argTypes := #[24, 25] }, type := 25, pos := "laws.go:289", after := #[{ on := 2, ground := Go.Ground.data }, { on := 7, ground := Go.Ground.data }, { on := 7, ground := Go.Ground.chain }], guard := none }) rfl rfl (by kernel_rfl) (fun K9 hK9 => ?_)
    refine wp_call_of (f := 18) (args := #[.slice TA tl tc, pv]) (by go_simp) (impl_movesEach _ (l.drop r) _ P1 _ (by have h9 := moves_tail HOL7.out HLL.out hrm; rw [HTA.out, HTL.out, HTC.out] at h9; exact h9) OP.out.at (by have := HPL.out; omega)) ?_
    rw [HP2.out]
    rintro e w8 ⟨qv, rfl, oq, b8⟩
    have OQ : Hid (OwnInts w8 w7.heap.size qv A) := oq
    have OA8 : Hid (OwnInts w8 w2.heap.size (.slice aa vl acap) A) := OA7.out.keep b8
    have B8 : Hid (Below w1.heap.size w1 w8) := Bel.after B7.out b8
    clear oq b8
    refine ⟨_, rfl, hK9 _ _ ⟨trivial, ?_⟩⟩
    try simp only [Act.put, List.setIfInBounds_toArray, List.set_cons_zero, List.set_cons_succ]
    clear hK9
    refine ckAnyH_oneK (i := 10) (o := { dst := some 39, op := Go.Op.call { callee := Go.Callee.value (Go.Operand.func 15), args := #[Go.Operand.tmp 37, Go.Operand.tmp 38], argTypes := #[25, 25] }, type := 4, pos := "laws.go:289", after := #[{ on := 8, ground := Go.Ground.data }, { on := 9, ground := Go.Ground.data }, { on := 8, ground := Go.Ground.chain }], guard := none }) rfl rfl (by kernel_rfl) (fun K9 hK9 => ?_)
    refine wp_call_of (f := 15) (args := #[qv, .slice aa vl acap]) (by go_simp) (sameInts_any qv (.slice aa vl acap) A A _ OQ.out.at OA8.out.at) ?_
    rintro e w9 ⟨rfl, b9⟩
    have B9 : Hid (Below w1.heap.size w1 w9) := Bel.after B8.out b9
    clear b9
    rw [show decide (A = A) = true by simp]
    refine ⟨_, rfl, hK9 _ _ ⟨trivial, ?_⟩⟩
    try simp only [Act.put, List.setIfInBounds_toArray, List.set_cons_zero, List.set_cons_succ]
    clear hK9
    have hvv : ((vl : Int) == (vl : Int)) = true := by simp
    have hav : aa = none → vl = 0 ∧ acap = 0 := fun h => by
      rcases OA8.out.2 with ⟨h0, h1⟩ | ⟨g, cap, cur, h0, _⟩
      · simp at h0; omega
      · simp at h0; rw [h] at h0; cases h0.1
    refine wpAnyH_take (i := 11) (oi := { dst := some 40, op := Go.Op.move (Go.Operand.tmp 39), type := 4, pos := "laws.go:289", after := #[{ on := 10, ground := Go.Ground.data }, { on := 10, ground := Go.Ground.chain }], guard := none }) (v := ?_) rfl (by kernel_rfl) (by kernel_rfl) (by kernel_rfl) (fun _ _ _ h => h) (Or.inl ⟨by rfl, ?_⟩) (by assumption) ?_
    rotate_left
    · intro w hSw
      (try dsimp only at hSw)
      go_simp
      (try with_reducible rfl)
    try simp only [Act.put, List.setIfInBounds_toArray, List.set_cons_zero, List.set_cons_succ]
    refine wpAnyH_take (i := 12) (oi := { dst := some 41, op := Go.Op.move (Go.Operand.tmp 5), type := 25, pos := "laws.go:289", after := #[{ on := 11, ground := Go.Ground.guard }], guard := some (11, true) }) (v := ?_) rfl (by kernel_rfl) (by kernel_rfl) (by kernel_rfl) (fun _ _ _ h => h) (Or.inl ⟨by rfl, ?_⟩) (by assumption) ?_
    rotate_left
    · intro w hSw
      (try dsimp only at hSw)
      go_simp
      (try with_reducible rfl)
    try simp only [Act.put, List.setIfInBounds_toArray, List.set_cons_zero, List.set_cons_succ]
    refine wpAnyH_take (i := 13) (oi := { dst := some 42, op := Go.Op.call { callee := Go.Callee.builtin Go.Builtin.len, args := #[Go.Operand.tmp 41], argTypes := #[25] }, type := 3, pos := "laws.go:289", after := #[{ on := 12, ground := Go.Ground.data }, { on := 11, ground := Go.Ground.guard }], guard := some (11, true) }) (v := ?_) rfl (by kernel_rfl) (by kernel_rfl) (by kernel_rfl) (fun _ _ _ h => h) (Or.inl ⟨by rfl, ?_⟩) (by assumption) ?_
    rotate_left
    · intro w hSw
      (try dsimp only at hSw)
      go_simp
      (try with_reducible rfl)
    try simp only [Act.put, List.setIfInBounds_toArray, List.set_cons_zero, List.set_cons_succ]
    refine wpAnyH_take (i := 14) (oi := { dst := some 43, op := Go.Op.move (Go.Operand.tmp 4), type := 25, pos := "laws.go:289", after := #[{ on := 11, ground := Go.Ground.guard }], guard := some (11, true) }) (v := ?_) rfl (by kernel_rfl) (by kernel_rfl) (by kernel_rfl) (fun _ _ _ h => h) (Or.inl ⟨by rfl, ?_⟩) (by assumption) ?_
    rotate_left
    · intro w hSw
      (try dsimp only at hSw)
      go_simp
      (try with_reducible rfl)
    try simp only [Act.put, List.setIfInBounds_toArray, List.set_cons_zero, List.set_cons_succ]
    refine wpAnyH_take (i := 15) (oi := { dst := some 44, op := Go.Op.call { callee := Go.Callee.builtin Go.Builtin.len, args := #[Go.Operand.tmp 43], argTypes := #[25] }, type := 3, pos := "laws.go:289", after := #[{ on := 14, ground := Go.Ground.data }, { on := 11, ground := Go.Ground.guard }], guard := some (11, true) }) (v := ?_) rfl (by kernel_rfl) (by kernel_rfl) (by kernel_rfl) (fun _ _ _ h => h) (Or.inl ⟨by rfl, ?_⟩) (by assumption) ?_
    rotate_left
    · intro w hSw
      (try dsimp only at hSw)
      go_simp
      (try with_reducible rfl)
    try simp only [Act.put, List.setIfInBounds_toArray, List.set_cons_zero, List.set_cons_succ]
    refine wpAnyH_take (i := 16) (oi := { dst := some 45, op := Go.Op.binOp Go.BinOp.eql 3 (Go.Operand.tmp 42) (Go.Operand.tmp 44) 3, type := 4, pos := "laws.go:289", after := #[{ on := 13, ground := Go.Ground.data }, { on := 15, ground := Go.Ground.data }, { on := 11, ground := Go.Ground.guard }], guard := some (11, true) }) (v := ?_) rfl (by kernel_rfl) (by kernel_rfl) (by kernel_rfl) (fun _ _ _ h => h) (Or.inl ⟨by rfl, ?_⟩) (by assumption) ?_
    rotate_left
    · intro w hSw
      (try dsimp only at hSw)
      go_simp
      (try with_reducible rfl)
    try simp only [Act.put, List.setIfInBounds_toArray, List.set_cons_zero, List.set_cons_succ]
    refine wpAnyH_take (i := 17) (oi := { dst := some 46, op := Go.Op.pick (Go.Operand.tmp 40) (Go.Operand.tmp 45) (Go.Operand.const (Go.Value.bool false)), type := 4, pos := "laws.go:289", after := #[{ on := 11, ground := Go.Ground.data }, { on := 16, ground := Go.Ground.data }], guard := none }) (v := ?_) rfl (by kernel_rfl) (by kernel_rfl) (by kernel_rfl) (fun _ _ _ h => h) (Or.inl ⟨by rfl, ?_⟩) (by assumption) ?_
    rotate_left
    · intro w hSw
      (try dsimp only at hSw)
      go_simp
      (try with_reducible rfl)
    try simp only [Act.put, List.setIfInBounds_toArray, List.set_cons_zero, List.set_cons_succ]
    refine wpAnyH_take (i := 18) (oi := { dst := some 2, op := Go.Op.assign (Go.Operand.tmp 46), type := 4, pos := "laws.go:289", after := #[{ on := 17, ground := Go.Ground.data }, { on := 11, ground := Go.Ground.chain }, { on := 0, ground := Go.Ground.phase }, { on := 1, ground := Go.Ground.phase }, { on := 2, ground := Go.Ground.phase }, { on := 3, ground := Go.Ground.phase }, { on := 4, ground := Go.Ground.phase }, { on := 5, ground := Go.Ground.phase }, { on := 6, ground := Go.Ground.phase }, { on := 7, ground := Go.Ground.phase }, { on := 8, ground := Go.Ground.phase }, { on := 9, ground := Go.Ground.phase }, { on := 10, ground := Go.Ground.phase }, { on := 11, ground := Go.Ground.phase }, { on := 12, ground := Go.Ground.phase }, { on := 13, ground := Go.Ground.phase }, { on := 14, ground := Go.Ground.phase }, { on := 15, ground := Go.Ground.phase }, { on := 16, ground := Go.Ground.phase }, { on := 17, ground := Go.Ground.phase }], guard := none }) (v := ?_) rfl (by kernel_rfl) (by kernel_rfl) (by kernel_rfl) (fun _ _ _ h => h) (Or.inl ⟨by rfl, ?_⟩) (by assumption) ?_
    rotate_left
    · intro w hSw
      (try dsimp only at hSw)
      go_simp
      (try with_reducible rfl)
    try simp only [Act.put, List.setIfInBounds_toArray, List.set_cons_zero, List.set_cons_succ]
    refine wpAnyH_done (by kernel_rfl) ?_ _
    simp only [noThrow, Exit.then]
    go_at_K
    go_wp2
    go_ret
    exact ⟨rfl, B9.out⟩

set_option maxRecDepth 100000 in
theorem lifted (os : Os) (started : os.Started) (H : Type) (enc : TypeId × Value → H) :
    ReturnsInHanded {} Try.checked os 4 .any (Rows.fnEachSpec.pre6 enc Try.prog Try.f4 Rows.fnEachRow.domain false) (Rows.fnEachSpec.post enc Try.prog Try.f4 false true false false) := by
  refine returnsInHanded_of_change (C := Try.checked) own started (by kernel_rfl) Try.func4
    (ChangeSpec.witness6 (enc := enc) (C := Try.checked) false ⟨#[], #[.slice none 0 0], []⟩ 8 (by kernel_rfl) (by kernel_rfl) (by kernel_rfl) (by kernel_rfl)) ?_
  intro W base args ds gs before hval0 hW hcnd _
  have hval : ∀ (j : Nat) t v, Try.f4.params[j]? = some t → args[j]? = some v → Value.okWide Try.prog W .any base t v := hval0
  have hW' := hW
  obtain ⟨p, q, hA0, hV, rfl, hfz, hnd⟩ := hW
  have hA : DataW.TrodAll enc Try.prog W 0 (fun _ => true) true Try.f4.params.toList args.toList ds p := hA0
  rw [Try.params4] at hA hval
  obtain ⟨v0, vs0, d0, ds0, p0, q0, hargs, rfl, rfl, h0, r0x⟩ := trodAll_cons hA
  obtain ⟨rfl, rfl, rfl⟩ := trodAll_nil r0x
  obtain rfl : args = #[v0] := by cases args; simp_all
  obtain ⟨rfl, rfl⟩ := trodVars_none hV
  have k0 := h0
  have lt0 : ∀ x ∈ p0, x.block < W.heap.size := by obtain ⟨m, hm⟩ := k0; exact DataW.trod_lt m _ _ _ hm
  obtain ⟨a0, len0, cap0, rfl⟩ := okWide_slice Try.underlying22 (hval 0 22 v0 rfl rfl)
  obtain ⟨z0, r0⟩ : ∃ zs, IsRow .u8 W a0 len0 cap0 zs := by
    obtain ⟨fuel, hf⟩ := h0
    rcases open_ints Try.underlying22 Try.underlying5 (by kernel_rfl) hf with ⟨hcs, _⟩ | ⟨x, l, c, zs, hcs, _, hl, hm, hz, _, hcell, hwz⟩
    · simp [Value.cells] at hcs
      obtain ⟨rfl, rfl, rfl⟩ := hcs
      exact ⟨[], .inl ⟨rfl, rfl, rfl, rfl⟩⟩
    · simp [Value.cells] at hcs
      obtain ⟨rfl, rfl, rfl⟩ := hcs
      exact ⟨zs, .inr ⟨_, rfl, hl, hm, by simpa using hz, hcell, hwz⟩⟩
  clear hA0 hval0
  refine (walk W a0 len0 cap0 z0 r0).mono fun e W' ⟨he, bel⟩ => ?_
  subst he
  exact ⟨_, rfl, _, _, _, [], _, [], hW', trodAll_mk1 (shut_bool Try.underlying4 _), (trodAll_cons_mk (Below.trod laidOut (by kernel_rfl) (of_decide_eq_true (by kernel_rfl)) k0 bel lt0) trodAll_mk0), rfl, bel.frame _, fun h => by cases h⟩

theorem over : Rows.fnEachRow.holds Try.pinned (OpenSpec.ofChange Rows.fnEachSpec) :=
  OpenClaim.holds_of_wide 4 Try.f4 rfl rfl rfl rfl rfl rfl rfl ⟨rfl, rfl, rfl, rfl, rfl⟩ rfl rfl rfl rfl rfl (by kernel_rfl) Try.func4 (by kernel_rfl)
    (of_decide_eq_true (by kernel_rfl)) (by unfold Func.isWrapper; first | (rw [if_pos (by decide +kernel)]; kernel_rfl) | (rw [if_neg (by decide +kernel)]; exact ⟨rfl, rfl⟩))
    (fun os started H enc _ => lifted os started H enc)

/-- The statement. -/
theorem proved : Rows.FnEachSaid := over
#print axioms proved
end Go.Proofs.Ytijihgkhdknkeaa.fnEach
