/- Proved: for all bytes the law FnTakes returns true (of a drawn place and a drawn end what is made and taken is as the model says, and is D, A, B of the place and A of the end) and its argument reads afterwards as before. No condition. -/
import Derived.Test.YthkcflicgkppkaaRows
import Derived.Test.YthkcflicgkppkaaIns
import Derived.Test.YthkcflicgkppkaaOpen
import Derived.Test.YthkcflicgkppkaaInts
import Derived.Test.YthkcflicgkppkaaUses
import Derived.Test.YthkcflicgkppkaaDraw
import Derived.Test.YthkcflicgkppkaaDrawIns
import Derived.WalkKit
import Derived.ProofKit
import Derived.OpenShut
import Derived.ShutString
import Derived.ChangeOld
import Derived.Below
namespace Go.Proofs.Ythkcflicgkppkaa.fnTakes
open Go.ChangeShapes Go.WideShapes Go.ChangeAt Go.RowKit
open Go.ChangeMaps (open_string shut_string)
set_option linter.unusedVariables false

theorem own : ownKnob Try.prog.godebug = none := by kernel_rfl
theorem laidOut : laidOutB Try.prog = true := by kernel_rfl

set_option maxHeartbeats 4000000 in
theorem walk (w : World) (a0 : Option Addr) (len0 cap0 : Nat) (z0 : List Int) (r0 : IsRow .u8 w a0 len0 cap0 z0) :
    Calls Try.prog 3 #[.slice a0 len0 cap0] w fun e w' => e = .returned (.bool true) ∧ Below w.heap.size w w' := by
  have hlen0 : len0 ≤ 9223372036854775807 := by
    rcases r0 with ⟨_, rfl, _, _⟩ | ⟨x, _, hl, hm, _, _, _⟩
    · omega
    · unfold maxLen at hm; omega
  have HR : Hid (IsRow .u8 w a0 len0 cap0 z0) := r0
  clear r0
  by_cases hbig : (1048576 : Int) < (len0 : Int)
  · go_enter Try.func3, Try.ntmps3
    go_wp2
    go_ret
    exact ⟨rfl, Below.refl _ _⟩
  · go_enter Try.func3, Try.ntmps3
    go_wp2_with (go_at_call 8; go_in)
    refine (drawInsUses_any a0 len0 cap0 z0 _ HR.out).mono ?_
    rintro e w1 ⟨op, d, a, b, n, rfl, b1⟩
    have B1 : Hid (Below w.heap.size w w1) := b1
    clear b1
    go_wp2_with fail
    refine (impl_insUses op d a b n _).mono ?_
    rintro e w2 ⟨v0, k0, rfl, hk0, hr0, b2⟩
    have X2 : Hid (InsBox w2 w1.heap.size op d a b n) := (insBox_new w1 _ op d a b n).keep b2
    have B2 : Hid (Below w.heap.size w w2) := Bel.after (Bel.after B1.out (Bel.alloc w1 _)) b2
    have R2 : Hid (RowNew w2 k0 v0 (usesV op a b)) := hr0
    clear hr0 b2 hk0
    obtain ⟨c0, c1, c2, c3, c4⟩ := X2.out
    go_wp2_with fail
    refine (impl_insDef op d a b n _).mono ?_
    rintro e w3 ⟨rfl, b3⟩
    clear c0 c1 c2 c3 c4
    have X3 : Hid (InsBox w3 w1.heap.size op d a b n) := X2.out.keep b3
    have B3 : Hid (Below w.heap.size w w3) := Bel.after B2.out b3
    have R3 : Hid (RowNew w3 k0 v0 (usesV op a b)) := R2.out.keep b3
    clear b3
    go_wp2_with fail
    refine (drawTermUses_any a0 len0 cap0 z0 _ (HR.out.keep (p := w.heap.size) (fun x e c => Nat.ne_of_lt (HR.out.lt x e c)) (Fr.ofBelow B3.out))).mono ?_
    rintro e w4 ⟨kk, ka, kt, ko, rfl, b4⟩
    have X4 : Hid (InsBox w4 w1.heap.size op d a b n) := X3.out.keep b4
    have B4 : Hid (Below w.heap.size w w4) := Bel.after B3.out b4
    have R4 : Hid (RowNew w4 k0 v0 (usesV op a b)) := R3.out.keep b4
    clear b4
    go_wp2_with fail
    refine (impl_termUses kk ka kt ko _).mono ?_
    rintro e w5 ⟨v1, k1, rfl, hk1, hr1, b5⟩
    have b5' := Bel.after (Bel.alloc w4 _) b5
    have X5 : Hid (InsBox w5 w1.heap.size op d a b n) := X4.out.keep b5'
    have Y5 : Hid (TermBox w5 w4.heap.size kk ka kt ko) := (termBox_new w4 _ kk ka kt ko).keep b5
    have B5 : Hid (Below w.heap.size w w5) := Bel.after B4.out b5'
    have R5 : Hid (RowNew w5 k0 v0 (usesV op a b)) := R4.out.keep b5'
    have S5 : Hid (RowNew w5 k1 v1 (endsV kk ka)) := hr1
    clear hr1 b5 b5' hk1
    obtain ⟨c0, c1, c2, c3, c4⟩ := X5.out
    go_wp2_with fail
    refine (spec_insUses op d a b n _).mono ?_
    rintro e w6 ⟨v2, k2, rfl, _, hr2, b6⟩
    clear c0 c1 c2 c3 c4
    have R6' : Hid (RowNew w6 k2 v2 (usesV op a b)) := hr2
    have X6 : Hid (InsBox w6 w1.heap.size op d a b n) := X5.out.keep b6
    have Y6 : Hid (TermBox w6 w4.heap.size kk ka kt ko) := Y5.out.keep b6
    have B6 : Hid (Below w.heap.size w w6) := Bel.after B5.out b6
    have R6 : Hid (RowNew w6 k0 v0 (usesV op a b)) := R5.out.keep b6
    have S6 : Hid (RowNew w6 k1 v1 (endsV kk ka)) := S5.out.keep b6
    clear hr2 b6
    go_wp2_with fail
    refine (sameInts_any v0 v2 _ _ _ R6.out.at R6'.out.at).mono ?_
    rintro e w7 ⟨rfl, b7⟩
    have X7 : Hid (InsBox w7 w1.heap.size op d a b n) := X6.out.keep b7
    have Y7 : Hid (TermBox w7 w4.heap.size kk ka kt ko) := Y6.out.keep b7
    have B7 : Hid (Below w.heap.size w w7) := Bel.after B6.out b7
    have R7 : Hid (RowNew w7 k0 v0 (usesV op a b)) := R6.out.keep b7
    have S7 : Hid (RowNew w7 k1 v1 (endsV kk ka)) := S6.out.keep b7
    clear b7
    have hd1 : decide (usesV op a b = usesV op a b) = true := by simp
    obtain ⟨c0, c1, c2, c3, c4⟩ := X7.out
    go_wp2_with fail
    refine (spec_insDef op d a b n _).mono ?_
    rintro e w8 ⟨rfl, b8⟩
    clear c0 c1 c2 c3 c4
    have X8 : Hid (InsBox w8 w1.heap.size op d a b n) := X7.out.keep b8
    have Y8 : Hid (TermBox w8 w4.heap.size kk ka kt ko) := Y7.out.keep b8
    have B8 : Hid (Below w.heap.size w w8) := Bel.after B7.out b8
    have R8 : Hid (RowNew w8 k0 v0 (usesV op a b)) := R7.out.keep b8
    have S8 : Hid (RowNew w8 k1 v1 (endsV kk ka)) := S7.out.keep b8
    clear b8
    have hd2 : (insDefV op d != insDefV op d) = false := by simp
    obtain ⟨c0, c1, c2, c3⟩ := Y8.out
    go_wp2_with fail
    refine (spec_termUses kk ka kt ko _).mono ?_
    rintro e w9 ⟨v3, k3, rfl, _, hr3, b9⟩
    clear c0 c1 c2 c3
    have S9' : Hid (RowNew w9 k3 v3 (endsV kk ka)) := hr3
    have X9 : Hid (InsBox w9 w1.heap.size op d a b n) := X8.out.keep b9
    have Y9 : Hid (TermBox w9 w4.heap.size kk ka kt ko) := Y8.out.keep b9
    have B9 : Hid (Below w.heap.size w w9) := Bel.after B8.out b9
    have R9 : Hid (RowNew w9 k0 v0 (usesV op a b)) := R8.out.keep b9
    have S9 : Hid (RowNew w9 k1 v1 (endsV kk ka)) := S8.out.keep b9
    clear hr3 b9
    go_wp2_with fail
    refine (sameInts_any v1 v3 _ _ _ S9.out.at S9'.out.at).mono ?_
    rintro e w10 ⟨rfl, b10⟩
    have X10 : Hid (InsBox w10 w1.heap.size op d a b n) := X9.out.keep b10
    have Y10 : Hid (TermBox w10 w4.heap.size kk ka kt ko) := Y9.out.keep b10
    have B10 : Hid (Below w.heap.size w w10) := Bel.after B9.out b10
    have R10 : Hid (RowNew w10 k0 v0 (usesV op a b)) := R9.out.keep b10
    have S10 : Hid (RowNew w10 k1 v1 (endsV kk ka)) := S9.out.keep b10
    clear b10
    have hd3 : decide (endsV kk ka = endsV kk ka) = true := by simp
    have hg := insDefV_forms op d
    generalize insDefV op d = g at *
    obtain ⟨x0, x1, x2, x3, x4⟩ := X10.out
    obtain ⟨y0, y1, y2, y3⟩ := Y10.out
    have HB : Hid (Below w.heap.size w w10) := B10.out
    clear X2 X3 X4 X5 X6 X7 X8 X9 Y5 Y6 Y7 Y8 Y9 B1 B2 B3 B4 B5 B6 B7 B8 B9 R2 R3 R4 R5 R6 R7 R8 R9 R6' S5 S6 S7 S8 S9 S9' HR X10 Y10 B10
    have hends : ∃ ends : List Int, (ends = [ka] ∨ ends = []) ∧ RowNew w10 k1 v1 ends := ⟨_, endsV_forms kk ka, S10.out⟩
    have huses : ∃ us : List Int, (us = [a, b] ∨ us = [a] ∨ us = []) ∧ RowNew w10 k0 v0 us := ⟨_, usesV_forms op a b, R10.out⟩
    clear S10 R10
    obtain ⟨ends, he, hrE⟩ := hends
    obtain ⟨us, hu, hrU⟩ := huses
    have hG : ((g != -1) = false) ∨ ((g != -1) = true ∧ (g != d) = false) := by
      by_cases h1 : g = -1
      · exact .inl (by simp [h1])
      · rcases hg with h | h
        · exact .inr ⟨by simpa using h1, by simp [h]⟩
        · exact absurd h h1
    clear hg
    rcases hu with rfl | rfl | rfl
    · rcases he with rfl | rfl
      · obtain ⟨rfl, _, _, hcU, _⟩ := hrU
        obtain ⟨rfl, _, _, hcE, _⟩ := hrE
        have q0 := hcU 0 (by simp)
        simp at q0
        have q1 := hcU 1 (by simp)
        simp at q1
        have q2 := hcE 0 (by simp)
        simp at q2
        clear hcU hcE
        simp only [List.length_cons, List.length_nil, Nat.reduceAdd]
        rcases hG with g1 | ⟨g1, g2⟩
        all_goals
          go_wp2
          go_quiet (fail)
          go_wp2
          go_quiet (fail)
          go_wp2
          go_ret
          exact ⟨rfl, HB.out.trans ⟨rfl, rfl, rfl, Nat.le_refl _, fun _ _ => rfl⟩⟩
      · obtain ⟨rfl, _, _, hcU, _⟩ := hrU
        obtain ⟨rfl, _, _, hcE, _⟩ := hrE
        have q0 := hcU 0 (by simp)
        simp at q0
        have q1 := hcU 1 (by simp)
        simp at q1
        clear hcU hcE
        simp only [List.length_cons, List.length_nil, Nat.reduceAdd]
        rcases hG with g1 | ⟨g1, g2⟩
        all_goals
          go_wp2
          go_quiet (fail)
          go_wp2
          go_quiet (fail)
          go_wp2
          go_ret
          exact ⟨rfl, HB.out.trans ⟨rfl, rfl, rfl, Nat.le_refl _, fun _ _ => rfl⟩⟩
    · rcases he with rfl | rfl
      · obtain ⟨rfl, _, _, hcU, _⟩ := hrU
        obtain ⟨rfl, _, _, hcE, _⟩ := hrE
        have q0 := hcU 0 (by simp)
        simp at q0
        have q2 := hcE 0 (by simp)
        simp at q2
        clear hcU hcE
        simp only [List.length_cons, List.length_nil, Nat.reduceAdd]
        rcases hG with g1 | ⟨g1, g2⟩
        all_goals
          go_wp2
          go_quiet (fail)
          go_wp2
          go_quiet (fail)
          go_wp2
          go_ret
          exact ⟨rfl, HB.out.trans ⟨rfl, rfl, rfl, Nat.le_refl _, fun _ _ => rfl⟩⟩
      · obtain ⟨rfl, _, _, hcU, _⟩ := hrU
        obtain ⟨rfl, _, _, hcE, _⟩ := hrE
        have q0 := hcU 0 (by simp)
        simp at q0
        clear hcU hcE
        simp only [List.length_cons, List.length_nil, Nat.reduceAdd]
        rcases hG with g1 | ⟨g1, g2⟩
        all_goals
          go_wp2
          go_quiet (fail)
          go_wp2
          go_quiet (fail)
          go_wp2
          go_ret
          exact ⟨rfl, HB.out.trans ⟨rfl, rfl, rfl, Nat.le_refl _, fun _ _ => rfl⟩⟩
    · rcases he with rfl | rfl
      · obtain ⟨rfl, _, _, hcU, _⟩ := hrU
        obtain ⟨rfl, _, _, hcE, _⟩ := hrE
        have q2 := hcE 0 (by simp)
        simp at q2
        clear hcU hcE
        simp only [List.length_cons, List.length_nil, Nat.reduceAdd]
        rcases hG with g1 | ⟨g1, g2⟩
        all_goals
          go_wp2
          go_quiet (fail)
          go_wp2
          go_quiet (fail)
          go_wp2
          go_ret
          exact ⟨rfl, HB.out.trans ⟨rfl, rfl, rfl, Nat.le_refl _, fun _ _ => rfl⟩⟩
      · obtain ⟨rfl, _, _, hcU, _⟩ := hrU
        obtain ⟨rfl, _, _, hcE, _⟩ := hrE
        clear hcU hcE
        simp only [List.length_nil]
        rcases hG with g1 | ⟨g1, g2⟩
        all_goals
          go_wp2
          go_quiet (fail)
          go_wp2
          go_quiet (fail)
          go_wp2
          go_ret
          exact ⟨rfl, HB.out.trans ⟨rfl, rfl, rfl, Nat.le_refl _, fun _ _ => rfl⟩⟩

set_option maxRecDepth 100000 in
theorem lifted (os : Os) (started : os.Started) (H : Type) (enc : TypeId × Value → H) :
    ReturnsInHanded {} Try.checked os 3 .any (Rows.fnTakesSpec.pre6 enc Try.prog Try.f3 Rows.fnTakesRow.domain false) (Rows.fnTakesSpec.post enc Try.prog Try.f3 false true false false) := by
  refine returnsInHanded_of_change (C := Try.checked) own started (by kernel_rfl) Try.func3
    (ChangeSpec.witness6 (enc := enc) (C := Try.checked) false ⟨#[], #[.slice none 0 0], []⟩ 8 (by kernel_rfl) (by kernel_rfl) (by kernel_rfl) (by kernel_rfl)) ?_
  intro W base args ds gs before hval0 hW hcnd _
  have hval : ∀ (j : Nat) t v, Try.f3.params[j]? = some t → args[j]? = some v → Value.okWide Try.prog W .any base t v := hval0
  have hW' := hW
  obtain ⟨p, q, hA0, hV, rfl, hfz, hnd⟩ := hW
  have hA : DataW.TrodAll enc Try.prog W 0 (fun _ => true) true Try.f3.params.toList args.toList ds p := hA0
  rw [Try.params3] at hA hval
  obtain ⟨v0, vs0, d0, ds0, p0, q0, hargs, rfl, rfl, h0, r0x⟩ := trodAll_cons hA
  obtain ⟨rfl, rfl, rfl⟩ := trodAll_nil r0x
  obtain rfl : args = #[v0] := by cases args; simp_all
  obtain ⟨rfl, rfl⟩ := trodVars_none hV
  have k0 := h0
  have lt0 : ∀ x ∈ p0, x.block < W.heap.size := by obtain ⟨m, hm⟩ := k0; exact DataW.trod_lt m _ _ _ hm
  obtain ⟨a0, len0, cap0, rfl⟩ := okWide_slice Try.underlying22 (hval 0 22 v0 rfl rfl)
  obtain ⟨z0, r0⟩ : ∃ zs, IsRow .u8 W a0 len0 cap0 zs := by
    obtain ⟨fuel, hf⟩ := h0
    rcases open_ints Try.underlying22 Try.underlying5 (by kernel_rfl) hf with ⟨hcs, _⟩ | ⟨x, l, c, zs, hcs, _, hl, hm, hz, _, hcell, hwz⟩
    · simp [Value.cells] at hcs
      obtain ⟨rfl, rfl, rfl⟩ := hcs
      exact ⟨[], .inl ⟨rfl, rfl, rfl, rfl⟩⟩
    · simp [Value.cells] at hcs
      obtain ⟨rfl, rfl, rfl⟩ := hcs
      exact ⟨zs, .inr ⟨_, rfl, hl, hm, by simpa using hz, hcell, hwz⟩⟩
  clear hA0 hval0
  refine (walk W a0 len0 cap0 z0 r0).mono fun e W' ⟨he, bel⟩ => ?_
  subst he
  exact ⟨_, rfl, _, _, _, [], _, [], hW', trodAll_mk1 (shut_bool Try.underlying4 _), (trodAll_cons_mk (Below.trod laidOut (by kernel_rfl) (of_decide_eq_true (by kernel_rfl)) k0 bel lt0) trodAll_mk0), rfl, bel.frame _, fun h => by cases h⟩

theorem over : Rows.fnTakesRow.holds Try.pinned (OpenSpec.ofChange Rows.fnTakesSpec) :=
  OpenClaim.holds_of_wide 3 Try.f3 rfl rfl rfl rfl rfl rfl rfl ⟨rfl, rfl, rfl, rfl, rfl⟩ rfl rfl rfl rfl rfl (by kernel_rfl) Try.func3 (by kernel_rfl)
    (of_decide_eq_true (by kernel_rfl)) (by unfold Func.isWrapper; first | (rw [if_pos (by decide +kernel)]; kernel_rfl) | (rw [if_neg (by decide +kernel)]; exact ⟨rfl, rfl⟩))
    (fun os started H enc _ => lifted os started H enc)

/-- The statement. -/
theorem proved : Rows.FnTakesSaid := over
#print axioms proved
end Go.Proofs.Ythkcflicgkppkaa.fnTakes
