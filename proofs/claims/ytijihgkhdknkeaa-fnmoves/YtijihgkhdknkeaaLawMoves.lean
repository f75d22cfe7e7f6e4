/- Proved: drawn copies one behind the other, with one place more, do what they do at once. -/
import Derived.Test.YtijihgkhdknkeaaRows
import Derived.Test.YtijihgkhdknkeaaMvLaw
import Derived.WalkKit
import Derived.ProofKit
import Derived.OpenShut
import Derived.ShutString
import Derived.ChangeOld
import Derived.Below
namespace Go.Proofs.Ytijihgkhdknkeaa.fnMoves
open Go.ChangeShapes Go.WideShapes Go.ChangeAt Go.RowKit
open Go.ChangeMaps (open_string shut_string)
set_option linter.unusedVariables false

theorem own : ownKnob Try.prog.godebug = none := by kernel_rfl
theorem laidOut : laidOutB Try.prog = true := by kernel_rfl

set_option maxHeartbeats 4000000 in
theorem walk (w : World) (a0 : Option Addr) (len0 cap0 : Nat) (z0 : List Int) (r0 : IsRow .u8 w a0 len0 cap0 z0) :
    Calls Try.prog 3 #[.slice a0 len0 cap0] w fun e w' => e = .returned (.bool true) ∧ Below w.heap.size w w' := by
  have HR : Hid (IsRow .u8 w a0 len0 cap0 z0) := r0
  clear r0
  obtain ⟨i0, hi, hz0, hz1, hz2⟩ := info_parts info_int
  have hmx : 20000 ≤ maxLen := by decide
  go_enter Try.func3, Try.ntmps3
  go_wp2_with fail
  refine (big_any a0 len0 cap0 _).mono ?_
  rintro e w1 ⟨⟨b, rfl⟩, rfl⟩
  cases b with
  | true =>
    go_wp2_with fail
    go_ret
    exact ⟨rfl, Below.refl _ _⟩
  | false =>
    go_wp2_with fail
    refine (drawMovesDo_any a0 len0 cap0 z0 _ HR.out).mono ?_
    rintro e w2 ⟨lv, l, vv, vals, rfl, hol, hl26, hlnn, hov, hv26, hvnn, b2⟩
    obtain ⟨ll, HLL⟩ : ∃ q, Hid (l.length = q) := ⟨_, rfl⟩
    obtain ⟨vl, HVL⟩ : ∃ q, Hid (vals.length = q) := ⟨_, rfl⟩
    obtain ⟨lg, lcap, rfl, hlc, hlm, _, _⟩ := hol.open' hlnn HLL.out
    obtain ⟨vg, vcap, rfl, hvc, hvm, _, _⟩ := hov.open' hvnn HVL.out
    have Lw2 : Hid (OwnMoves w2 w1.heap.size (.slice (some ⟨lg, 0, none⟩) ll lcap) l) := hol
    have Vw2 : Hid (OwnInts w2 w1.heap.size (.slice (some ⟨vg, 0, none⟩) vl vcap) vals) := hov
    have Bw2 : Hid (Below w1.heap.size w1 w2) := b2
    have hll : ll ≤ 26 := by rw [← HLL.out]; exact hl26
    have hvl : vl ≤ 26 := by rw [← HVL.out]; exact hv26
    clear hol hov b2 hlnn hvnn hl26 hv26
    obtain ⟨R, HRR⟩ : ∃ R, Hid (movesOk l (vl : Int) = R) := ⟨_, rfl⟩
    obtain ⟨S, HSS⟩ : ∃ S, Hid (seqRow l (vl : Int) = S) := ⟨_, rfl⟩
    obtain ⟨D, HDD⟩ : ∃ D, Hid (movesDo l vals = D) := ⟨_, rfl⟩
    obtain ⟨sl, HSL⟩ : ∃ q, Hid (S.length = q) := ⟨_, rfl⟩
    have hsl48 : sl ≤ 48 := by rw [← HSL.out, ← HSS.out]; exact seqRow_len _ _
    have HDL : Hid (D.length = vl) := by show _ = _; rw [← HDD.out, movesDo_len, HVL.out]
    have hRR : (R != R) = false := by simp
    have hss : ((sl : Int) != (sl : Int)) = false := by simp
    go_wp2_with fail
    refine (impl_movesOk _ l (vl : Int) _ Lw2.out.at).mono ?_
    rw [HRR.out]
    rintro e w3 ⟨rfl, b9⟩
    have Lw3 : Hid (OwnMoves w3 w1.heap.size (.slice (some ⟨lg, 0, none⟩) ll lcap) l) := Lw2.out.keep b9
    have Vw3 : Hid (OwnInts w3 w1.heap.size (.slice (some ⟨vg, 0, none⟩) vl vcap) vals) := Vw2.out.keep b9
    have Bw3 : Hid (Below w1.heap.size w1 w3) := Bel.after Bw2.out b9
    clear b9
    go_wp2_with fail
    refine (impl_sequence _ l (vl : Int) _ Lw3.out.at).mono ?_
    rw [HRR.out, HSS.out]
    rintro e w4 ⟨qv, rfl, oq, b9⟩
    have Lw4 : Hid (OwnMoves w4 w1.heap.size (.slice (some ⟨lg, 0, none⟩) ll lcap) l) := Lw3.out.keep b9
    have Vw4 : Hid (OwnInts w4 w1.heap.size (.slice (some ⟨vg, 0, none⟩) vl vcap) vals) := Vw3.out.keep b9
    have Bw4 : Hid (Below w1.heap.size w1 w4) := Bel.after Bw3.out b9
    clear b9
    have Qw4 : Hid (OwnMoves w4 w3.heap.size qv S) := oq
    obtain ⟨qa, qcap, rfl⟩ := oq.form HSL.out
    clear oq
    go_wp2_with fail
    refine (spec_sequence _ l (vl : Int) _ Lw4.out.at).mono ?_
    rw [HRR.out, HSS.out]
    rintro e w5 ⟨pv, rfl, op, b9⟩
    have Qw5 : Hid (OwnMoves w5 w3.heap.size (.slice qa sl qcap) S) := Qw4.out.keep b9
    have Lw5 : Hid (OwnMoves w5 w1.heap.size (.slice (some ⟨lg, 0, none⟩) ll lcap) l) := Lw4.out.keep b9
    have Vw5 : Hid (OwnInts w5 w1.heap.size (.slice (some ⟨vg, 0, none⟩) vl vcap) vals) := Vw4.out.keep b9
    have Bw5 : Hid (Below w1.heap.size w1 w5) := Bel.after Bw4.out b9
    clear b9
    obtain ⟨pa, pcap, rfl⟩ := op.form HSL.out
    clear op
    go_wp2_with fail
    refine (spec_movesOk _ l (vl : Int) _ Lw5.out.at).mono ?_
    rw [HRR.out]
    rintro e w6 ⟨rfl, b9⟩
    have Qw6 : Hid (OwnMoves w6 w3.heap.size (.slice qa sl qcap) S) := Qw5.out.keep b9
    have Lw6 : Hid (OwnMoves w6 w1.heap.size (.slice (some ⟨lg, 0, none⟩) ll lcap) l) := Lw5.out.keep b9
    have Vw6 : Hid (OwnInts w6 w1.heap.size (.slice (some ⟨vg, 0, none⟩) vl vcap) vals) := Vw5.out.keep b9
    have Bw6 : Hid (Below w1.heap.size w1 w6) := Bel.after Bw5.out b9
    clear b9
    go_wp2_with fail
    refine (impl_movesDo _ l _ vals _ Lw6.out.at Vw6.out.at (by have := HVL.out; omega)).mono ?_
    rw [HDD.out]
    rintro e w7 ⟨dv, rfl, od, b9⟩
    have Qw7 : Hid (OwnMoves w7 w3.heap.size (.slice qa sl qcap) S) := Qw6.out.keep b9
    have Lw7 : Hid (OwnMoves w7 w1.heap.size (.slice (some ⟨lg, 0, none⟩) ll lcap) l) := Lw6.out.keep b9
    have Vw7 : Hid (OwnInts w7 w1.heap.size (.slice (some ⟨vg, 0, none⟩) vl vcap) vals) := Vw6.out.keep b9
    have Bw7 : Hid (Below w1.heap.size w1 w7) := Bel.after Bw6.out b9
    clear b9
    have Dw7 : Hid (OwnInts w7 w6.heap.size dv D) := od
    clear od
    go_wp2_with fail
    refine (spec_movesDo _ l _ vals _ Lw7.out.at Vw7.out.at (by have := HVL.out; omega)).mono ?_
    rw [HDD.out]
    rintro e w8 ⟨ev, rfl, oe, b9⟩
    have Qw8 : Hid (OwnMoves w8 w3.heap.size (.slice qa sl qcap) S) := Qw7.out.keep b9
    have Dw8 : Hid (OwnInts w8 w6.heap.size dv D) := Dw7.out.keep b9
    have Lw8 : Hid (OwnMoves w8 w1.heap.size (.slice (some ⟨lg, 0, none⟩) ll lcap) l) := Lw7.out.keep b9
    have Vw8 : Hid (OwnInts w8 w1.heap.size (.slice (some ⟨vg, 0, none⟩) vl vcap) vals) := Vw7.out.keep b9
    have Bw8 : Hid (Below w1.heap.size w1 w8) := Bel.after Bw7.out b9
    clear b9
    have Ew8 : Hid (OwnInts w8 w7.heap.size ev D) := oe
    clear oe
    go_wp2_with fail
    refine (sameInts_any dv ev D D _ Dw8.out.at Ew8.out.at).mono ?_
    rw [show decide (D = D) = true by simp]
    rintro e w9 ⟨rfl, b9⟩
    have Qw9 : Hid (OwnMoves w9 w3.heap.size (.slice qa sl qcap) S) := Qw8.out.keep b9
    have Lw9 : Hid (OwnMoves w9 w1.heap.size (.slice (some ⟨lg, 0, none⟩) ll lcap) l) := Lw8.out.keep b9
    have Vw9 : Hid (OwnInts w9 w1.heap.size (.slice (some ⟨vg, 0, none⟩) vl vcap) vals) := Vw8.out.keep b9
    have Bw9 : Hid (Below w1.heap.size w1 w9) := Bel.after Bw8.out b9
    clear b9
    clear Dw8 Ew8
    cases R with
    | false =>
      obtain rfl : 0 = sl := by rw [← HSL.out, ← HSS.out]; unfold seqRow; rw [HRR.out]; rfl
      obtain rfl : vals = D := by rw [← HDD.out]; unfold movesDo; rw [HVL.out, HRR.out]; rfl
      go_wp2_with fail
      refine (impl_movesDo _ l _ vals _ Lw9.out.at Vw9.out.at (by have := HVL.out; omega)).mono ?_
      rw [HDD.out]
      rintro e w10 ⟨fv, rfl, of, b9⟩
      have Lw10 : Hid (OwnMoves w10 w1.heap.size (.slice (some ⟨lg, 0, none⟩) ll lcap) l) := Lw9.out.keep b9
      have Vw10 : Hid (OwnInts w10 w1.heap.size (.slice (some ⟨vg, 0, none⟩) vl vcap) vals) := Vw9.out.keep b9
      have Bw10 : Hid (Below w1.heap.size w1 w10) := Bel.after Bw9.out b9
      clear b9
      have Fw10 : Hid (OwnInts w10 w9.heap.size fv vals) := of
      clear of
      go_wp2_with fail
      refine (sameInts_any fv _ vals vals _ Fw10.out.at Vw10.out.at).mono ?_
      rw [show decide (vals = vals) = true by simp]
      rintro e w11 ⟨rfl, b9⟩
      have Lw11 : Hid (OwnMoves w11 w1.heap.size (.slice (some ⟨lg, 0, none⟩) ll lcap) l) := Lw10.out.keep b9
      have Vw11 : Hid (OwnInts w11 w1.heap.size (.slice (some ⟨vg, 0, none⟩) vl vcap) vals) := Vw10.out.keep b9
      have Bw11 : Hid (Below w1.heap.size w1 w11) := Bel.after Bw10.out b9
      clear b9
      go_wp2_with fail
      go_ret
      exact ⟨rfl, Bw11.out⟩
    | true =>
      have HOK : Hid (movesOk l (vals.length : Int) = true) := by show _ = _; rw [HVL.out]; exact HRR.out
      have HSQ : Hid (seqOf (vals.length : Int) l = S) := by show _ = _; rw [← HSS.out, HVL.out]; unfold seqRow; rw [HRR.out]; rfl
      have HMD : Hid (mvDo l vals = D) := by show _ = _; rw [← HDD.out]; unfold movesDo; rw [HVL.out, HRR.out]; rfl
      have HFI : Hid ((mvEach S (vals ++ [77])).take vl = D) := by
        have h9 := seq_right 77 HOK.out
        rw [HSQ.out, HMD.out, HVL.out] at h9
        exact h9
      have hs2 : sl ≤ 2 * ll := by rw [← HSL.out, ← HSQ.out, ← HLL.out]; exact seqOf_len _ _
      have hap : ∃ v1 w10, (∀ ty, (Builtin.append_ #[25, 25] ty #[.slice (some ⟨w9.heap.size, 0, none⟩) 0 0, .slice (some ⟨vg, 0, none⟩) vl vcap]).run Try.prog (w9.alloc (.cells #[] 3)) = .ok v1 w10) ∧ OwnInts w10 w9.heap.size v1 vals ∧ Below w9.heap.size w9 w10 ∧ ∃ g gcap, v1 = .slice (some ⟨g, 0, none⟩) vl gcap := copied Vw9.out.at HVL.out (by omega)
      obtain ⟨v1, w10, hrun, o10, b9, g, gcap, rfl⟩ := hap
      have HRUN : Hid (∀ ty, (Builtin.append_ #[25, 25] ty #[.slice (some ⟨w9.heap.size, 0, none⟩) 0 0, .slice (some ⟨vg, 0, none⟩) vl vcap]).run Try.prog (w9.alloc (.cells #[] 3)) = .ok (.slice (some ⟨g, 0, none⟩) vl gcap) w10) := hrun
      have Qw10 : Hid (OwnMoves w10 w3.heap.size (.slice qa sl qcap) S) := Qw9.out.keep b9
      have HO10 : Hid (OwnInts w10 w9.heap.size (.slice (some ⟨g, 0, none⟩) vl gcap) vals) := o10
      have hs910 : w9.heap.size ≤ w10.heap.size := b9.size
      have Lw10 : Hid (OwnMoves w10 w1.heap.size (.slice (some ⟨lg, 0, none⟩) ll lcap) l) := Lw9.out.keep b9
      have Vw10 : Hid (OwnInts w10 w1.heap.size (.slice (some ⟨vg, 0, none⟩) vl vcap) vals) := Vw9.out.keep b9
      have Bw10 : Hid (Below w1.heap.size w1 w10) := Bel.after Bw9.out b9
      clear b9
      clear o10 hrun
      go_wp2_with (first
        | (at_builtin; refine wpList_append_eq _ rfl _ _ 25 25 rfl _ _ _ _ rfl rfl (HRUN.out _) ?_; clear HRUN)
        | (at_builtin; refine wpList_append_own _ rfl _ _ 25 rfl w9.heap.size 3 i0 (.int .i64 0) 1 8 Try.underlying25 hi hz0 hz1 hz2 rfl (by decide) _ vals.length _ rfl (World.ownsRow.alloc HO10.out _) ⟨w10.heap.size, 0, none⟩ 1 1 [.int .i64 77] rfl rfl (by have h := cell_one_new w10 (.int .i64 77) 3; exact h) (by simp [Value.oneCell']) (by have := HVL.out; omega) (by have := HVL.out; omega) (by simp; omega) ?_; intro v' wa hown' hgrow hnil; have HO' : Hid (OwnInts wa w9.heap.size v' (vals ++ [77])) := OwnInts.next hown'; have HG : Hid (Below w9.heap.size (w10.alloc (.cells #[.int .i64 77] 3)) wa) := ownsRow_under (World.ownsRow.alloc HO10.out _) (by simp; omega) hgrow; clear hown' hgrow hnil))
      have hbA : Below w9.heap.size w10 wa := ((Below.refl w9.heap.size w10).alloc hs910 _).trans HG.out
      have QA : Hid (OwnMoves wa w3.heap.size (.slice qa sl qcap) S) := Qw10.out.under hbA (fun b h => (Qw9.out.lt b h).2)
      have LA : Hid (OwnMoves wa w1.heap.size (.slice (some ⟨lg, 0, none⟩) ll lcap) l) := Lw10.out.under hbA (fun b h => (Lw9.out.lt b h).2)
      have VA : Hid (IntsAt wa (.slice (some ⟨vg, 0, none⟩) vl vcap) vals) := Vw10.out.at.under hbA (fun b h => (Vw9.out.lt b h).2)
      have BA : Hid (Below w1.heap.size w1 wa) := Bw10.out.trans (hbA.mono Bw9.out.size)
      clear hbA
      obtain ⟨E, HE⟩ : ∃ E : List Int, Hid (mvEach S (vals ++ [77]) = E) := ⟨mvEach S (vals ++ [77]), show _ = _ from rfl⟩
      have HEL : Hid (E.length = vl + 1) := by show _ = _; rw [← HE.out, mvEach_len, List.length_append, HVL.out]; rfl
      have HET : Hid (E.take vl = D) := by show _ = _; rw [← HE.out]; exact HFI.out
      refine (impl_movesEach _ S _ (vals ++ [77]) _ QA.out.at HO'.out.at (by rw [List.length_append, HVL.out]; simp; omega)).mono ?_
      rw [HE.out]
      rintro e w11 ⟨ev, rfl, oe, b9⟩
      have Ew11 : Hid (OwnInts w11 wa.heap.size ev E) := oe
      have Lw11 : Hid (OwnMoves w11 w1.heap.size (.slice (some ⟨lg, 0, none⟩) ll lcap) l) := LA.out.keep b9
      have Vw11 : Hid (IntsAt w11 (.slice (some ⟨vg, 0, none⟩) vl vcap) vals) := VA.out.keep b9
      have Bw11 : Hid (Below w1.heap.size w1 w11) := Bel.after BA.out b9
      obtain ⟨eg, ecap, rfl, hec, _, _, _⟩ := oe.open' (fun h => by
        obtain ⟨a9, c9, e9, _⟩ := oe.row
        rw [h, HEL.out] at e9
        simp at e9) HEL.out
      clear oe b9
      go_wp2_with fail
      have hhd := slice_headI eg (vl + 1) ecap vl (by omega)
      refine wp_noThrow (wp_region_held_drew (S := fun _ => True) (by kernel_rfl) trivial (fun hHeld => ?_))
      have BD : Below w11.heap.size w11 w11.drew := (Below.refl _ _).drew
      generalize w11.drew = wD at BD ⊢
      have ED : Hid (OwnInts wD wa.heap.size (.slice (some ⟨eg, 0, none⟩) (vl + 1) ecap) E) := Ew11.out.keep BD
      have LD : Hid (OwnMoves wD w1.heap.size (.slice (some ⟨lg, 0, none⟩) ll lcap) l) := Lw11.out.keep BD
      have VD : Hid (IntsAt wD (.slice (some ⟨vg, 0, none⟩) vl vcap) vals) := Vw11.out.keep BD
      have BDD : Hid (Below w1.heap.size w1 wD) := Bel.after Bw11.out BD
      clear BD
      refine wpAnyH_take (i := 0) (oi := { dst := some 87, op := Go.Op.move (Go.Operand.tmp 11), type := 25, pos := "laws.go:275", after := #[], guard := none }) (v := ?_) rfl (by kernel_rfl) (by kernel_rfl) (by kernel_rfl) (fun _ _ _ h => h) (Or.inl ⟨by rfl, ?_⟩) (by assumption) ?_
      rotate_left
      · intro w hSw
        (try dsimp only at hSw)
        go_simp
        (try with_reducible rfl)
      try simp only [Act.put, List.setIfInBounds_toArray, List.set_cons_zero, List.set_cons_succ]
      refine wpAnyH_take (i := 1) (oi := { dst := some 88, op := Go.Op.move (Go.Operand.tmp 5), type := 3, pos := "laws.go:275", after := #[], guard := none }) (v := ?_) rfl (by kernel_rfl) (by kernel_rfl) (by kernel_rfl) (fun _ _ _ h => h) (Or.inl ⟨by rfl, ?_⟩) (by assumption) ?_
      rotate_left
      · intro w hSw
        (try dsimp only at hSw)
        go_simp
        (try with_reducible rfl)
      try simp only [Act.put, List.setIfInBounds_toArray, List.set_cons_zero, List.set_cons_succ]
      refine wpAnyH_take (i := 2) (oi := { dst := some 89, op := Go.Op.slice 25 (Go.Operand.tmp 87) none (some (Go.Operand.tmp 88)) none, type := 25, pos := "laws.go:275", after := #[{ on := 0, ground := Go.Ground.data }, { on := 1, ground := Go.Ground.data }], guard := none }) (v := ?_) rfl (by kernel_rfl) (by kernel_rfl) (by kernel_rfl) (fun _ _ _ h => h) (Or.inl ⟨by rfl, ?_⟩) (by assumption) ?_
      rotate_left
      · intro w hSw
        (try dsimp only at hSw)
        go_simp
        (try with_reducible rfl)
      try simp only [Act.put, List.setIfInBounds_toArray, List.set_cons_zero, List.set_cons_succ]
      refine wpAnyH_take (i := 3) (oi := { dst := some 90, op := Go.Op.move (Go.Operand.tmp 3), type := 24, pos := "laws.go:275", after := #[], guard := none }) (v := ?_) rfl (by kernel_rfl) (by kernel_rfl) (by kernel_rfl) (fun _ _ _ h => h) (Or.inl ⟨by rfl, ?_⟩) (by assumption) ?_
      rotate_left
      · intro w hSw
        (try dsimp only at hSw)
        go_simp
        (try with_reducible rfl)
      try simp only [Act.put, List.setIfInBounds_toArray, List.set_cons_zero, List.set_cons_succ]
      refine wpAnyH_take (i := 4) (oi := { dst := some 91, op := Go.Op.move (Go.Operand.tmp 4), type := 25, pos := "laws.go:275", after := #[], guard := none }) (v := ?_) rfl (by kernel_rfl) (by kernel_rfl) (by kernel_rfl) (fun _ _ _ h => h) (Or.inl ⟨by rfl, ?_⟩) (by assumption) ?_
      rotate_left
      · intro w hSw
        (try dsimp only at hSw)
        go_simp
        (try with_reducible rfl)
      try simp only [Act.put, List.setIfInBounds_toArray, List.set_cons_zero, List.set_cons_succ]
      clear hhd
      refine ckAnyH_oneK (i := 5) (o := { dst := some 92, op := Go.Op.call { callee := Go.Callee.value (Go.Operand.func 16), args := #[Go.Operand.tmp 90, Go.Operand.tmp 91], argTypes := #[24, 25] }, type := 25, pos := "laws.go:275", after := #[{ on := 3, ground := Go.Ground.data }, { on := 4, ground := Go.Ground.data }], guard := none }) rfl rfl (by kernel_rfl) (fun K9 hK9 => ?_)
      refine wp_call_of (f := 16) (args := #[.slice (some ⟨lg, 0, none⟩) ll lcap, .slice (some ⟨vg, 0, none⟩) vl vcap]) (by go_simp) (impl_movesDo _ l _ vals _ LD.out.at VD.out (by have := HVL.out; omega)) ?_
      rw [HDD.out]
      rintro e w12 ⟨fv, rfl, of, b9⟩
      have Fw12 : Hid (OwnInts w12 wD.heap.size fv D) := of
      have Ew12 : Hid (OwnInts w12 wa.heap.size (.slice (some ⟨eg, 0, none⟩) (vl + 1) ecap) E) := ED.out.keep b9
      have Bw12 : Hid (Below w1.heap.size w1 w12) := Bel.after BDD.out b9
      clear of b9
      refine ⟨_, rfl, hK9 _ _ ⟨trivial, ?_⟩⟩
      try simp only [Act.put, List.setIfInBounds_toArray, List.set_cons_zero, List.set_cons_succ]
      clear hK9
      refine ckAnyH_oneK (i := 6) (o := { dst := some 93, op := Go.Op.call { callee := Go.Callee.value (Go.Operand.func 15), args := #[Go.Operand.tmp 89, Go.Operand.tmp 92], argTypes := #[25, 25] }, type := 4, pos := "laws.go:275", after := #[{ on := 2, ground := Go.Ground.data }, { on := 5, ground := Go.Ground.data }, { on := 5, ground := Go.Ground.chain }], guard := none }) rfl rfl (by kernel_rfl) (fun K9 hK9 => ?_)
      refine wp_call_of (f := 15) (args := #[.slice (some ⟨eg, 0, none⟩) vl ecap, fv]) (by go_simp) (sameInts_any (.slice (some ⟨eg, 0, none⟩) vl ecap) fv D D _ (by have h9 := (Ew12.out.head (k := vl) (by have := HEL.out; omega)).at; rw [HET.out] at h9; exact h9) Fw12.out.at) ?_
      rw [show decide (D = D) = true by simp]
      rintro e w13 ⟨rfl, b9⟩
      have Bw13 : Hid (Below w1.heap.size w1 w13) := Bel.after Bw12.out b9
      clear b9
      refine ⟨_, rfl, hK9 _ _ ⟨trivial, ?_⟩⟩
      try simp only [Act.put, List.setIfInBounds_toArray, List.set_cons_zero, List.set_cons_succ]
      clear hK9
      have hm2 : IntKind.i64.wrap (2 * (ll : Int)) = 2 * (ll : Int) := by simp [IntKind.wrap, IntKind.bits, IntKind.signed]; omega
      have hle2 : (sl : Int) ≤ 2 * (ll : Int) := by omega
      refine wpAnyH_take (i := 7) (oi := { dst := some 94, op := Go.Op.move (Go.Operand.tmp 93), type := 4, pos := "laws.go:275", after := #[{ on := 6, ground := Go.Ground.data }, { on := 6, ground := Go.Ground.chain }], guard := none }) (v := ?_) rfl (by kernel_rfl) (by kernel_rfl) (by kernel_rfl) (fun _ _ _ h => h) (Or.inl ⟨by rfl, ?_⟩) (by assumption) ?_
      rotate_left
      · intro w hSw
        (try dsimp only at hSw)
        go_simp
        (try with_reducible rfl)
      try simp only [Act.put, List.setIfInBounds_toArray, List.set_cons_zero, List.set_cons_succ]
      refine wpAnyH_take (i := 8) (oi := { dst := some 95, op := Go.Op.move (Go.Operand.tmp 7), type := 24, pos := "laws.go:275", after := #[{ on := 7, ground := Go.Ground.guard }], guard := some (7, true) }) (v := ?_) rfl (by kernel_rfl) (by kernel_rfl) (by kernel_rfl) (fun _ _ _ h => h) (Or.inl ⟨by rfl, ?_⟩) (by assumption) ?_
      rotate_left
      · intro w hSw
        (try dsimp only at hSw)
        go_simp
        (try with_reducible rfl)
      try simp only [Act.put, List.setIfInBounds_toArray, List.set_cons_zero, List.set_cons_succ]
      refine wpAnyH_take (i := 9) (oi := { dst := some 96, op := Go.Op.call { callee := Go.Callee.builtin Go.Builtin.len, args := #[Go.Operand.tmp 95], argTypes := #[24] }, type := 3, pos := "laws.go:275", after := #[{ on := 8, ground := Go.Ground.data }, { on := 7, ground := Go.Ground.guard }], guard := some (7, true) }) (v := ?_) rfl (by kernel_rfl) (by kernel_rfl) (by kernel_rfl) (fun _ _ _ h => h) (Or.inl ⟨by rfl, ?_⟩) (by assumption) ?_
      rotate_left
      · intro w hSw
        (try dsimp only at hSw)
        go_simp
        (try with_reducible rfl)
      try simp only [Act.put, List.setIfInBounds_toArray, List.set_cons_zero, List.set_cons_succ]
      refine wpAnyH_take (i := 10) (oi := { dst := some 97, op := Go.Op.move (Go.Operand.tmp 3), type := 24, pos := "laws.go:275", after := #[{ on := 7, ground := Go.Ground.guard }], guard := some (7, true) }) (v := ?_) rfl (by kernel_rfl) (by kernel_rfl) (by kernel_rfl) (fun _ _ _ h => h) (Or.inl ⟨by rfl, ?_⟩) (by assumption) ?_
      rotate_left
      · intro w hSw
        (try dsimp only at hSw)
        go_simp
        (try with_reducible rfl)
      try simp only [Act.put, List.setIfInBounds_toArray, List.set_cons_zero, List.set_cons_succ]
      refine wpAnyH_take (i := 11) (oi := { dst := some 98, op := Go.Op.call { callee := Go.Callee.builtin Go.Builtin.len, args := #[Go.Operand.tmp 97], argTypes := #[24] }, type := 3, pos := "laws.go:275", after := #[{ on := 10, ground := Go.Ground.data }, { on := 7, ground := Go.Ground.guard }], guard := some (7, true) }) (v := ?_) rfl (by kernel_rfl) (by kernel_rfl) (by kernel_rfl) (fun _ _ _ h => h) (Or.inl ⟨by rfl, ?_⟩) (by assumption) ?_
      rotate_left
      · intro w hSw
        (try dsimp only at hSw)
        go_simp
        (try with_reducible rfl)
      try simp only [Act.put, List.setIfInBounds_toArray, List.set_cons_zero, List.set_cons_succ]
      refine wpAnyH_take (i := 12) (oi := { dst := some 99, op := Go.Op.binOp Go.BinOp.mul 3 (Go.Operand.const (Go.Value.int Go.IntKind.i64 2)) (Go.Operand.tmp 98) 3, type := 3, pos := "laws.go:275", after := #[{ on := 11, ground := Go.Ground.data }, { on := 7, ground := Go.Ground.guard }], guard := some (7, true) }) (v := ?_) rfl (by kernel_rfl) (by kernel_rfl) (by kernel_rfl) (fun _ _ _ h => h) (Or.inl ⟨by rfl, ?_⟩) (by assumption) ?_
      rotate_left
      · intro w hSw
        (try dsimp only at hSw)
        go_simp
        (try with_reducible rfl)
      try simp only [Act.put, List.setIfInBounds_toArray, List.set_cons_zero, List.set_cons_succ]
      refine wpAnyH_take (i := 13) (oi := { dst := some 100, op := Go.Op.binOp Go.BinOp.leq 3 (Go.Operand.tmp 96) (Go.Operand.tmp 99) 3, type := 4, pos := "laws.go:275", after := #[{ on := 9, ground := Go.Ground.data }, { on := 12, ground := Go.Ground.data }, { on := 7, ground := Go.Ground.guard }], guard := some (7, true) }) (v := ?_) rfl (by kernel_rfl) (by kernel_rfl) (by kernel_rfl) (fun _ _ _ h => h) (Or.inl ⟨by rfl, ?_⟩) (by assumption) ?_
      rotate_left
      · intro w hSw
        (try dsimp only at hSw)
        go_simp
        (try with_reducible rfl)
      try simp only [Act.put, List.setIfInBounds_toArray, List.set_cons_zero, List.set_cons_succ]
      refine wpAnyH_take (i := 14) (oi := { dst := some 101, op := Go.Op.pick (Go.Operand.tmp 94) (Go.Operand.tmp 100) (Go.Operand.const (Go.Value.bool false)), type := 4, pos := "laws.go:275", after := #[{ on := 7, ground := Go.Ground.data }, { on := 13, ground := Go.Ground.data }], guard := none }) (v := ?_) rfl (by kernel_rfl) (by kernel_rfl) (by kernel_rfl) (fun _ _ _ h => h) (Or.inl ⟨by rfl, ?_⟩) (by assumption) ?_
      rotate_left
      · intro w hSw
        (try dsimp only at hSw)
        go_simp
        (try with_reducible rfl)
      try simp only [Act.put, List.setIfInBounds_toArray, List.set_cons_zero, List.set_cons_succ]
      refine wpAnyH_take (i := 15) (oi := { dst := some 2, op := Go.Op.assign (Go.Operand.tmp 101), type := 4, pos := "laws.go:275", after := #[{ on := 14, ground := Go.Ground.data }, { on := 7, ground := Go.Ground.chain }, { on := 0, ground := Go.Ground.phase }, { on := 1, ground := Go.Ground.phase }, { on := 2, ground := Go.Ground.phase }, { on := 3, ground := Go.Ground.phase }, { on := 4, ground := Go.Ground.phase }, { on := 5, ground := Go.Ground.phase }, { on := 6, ground := Go.Ground.phase }, { on := 7, ground := Go.Ground.phase }, { on := 8, ground := Go.Ground.phase }, { on := 9, ground := Go.Ground.phase }, { on := 10, ground := Go.Ground.phase }, { on := 11, ground := Go.Ground.phase }, { on := 12, ground := Go.Ground.phase }, { on := 13, ground := Go.Ground.phase }, { on := 14, ground := Go.Ground.phase }], guard := none }) (v := ?_) rfl (by kernel_rfl) (by kernel_rfl) (by kernel_rfl) (fun _ _ _ h => h) (Or.inl ⟨by rfl, ?_⟩) (by assumption) ?_
      rotate_left
      · intro w hSw
        (try dsimp only at hSw)
        go_simp
        (try with_reducible rfl)
      try simp only [Act.put, List.setIfInBounds_toArray, List.set_cons_zero, List.set_cons_succ]
      refine wpAnyH_done (by kernel_rfl) ?_ _
      simp only [noThrow, Exit.then]
      go_at_K
      go_wp2
      go_ret
      exact ⟨rfl, Bw13.out⟩

set_option maxRecDepth 100000 in
theorem lifted (os : Os) (started : os.Started) (H : Type) (enc : TypeId × Value → H) :
    ReturnsInHanded {} Try.checked os 3 .any (Rows.fnMovesSpec.pre6 enc Try.prog Try.f3 Rows.fnMovesRow.domain false) (Rows.fnMovesSpec.post enc Try.prog Try.f3 false true false false) := by
  refine returnsInHanded_of_change (C := Try.checked) own started (by kernel_rfl) Try.func3
    (ChangeSpec.witness6 (enc := enc) (C := Try.checked) false ⟨#[], #[.slice none 0 0], []⟩ 8 (by kernel_rfl) (by kernel_rfl) (by kernel_rfl) (by kernel_rfl)) ?_
  intro W base args ds gs before hval0 hW hcnd _
  have hval : ∀ (j : Nat) t v, Try.f3.params[j]? = some t → args[j]? = some v → Value.okWide Try.prog W .any base t v := hval0
  have hW' := hW
  obtain ⟨p, q, hA0, hV, rfl, hfz, hnd⟩ := hW
  have hA : DataW.TrodAll enc Try.prog W 0 (fun _ => true) true Try.f3.params.toList args.toList ds p := hA0
  rw [Try.params3] at hA hval
  obtain ⟨v0, vs0, d0, ds0, p0, q0, hargs, rfl, rfl, h0, r0x⟩ := trodAll_cons hA
  obtain ⟨rfl, rfl, rfl⟩ := trodAll_nil r0x
  obtain rfl : args = #[v0] := by cases args; simp_all
  obtain ⟨rfl, rfl⟩ := trodVars_none hV
  have k0 := h0
  have lt0 : ∀ x ∈ p0, x.block < W.heap.size := by obtain ⟨m, hm⟩ := k0; exact DataW.trod_lt m _ _ _ hm
  obtain ⟨a0, len0, cap0, rfl⟩ := okWide_slice Try.underlying22 (hval 0 22 v0 rfl rfl)
  obtain ⟨z0, r0⟩ : ∃ zs, IsRow .u8 W a0 len0 cap0 zs := by
    obtain ⟨fuel, hf⟩ := h0
    rcases open_ints Try.underlying22 Try.underlying5 (by kernel_rfl) hf with ⟨hcs, _⟩ | ⟨x, l, c, zs, hcs, _, hl, hm, hz, _, hcell, hwz⟩
    · simp [Value.cells] at hcs
      obtain ⟨rfl, rfl, rfl⟩ := hcs
      exact ⟨[], .inl ⟨rfl, rfl, rfl, rfl⟩⟩
    · simp [Value.cells] at hcs
      obtain ⟨rfl, rfl, rfl⟩ := hcs
      exact ⟨zs, .inr ⟨_, rfl, hl, hm, by simpa using hz, hcell, hwz⟩⟩
  clear hA0 hval0
  refine (walk W a0 len0 cap0 z0 r0).mono fun e W' ⟨he, bel⟩ => ?_
  subst he
  exact ⟨_, rfl, _, _, _, [], _, [], hW', trodAll_mk1 (shut_bool Try.underlying4 _), (trodAll_cons_mk (Below.trod laidOut (by kernel_rfl) (of_decide_eq_true (by kernel_rfl)) k0 bel lt0) trodAll_mk0), rfl, bel.frame _, fun h => by cases h⟩

theorem over : Rows.fnMovesRow.holds Try.pinned (OpenSpec.ofChange Rows.fnMovesSpec) :=
  OpenClaim.holds_of_wide 3 Try.f3 rfl rfl rfl rfl rfl rfl rfl ⟨rfl, rfl, rfl, rfl, rfl⟩ rfl rfl rfl rfl rfl (by kernel_rfl) Try.func3 (by kernel_rfl)
    (of_decide_eq_true (by kernel_rfl)) (by unfold Func.isWrapper; first | (rw [if_pos (by decide +kernel)]; kernel_rfl) | (rw [if_neg (by decide +kernel)]; exact ⟨rfl, rfl⟩))
    (fun os started H enc _ => lifted os started H enc)

/-- The statement. -/
theorem proved : Rows.FnMovesSaid := over
#print axioms proved
end Go.Proofs.Ytijihgkhdknkeaa.fnMoves
