/- Proved: for every list of steps the law FnExactUses returns true (the program's Uses answers as the model's, writes into no argument and keeps none, and its answer owns its memory) and its argument and the program's table of forms read afterwards as before; the card ties the table to the program's text. -/
import Derived.Test.YtebcocehdjoafaaDoorRows
import Derived.Test.YtebcocehdjoafaaDoorMaLaid
import Derived.Test.YtebcocehdjoafaaDoorTie
import Derived.Test.YtebcocehdjoafaaDoorCards
import Derived.SevenTiedAt
import Derived.Test.YtebcocehdjoafaaDoorMaUsL
import Derived.WalkKit
import Derived.ProofKit
import Derived.OpenShut
import Derived.ShutString
import Derived.ChangeOld
import Derived.Below
namespace Go.Proofs.YtebcocehdjoafaaDoor.fnExactUses
open Go.ChangeShapes Go.WideShapes Go.ChangeAt Go.RowKit
open Go.ChangeMaps (open_string shut_string)
set_option linter.unusedVariables false

theorem laidOut : laidOutB Tryd.prog = true := by kernel_rfl

set_option maxHeartbeats 4000000 in
theorem walk (w : World) (a0 : Option Addr) (len0 cap0 : Nat) (l0 : List InsD) (r0 : StepsAt w (.slice a0 len0 cap0) l0) (o0 : OpsIn l0) (hT : FTab w) :
    Calls Tryd.prog 7 #[.slice a0 len0 cap0] w fun e w' => e = .returned (.bool true) ∧ Below w.heap.size w w' := by
  have HL : Hid (StepsAt w (.slice a0 len0 cap0) l0) := r0
  have HO : Hid (OpsIn l0) := o0
  have HT : Hid (FTab w) := hT
  clear r0 o0 hT
  obtain ⟨L, HLL⟩ : ∃ L, Hid (usesOf l0 = L) := ⟨_, rfl⟩
  have hlen : L.length ≤ 100 := by rw [← HLL.out]; exact usesOf_len l0
  have hd : decide (L = L) = true := by simp
  obtain ⟨n0, HN⟩ : ∃ n, Hid (l0.length = n) := ⟨_, rfl⟩
  go_enter Tryd.func7, Tryd.ntmps7
  go_wp2_with fail
  refine (szStepS_any _ l0 1048576 _ HL.out (by omega) (by omega)).mono ?_
  rintro e w0 ⟨sz, rfl, hs1, hs2, hs3, b0⟩
  have B0 : Hid (Below w.heap.size w w0) := b0
  have HS : Hid (0 ≤ sz → l0.length ≤ 1048576) := hs3
  clear b0 hs3
  by_cases hsz : sz < 0
  · go_wp2
    go_ret
    exact ⟨rfl, B0.out⟩
  have HLS : Hid (l0.length ≤ 1048576) := HS.out (by omega)
  go_wp2_with fail
  refine (toStepS_any _ l0 _ (places_keep HL.out (Keeps.of_below B0.out 0)) HLS.out).mono ?_
  rintro e w1 ⟨v1, rfl, s1, b1, _⟩
  have S1 : Hid (StepsAt w1 v1 l0) := s1.low (Nat.zero_le _) (fun _ _ _ h => h)
  have B1 : Hid (Below w.heap.size w w1) := Bel.after B0.out b1
  clear s1 b1
  obtain ⟨p1, c1, hv1, _⟩ := id S1.out
  rw [HN.out] at hv1
  subst hv1
  go_wp2_with fail
  refine (spec_uses _ l0 _ S1.out HO.out).mono ?_
  rw [HLL.out]
  rintro e w2 ⟨g0, rfl, oo0, b2⟩
  have O0 : Hid (OwnInts w2 w1.heap.size g0 L) := oo0
  have B2 : Hid (Below w.heap.size w w2) := Bel.after B1.out b2
  have hs12 : w1.heap.size ≤ w2.heap.size := b2.size
  clear b2 oo0
  go_wp2_with fail
  refine (toStepS_any _ l0 _ (places_keep HL.out (Keeps.of_below B2.out 0)) HLS.out).mono ?_
  rintro e w3 ⟨v3, rfl, s3, b3, z3⟩
  have S3L : Hid (ListAt w2.heap.size 5 InsAt w3 v3 l0) := s3
  have Z3 : Hid (FZ w2 w3) := z3
  have S3 : Hid (StepsAt w3 v3 l0) := s3.low (Nat.zero_le _) (fun _ _ _ h => h)
  have O03 : Hid (OwnInts w3 w1.heap.size g0 L) := O0.out.keep b3
  have B3 : Hid (Below w.heap.size w w3) := Bel.after B2.out b3
  have hs23 : w2.heap.size ≤ w3.heap.size := b3.size
  clear s3 b3 z3
  obtain ⟨p3, c3, hv3, _⟩ := id S3.out
  rw [HN.out] at hv3
  subst hv3
  go_wp2_with fail
  refine (impl_uses _ l0 _ S3.out HO.out (HT.out.keep B3.out)).mono ?_
  rw [HLL.out]
  rintro e w4 ⟨g1, rfl, oo1, b4⟩
  have O1 : Hid (OwnInts w4 w3.heap.size g1 L) := oo1
  have O04 : Hid (OwnInts w4 w1.heap.size g0 L) := O03.out.keep b4
  have H34 : Hid (Below w3.heap.size w3 w4) := b4
  clear b4 oo1
  go_wp2_with fail
  refine (eqIntS_any g1 g0 _ _ _ O1.out.at O04.out.at).mono ?_
  rintro e w5 ⟨rfl, b5⟩
  have O15 : Hid (OwnInts w5 w3.heap.size g1 L) := O1.out.keep b5
  have O05 : Hid (OwnInts w5 w1.heap.size g0 L) := O04.out.keep b5
  have H35 : Hid (Below w3.heap.size w3 w5) := Bel.after H34.out b5
  have B5 : Hid (Below w.heap.size w w5) := Bel.after B3.out H35.out
  clear b5 H34
  go_wp2_with fail
  refine (toStepS_any _ l0 _ (places_keep HL.out (Keeps.of_below B5.out 0)) HLS.out).mono ?_
  rintro e w6 ⟨v6, rfl, s6, b6, _⟩
  have S6 : Hid (StepsAt w6 v6 l0) := s6.low (Nat.zero_le _) (fun _ _ _ h => h)
  have H36 : Hid (Below w3.heap.size w3 w6) := Bel.after H35.out b6
  have S36 : Hid (StepsAt w6 (.slice p3 n0 c3) l0) := places_keep S3.out (Keeps.of_below H36.out 0)
  have O16 : Hid (OwnInts w6 w3.heap.size g1 L) := O15.out.keep b6
  have O06 : Hid (OwnInts w6 w1.heap.size g0 L) := O05.out.keep b6
  clear s6 b6
  obtain ⟨p6, c6, hv6, _⟩ := id S6.out
  rw [HN.out] at hv6
  subst hv6
  go_wp2_with fail
  refine (eqStepS_same _ _ l0 _ S36.out S6.out).mono ?_
  rintro e w7 ⟨rfl, b7⟩
  have O17 : Hid (OwnInts w7 w3.heap.size g1 L) := O16.out.keep b7
  have O07 : Hid (OwnInts w7 w1.heap.size g0 L) := O06.out.keep b7
  have H37 : Hid (Below w3.heap.size w3 w7) := Bel.after H36.out b7
  have hs37 : w3.heap.size ≤ w7.heap.size := H37.out.size
  clear b7
  have M7 : Hid (MarkAt w2.heap.size w3.heap.size 5 InsM w7 (.slice p3 n0 c3) n0) := by
    have h := marksOfSteps S3L.out H37.out
    rw [HN.out] at h
    exact h
  have T7 : Hid (Thaw w2.heap.size w3.heap.size w7) := fun p h1 h2 => by
    rw [H37.out.frozen h2]
    exact Z3.out.new h1
  have hn0 : n0 ≤ 1048576 := by rw [← HN.out]; exact HLS.out
  go_wp2_with fail
  refine (markStepS_any w2.heap.size w3.heap.size _ n0 1 _ M7.out T7.out hn0 (by omega) (by omega)).mono ?_
  rintro e w8 ⟨z, rfl, hz0, hz1, tk⟩
  have MK : Hid (Marked w2.heap.size w3.heap.size w7 w8) := ⟨tk.bel, fun k h1 _ => tk.above k h1⟩
  have O18 : Hid (OwnInts w8 w3.heap.size g1 L) := O17.out.marked MK.out (fun b hb => .inr (O17.out.lt b hb).1)
  have O08 : Hid (OwnInts w8 w1.heap.size g0 L) := O07.out.marked MK.out (fun b hb => .inl (O0.out.lt b hb).2)
  have B8 : Hid (Below w.heap.size w w8) := (Bel.after B3.out H37.out).trans (tk.bel.mono B2.out.size)
  have hs8 : w3.heap.size ≤ w8.heap.size := by have := tk.bel.size; omega
  have hzz : ¬ z < 0 := by omega
  clear tk
  go_wp2_with fail
  refine (eqIntS_any g1 g0 _ _ _ O18.out.at O08.out.at).mono ?_
  rintro e w9 ⟨rfl, b9⟩
  have O19 : Hid (OwnInts w9 w3.heap.size g1 L) := O18.out.keep b9
  have O09 : Hid (OwnInts w9 w1.heap.size g0 L) := O08.out.keep b9
  have B9 : Hid (Below w.heap.size w w9) := Bel.after B8.out b9
  have hs9 : w3.heap.size ≤ w9.heap.size := Nat.le_trans hs8 b9.size
  clear b9
  obtain ⟨ln, HLN⟩ : ∃ ln, Hid (L.length = ln) := ⟨_, rfl⟩
  have hln : ln ≤ 100 := by rw [← HLN.out]; exact hlen
  go_wp2_with fail
  refine (markIntS_own w3.heap.size g1 L 1 _ O19.out hs9 (by omega) (by omega)).mono ?_
  rintro e w10 ⟨rfl, b10, r10⟩
  rw [HLN.out] at r10 ⊢
  have R10 : Hid (IntsAt w10 g1 (marks 1 ln)) := r10
  have R010 : Hid (IntsAt w10 g0 L) := O09.out.at.under b10 (fun b hb => by have := (O0.out.lt b hb).2; omega)
  have B10 : Hid (Below w.heap.size w w10) := B9.out.trans (b10.mono B3.out.size)
  clear b10 r10
  go_wp2_with fail
  refine (heldIntS_any g1 ln 1 _ R10.out (by omega) (by omega)).mono ?_
  rintro e w10' ⟨rfl, hw10⟩
  subst hw10
  go_wp2_with fail
  refine (toStepS_any _ l0 _ (places_keep HL.out (Keeps.of_below B10.out 0)) HLS.out).mono ?_
  rintro e w11 ⟨v11, rfl, s11, b11, _⟩
  have S11 : Hid (StepsAt w11 v11 l0) := s11.low (Nat.zero_le _) (fun _ _ _ h => h)
  have R11 : Hid (IntsAt w11 g1 (marks 1 ln)) := R10.out.keep b11
  have R011 : Hid (IntsAt w11 g0 L) := R010.out.keep b11
  have B11 : Hid (Below w.heap.size w w11) := Bel.after B10.out b11
  clear s11 b11
  obtain ⟨p11, c11, hv11, _⟩ := id S11.out
  rw [HN.out] at hv11
  subst hv11
  go_wp2_with fail
  refine (impl_uses _ l0 _ S11.out HO.out (HT.out.keep B11.out)).mono ?_
  rw [HLL.out]
  rintro e w12 ⟨g2, rfl, oo2, b12⟩
  have O2 : Hid (OwnInts w12 w11.heap.size g2 L) := oo2
  have R12 : Hid (IntsAt w12 g1 (marks 1 ln)) := R11.out.keep b12
  have R012 : Hid (IntsAt w12 g0 L) := R011.out.keep b12
  have B12 : Hid (Below w.heap.size w w12) := Bel.after B11.out b12
  clear b12 oo2
  go_wp2_with fail
  refine (eqIntS_any g2 g0 _ _ _ O2.out.at R012.out).mono ?_
  rintro e w13 ⟨rfl, b13⟩
  have R13 : Hid (IntsAt w13 g1 (marks 1 ln)) := R12.out.keep b13
  have B13 : Hid (Below w.heap.size w w13) := Bel.after B12.out b13
  clear b13
  go_wp2_with fail
  refine (heldIntS_any g1 ln 1 _ R13.out (by omega) (by omega)).mono ?_
  rintro e w13' ⟨rfl, hw13⟩
  subst hw13
  go_wp2_with fail
  go_ret
  exact ⟨rfl, B13.out⟩

set_option maxRecDepth 100000 in
theorem lifted (os : Os) (started : os.Started) (H : Type) (enc : TypeId × Value → H) :
    ReturnsInHanded {} Tryd.checked os 7 .any (fun w args => (Rows.fnExactUsesSpec.pre enc Tryd.prog Tryd.f7 [] false w args ∧ laidMetH Tryd.prog Rows.fnExactUsesRow.laid w) ∧ sizedMet enc Tryd.prog Tryd.f7 (OpenSpec.ofChange Rows.fnExactUsesSpec) false w args)
      (Rows.fnExactUsesSpec.post enc Tryd.prog Tryd.f7 false true false false) := by
  refine returnsInHanded_of_change_and (C := Tryd.checked) (X := fun w _ => laidMetH Tryd.prog Rows.fnExactUsesRow.laid w) (fun _ _ _ hh h => h.of_heap hh) own started (by kernel_rfl) Tryd.func7
    (ChangeSpec.witness_shaped (enc := enc) (C := Tryd.checked) (os := os) (X := fun w _ => laidMetH Tryd.prog Rows.fnExactUsesRow.laid w) false (World.doorLaid Tryd.prog 400 os) #[.slice none 0 0] 8 rfl (World.shaped_of_RefB (by kernel_rfl) (by kernel_rfl)) (by kernel_rfl) (by kernel_rfl) (by kernel_rfl) (door_met os _)) ?_
  intro W base args ds gs before hval0 hW _ _ hL _
  have hval : ∀ (j : Nat) t v, Tryd.f7.params[j]? = some t → args[j]? = some v → Value.okWide Tryd.prog W .any base t v := hval0
  have hW' := hW
  obtain ⟨p, q, hA0, hV0, rfl, hfz, hnd⟩ := hW
  have hA : DataW.TrodAll enc Tryd.prog W 0 (fun _ => true) true Tryd.f7.params.toList args.toList ds p := hA0
  rw [Tryd.params7] at hA hval
  obtain ⟨v0, vs0, d0, ds0, p0, q0, hargs, rfl, rfl, h0, r0x⟩ := trodAll_cons hA
  obtain ⟨rfl, rfl, rfl⟩ := trodAll_nil r0x
  obtain rfl : args = #[v0] := by cases args; simp_all
  have hV : DataW.TrodVars enc Tryd.prog W (fun _ => true) [tabName] gs q := hV0
  obtain ⟨g, t, cs, fuel, dv, pv, rfl, hg, ht, hvar, hd, rfl⟩ := trodVars_one hV
  obtain rfl := Option.some.inj (gTab.symm.trans hg)
  obtain rfl := Option.some.inj (tTab.symm.trans ht)
  have hT := of_laid hL
  have hlt0 : 0 < W.heap.size := World.block_lt_of_cell? W _ (hT 0 (by omega)).1
  have hltv : ∀ x ∈ pv, x.block < W.heap.size := fun x hx => hW'.lt x (List.mem_append_right _ (List.mem_append_right _ hx))
  have k0 := h0
  have lt0 : ∀ x ∈ p0, x.block < W.heap.size := by obtain ⟨m, hm⟩ := k0; exact DataW.trod_lt m _ _ _ hm
  obtain ⟨a0, len0, cap0, rfl⟩ := okWide_slice Tryd.underlying32 (hval 0 32 v0 rfl rfl)
  obtain ⟨l0, r0, o0⟩ := openStepsR h0
  clear hA0 hV0 hval0
  refine (walk W a0 len0 cap0 l0 r0 o0 hT).mono fun e W' ⟨he, bel⟩ => ?_
  subst he
  exact ⟨_, rfl, _, _, _, [], _, (MemPlace.row ⟨0, 0, none⟩ cs.size ++ pv), hW', trodAll_mk1 (shut_bool Tryd.underlying4 _), (trodAll_cons_mk (Below.trod laidOut (by kernel_rfl) (of_decide_eq_true (by kernel_rfl)) k0 bel lt0) trodAll_mk0), vars_again hvar hd hltv hlt0 bel, bel.frame _, fun h => by cases h⟩

theorem over : Rows.fnExactUsesRow.holds Tryd.pinned (OpenSpec.ofChange Rows.fnExactUsesSpec) :=
  OpenClaim.holds_of_wide 7 Tryd.f7 rfl rfl rfl rfl rfl rfl rfl ⟨rfl, rfl, rfl, rfl, rfl⟩ rfl rfl rfl rfl rfl (by kernel_rfl) Tryd.func7 (by kernel_rfl)
    (of_decide_eq_true (by kernel_rfl)) (by unfold Func.isWrapper; first | (rw [if_pos (by decide +kernel)]; kernel_rfl) | (rw [if_neg (by decide +kernel)]; exact ⟨rfl, rfl⟩))
    (fun os started H enc _ => lifted os started H enc)

/-- The card: the row, its listed variable tied to the program's text. -/
theorem proved : Rows.FnExactUsesCardSaid :=
  Claim7.holds_tied_plain_at .later [] [.data] true Rows.fnExactUsesCard.stood.harness Rows.fnExactUsesCard.stood.looks
    over (fun _ h => by cases h) (by kernel_rfl) (fun _ h => by cases h) fnExactUses_row_tie rfl ⟨rfl, rfl⟩ (by kernel_rfl) rfl
    (fun f fn hf hfn => by
      obtain rfl : f = 7 := Option.some.inj ((show Tryd.prog.funcNamed Rows.fnExactUsesRow.func = some 7 by kernel_rfl).symm.trans hf) |>.symm
      obtain rfl : fn = Tryd.f7 := (Option.some.inj (Tryd.func7.symm.trans hfn)).symm
      exact ⟨by kernel_rfl, fun j t ht => by
        rw [Tryd.params7] at ht
        have hm : t ∈ [32] := by simpa using Array.mem_of_getElem? ht
        have hall : ([32].all fun u => !Tryd.prog.wantsStandIn u) = true := by kernel_rfl
        exact (show Tryd.prog.wantsStandIn t = false by simpa using List.all_eq_true.1 hall t hm)⟩)
    (by kernel_rfl)
#print axioms proved
end Go.Proofs.YtebcocehdjoafaaDoor.fnExactUses
