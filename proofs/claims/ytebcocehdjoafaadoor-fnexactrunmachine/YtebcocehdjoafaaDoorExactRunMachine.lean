/- Proved: for every list of steps, whatever is read and every fuel the law FnExactRunMachine returns true (the program's RunMachine answers as the model's, writes into no argument and keeps none, and its answer owns its memory) and its arguments and the program's table of forms read afterwards as before; the card ties the table to the program's text. -/
import Derived.Test.YtebcocehdjoafaaDoorRows
import Derived.Test.YtebcocehdjoafaaDoorMaLaid
import Derived.Test.YtebcocehdjoafaaDoorTie
import Derived.Test.YtebcocehdjoafaaDoorCards
import Derived.SevenTiedAt
import Derived.Test.YtebcocehdjoafaaDoorMaLaw
import Derived.WalkKit
import Derived.ProofKit
import Derived.OpenShut
import Derived.ShutString
import Derived.ChangeOld
import Derived.Below
namespace Go.Proofs.YtebcocehdjoafaaDoor.fnExactRunMachine
open Go.ChangeShapes Go.WideShapes Go.ChangeAt Go.RowKit
open Go.ChangeMaps (open_string shut_string)
set_option linter.unusedVariables false

theorem laidOut : laidOutB Tryd.prog = true := by kernel_rfl

set_option maxHeartbeats 4000000 in
theorem walk (w : World) (a0 : Option Addr) (len0 cap0 : Nat) (l0 : List InsD) (r0 : StepsAt w (.slice a0 len0 cap0) l0) (o0 : OpsIn l0) (a1 : Option Addr) (len1 cap1 : Nat) (z1 : List Int) (r1 : IsRow .i64 w a1 len1 cap1 z1) (a2 : Int) (wf2 : (Lit.int .i64 a2).wf = true) (hT : FTab w) :
    Calls Tryd.prog 6 #[.slice a0 len0 cap0, .slice a1 len1 cap1, .int .i64 a2] w fun e w' => e = .returned (.bool true) ∧ Below w.heap.size w w' := by
  have HL : Hid (StepsAt w (.slice a0 len0 cap0) l0) := r0
  have HO : Hid (OpsIn l0) := o0
  have HT : Hid (FTab w) := hT
  have HRW : Hid (IsRow .i64 w a1 len1 cap1 z1) := r1
  clear r0 o0 hT r1
  obtain ⟨RD, HRD⟩ : ∃ L, Hid (z1.take len1 = L) := ⟨_, rfl⟩
  have HRL : Hid (RD.length ≤ len1) := by show RD.length ≤ len1; rw [← HRD.out, List.length_take]; omega
  obtain ⟨⟨L, hw, en⟩, HLL⟩ : ∃ p, Hid (macOf wordV l0 RD a2 = p) := ⟨_, rfl⟩
  have hlen : L.length ≤ 50000 := by have h := macOf_len l0 RD a2; rw [HLL.out] at h; exact h
  have hd : decide (L = L) = true := by simp
  have hdr : decide (RD = RD) = true := by simp
  have hdw : (hw != hw) = false := by simp
  have hde : (en != en) = false := by simp
  obtain ⟨n0, HN⟩ : ∃ n, Hid (l0.length = n) := ⟨_, rfl⟩
  obtain ⟨rn, HRN⟩ : ∃ n, Hid (RD.length = n) := ⟨_, rfl⟩
  by_cases hbig : (1048576 : Int) < (len1 : Int)
  · go_enter Tryd.func6, Tryd.ntmps6
    go_wp2_with fail
    go_ret
    exact ⟨rfl, Below.refl _ _⟩
  have hlr : len1 ≤ 1048576 := by omega
  have HLR : Hid (RD.length ≤ 2000000) := by have := HRL.out; show RD.length ≤ 2000000; omega
  have hrn : rn ≤ 2000000 := by rw [← HRN.out]; exact HLR.out
  go_enter Tryd.func6, Tryd.ntmps6
  go_wp2_with fail
  refine (szStepS_any _ l0 1048576 _ HL.out (by omega) (by omega)).mono ?_
  rintro e w0 ⟨sz, rfl, hs1, hs2, hs3, b0⟩
  have B0 : Hid (Below w.heap.size w w0) := b0
  have HS : Hid (0 ≤ sz → l0.length ≤ 1048576) := hs3
  clear b0 hs3
  by_cases hsz : sz < 0
  · go_wp2
    go_ret
    exact ⟨rfl, B0.out⟩
  have HLS : Hid (l0.length ≤ 1048576) := HS.out (by omega)
  go_wp2_with fail
  refine (toStepS_any _ l0 _ (places_keep HL.out (Keeps.of_below B0.out 0)) HLS.out).mono ?_
  rintro e w1 ⟨v1, rfl, s1, b1, _⟩
  have S1 : Hid (StepsAt w1 v1 l0) := s1.low (Nat.zero_le _) (fun _ _ _ h => h)
  have B1 : Hid (Below w.heap.size w w1) := Bel.after B0.out b1
  clear s1 b1
  obtain ⟨p1, c1, hv1, _⟩ := id S1.out
  rw [HN.out] at hv1
  subst hv1
  go_wp2_with fail
  refine (toIntS_any a1 len1 cap1 z1 _ (HRW.out.after B1.out) hlr).mono ?_
  rw [HRD.out]
  rintro e w1r ⟨u1, rfl, oi1r, b1r⟩
  have I1 : Hid (OwnInts w1r w1.heap.size u1 RD) := oi1r
  have B1r : Hid (Below w.heap.size w w1r) := Bel.after B1.out b1r
  have S1r : Hid (StepsAt w1r (.slice p1 n0 c1) l0) := places_keep S1.out (Keeps.of_below b1r 0)
  clear oi1r b1r
  obtain ⟨pu1, cu1, hu1⟩ := ownForm I1.out
  rw [HRN.out] at hu1
  subst hu1
  go_wp2_with fail
  refine (spec_runMachine _ _ l0 RD a2 HLR.out _ S1r.out HO.out I1.out.reads).mono ?_
  rw [HLL.out]
  dsimp only [GivesTld]
  rintro e w2 ⟨g0, rfl, oo0, b2⟩
  have O0 : Hid (OwnInts w2 w1r.heap.size g0 L) := oo0
  have B2 : Hid (Below w.heap.size w w2) := Bel.after B1r.out b2
  have hs12 : w1r.heap.size ≤ w2.heap.size := b2.size
  clear b2 oo0
  go_wp2_with fail
  refine (toStepS_any _ l0 _ (places_keep HL.out (Keeps.of_below B2.out 0)) HLS.out).mono ?_
  rintro e w3 ⟨v3, rfl, s3, b3, z3⟩
  have S3L : Hid (ListAt w2.heap.size 5 InsAt w3 v3 l0) := s3
  have Z3 : Hid (FZ w2 w3) := z3
  have S3 : Hid (StepsAt w3 v3 l0) := s3.low (Nat.zero_le _) (fun _ _ _ h => h)
  have O03 : Hid (OwnInts w3 w1r.heap.size g0 L) := O0.out.keep b3
  have B3 : Hid (Below w.heap.size w w3) := Bel.after B2.out b3
  have hs23 : w2.heap.size ≤ w3.heap.size := b3.size
  clear s3 b3 z3
  obtain ⟨p3, c3, hv3, _⟩ := id S3.out
  rw [HN.out] at hv3
  subst hv3
  go_wp2_with fail
  refine (toIntS_any a1 len1 cap1 z1 _ (HRW.out.after B3.out) hlr).mono ?_
  rw [HRD.out]
  rintro e w3r ⟨u3, rfl, oi3r, b3r⟩
  have I3 : Hid (OwnInts w3r w3.heap.size u3 RD) := oi3r
  have H33 : Hid (Below w3.heap.size w3 w3r) := b3r
  have B3r : Hid (Below w.heap.size w w3r) := Bel.after B3.out b3r
  have S3r : Hid (StepsAt w3r (.slice p3 n0 c3) l0) := places_keep S3.out (Keeps.of_below b3r 0)
  have O03r : Hid (OwnInts w3r w1r.heap.size g0 L) := O03.out.keep b3r
  have hs33 : w3.heap.size ≤ w3r.heap.size := b3r.size
  clear oi3r b3r
  obtain ⟨pu3, cu3, hu3⟩ := ownForm I3.out
  rw [HRN.out] at hu3
  subst hu3
  go_wp2_with fail
  refine (impl_runMachine _ _ l0 RD a2 _ S3r.out HO.out I3.out.reads (HT.out.keep B3r.out)).mono ?_
  rw [HLL.out]
  dsimp only [GivesTld]
  rintro e w4 ⟨g1, rfl, oo1, b4⟩
  have O1 : Hid (OwnInts w4 w3r.heap.size g1 L) := oo1
  have O04 : Hid (OwnInts w4 w1r.heap.size g0 L) := O03r.out.keep b4
  have I4 : Hid (OwnInts w4 w3.heap.size (.slice pu3 rn cu3) RD) := I3.out.keep b4
  have H34 : Hid (Below w3.heap.size w3 w4) := Bel.after H33.out b4
  have hs3r4 : w3r.heap.size ≤ w4.heap.size := b4.size
  clear b4 oo1
  go_wp2_with fail
  refine (eqIntS_any g1 g0 _ _ _ O1.out.at O04.out.at).mono ?_
  rintro e w5 ⟨rfl, b5⟩
  have O15 : Hid (OwnInts w5 w3r.heap.size g1 L) := O1.out.keep b5
  have O05 : Hid (OwnInts w5 w1r.heap.size g0 L) := O04.out.keep b5
  have I5 : Hid (OwnInts w5 w3.heap.size (.slice pu3 rn cu3) RD) := I4.out.keep b5
  have H35 : Hid (Below w3.heap.size w3 w5) := Bel.after H34.out b5
  have B5 : Hid (Below w.heap.size w w5) := Bel.after B3.out H35.out
  have hs45 := b5.size
  clear b5 H34
  go_wp2_with fail
  refine (toStepS_any _ l0 _ (places_keep HL.out (Keeps.of_below B5.out 0)) HLS.out).mono ?_
  rintro e w6 ⟨v6, rfl, s6, b6, _⟩
  have S6 : Hid (StepsAt w6 v6 l0) := s6.low (Nat.zero_le _) (fun _ _ _ h => h)
  have H36 : Hid (Below w3.heap.size w3 w6) := Bel.after H35.out b6
  have S36 : Hid (StepsAt w6 (.slice p3 n0 c3) l0) := places_keep S3.out (Keeps.of_below H36.out 0)
  have O16 : Hid (OwnInts w6 w3r.heap.size g1 L) := O15.out.keep b6
  have O06 : Hid (OwnInts w6 w1r.heap.size g0 L) := O05.out.keep b6
  have I6 : Hid (OwnInts w6 w3.heap.size (.slice pu3 rn cu3) RD) := I5.out.keep b6
  have hs56 := b6.size
  clear s6 b6
  obtain ⟨p6, c6, hv6, _⟩ := id S6.out
  rw [HN.out] at hv6
  subst hv6
  go_wp2_with fail
  refine (eqStepS_same _ _ l0 _ S36.out S6.out).mono ?_
  rintro e w7 ⟨rfl, b7⟩
  have O17 : Hid (OwnInts w7 w3r.heap.size g1 L) := O16.out.keep b7
  have O07 : Hid (OwnInts w7 w1r.heap.size g0 L) := O06.out.keep b7
  have I7 : Hid (OwnInts w7 w3.heap.size (.slice pu3 rn cu3) RD) := I6.out.keep b7
  have H37 : Hid (Below w3.heap.size w3 w7) := Bel.after H36.out b7
  have B7 : Hid (Below w.heap.size w w7) := Bel.after B3.out H37.out
  have hs67 := b7.size
  clear b7
  go_wp2_with fail
  refine (toIntS_any a1 len1 cap1 z1 _ (HRW.out.after B7.out) hlr).mono ?_
  rw [HRD.out]
  rintro e w7r ⟨u7, rfl, oi7r, b7r⟩
  have I77 : Hid (IntsAt w7r u7 RD) := oi7r.at
  have I7r : Hid (OwnInts w7r w3.heap.size (.slice pu3 rn cu3) RD) := I7.out.keep b7r
  have O17r : Hid (OwnInts w7r w3r.heap.size g1 L) := O17.out.keep b7r
  have O07r : Hid (OwnInts w7r w1r.heap.size g0 L) := O07.out.keep b7r
  have H37r : Hid (Below w3.heap.size w3 w7r) := Bel.after H37.out b7r
  have hs77 := b7r.size
  clear oi7r b7r
  go_wp2_with fail
  refine (eqIntS_any _ u7 _ _ _ I7r.out.at I77.out).mono ?_
  rintro e w8 ⟨rfl, b8⟩
  have I8 : Hid (OwnInts w8 w3.heap.size (.slice pu3 rn cu3) RD) := I7r.out.keep b8
  have O18 : Hid (OwnInts w8 w3r.heap.size g1 L) := O17r.out.keep b8
  have O08 : Hid (OwnInts w8 w1r.heap.size g0 L) := O07r.out.keep b8
  have H38 : Hid (Below w3.heap.size w3 w8) := Bel.after H37r.out b8
  have hs38 : w3.heap.size ≤ w8.heap.size := H38.out.size
  have hs78 := b8.size
  clear b8
  have M8 : Hid (MarkAt w2.heap.size w3.heap.size 5 InsM w8 (.slice p3 n0 c3) n0) := by
    have h := marksOfSteps2 S3L.out H38.out
    rw [HN.out] at h
    exact h
  have T8 : Hid (Thaw w2.heap.size w3.heap.size w8) := fun p h1 h2 => by
    rw [H38.out.frozen h2]
    exact Z3.out.new h1
  have hn0 : n0 ≤ 1048576 := by rw [← HN.out]; exact HLS.out
  go_wp2_with fail
  refine (markStepS_any w2.heap.size w3.heap.size _ n0 1 _ M8.out T8.out hn0 (by omega) (by omega)).mono ?_
  rintro e w9 ⟨z, rfl, hz0, hz1, tk⟩
  have MK : Hid (Marked w2.heap.size w3.heap.size w8 w9) := ⟨tk.bel, fun k h1 _ => tk.above k h1⟩
  have O19 : Hid (OwnInts w9 w3r.heap.size g1 L) := O18.out.marked MK.out (fun b hb => .inr (by have := (O18.out.lt b hb).1; omega))
  have O09 : Hid (OwnInts w9 w1r.heap.size g0 L) := O08.out.marked MK.out (fun b hb => .inl (O0.out.lt b hb).2)
  have I9 : Hid (OwnInts w9 w3.heap.size (.slice pu3 rn cu3) RD) := I8.out.marked MK.out (fun b hb => .inr (I8.out.lt b hb).1)
  have B9 : Hid (Below w.heap.size w w9) := (Bel.after B3.out H38.out).trans (tk.bel.mono B2.out.size)
  have hs9 : w3.heap.size ≤ w9.heap.size := by have := tk.bel.size; omega
  have hs89 := tk.bel.size
  clear tk
  go_wp2_with fail
  refine (markIntS_apart w3.heap.size (.slice pu3 rn cu3) RD z _ I9.out hs9 (by omega) (by rw [HRN.out]; omega)).mono ?_
  rw [HRN.out]
  rintro e w10 ⟨rfl, b10, _, a10⟩
  have O110 : Hid (OwnInts w10 w3r.heap.size g1 L) := O19.out.apartM a10 (fun b h1 h2 => by have := (O1.out.lt b h2).1; have := (I3.out.lt b h1).2; omega)
  have O010 : Hid (OwnInts w10 w1r.heap.size g0 L) := O09.out.apartM a10 (fun b h1 h2 => by have := (O0.out.lt b h2).2; have := (I3.out.lt b h1).1; omega)
  have B10 : Hid (Below w.heap.size w w10) := B9.out.trans (b10.mono B3.out.size)
  have hs10 : w3r.heap.size ≤ w10.heap.size := by have h1 := b10.size; omega
  have hzz : ¬ z + (rn : Int) < 0 := by omega
  clear b10 a10
  go_wp2_with fail
  refine (eqIntS_any g1 g0 _ _ _ O110.out.at O010.out.at).mono ?_
  rintro e w11 ⟨rfl, b11⟩
  have O111 : Hid (OwnInts w11 w3r.heap.size g1 L) := O110.out.keep b11
  have O011 : Hid (OwnInts w11 w1r.heap.size g0 L) := O010.out.keep b11
  have B11 : Hid (Below w.heap.size w w11) := Bel.after B10.out b11
  have hs11 : w3r.heap.size ≤ w11.heap.size := Nat.le_trans hs10 b11.size
  clear b11
  obtain ⟨ln, HLN⟩ : ∃ ln, Hid (L.length = ln) := ⟨_, rfl⟩
  have hln : ln ≤ 50000 := by rw [← HLN.out]; exact hlen
  go_wp2_with fail
  refine (markIntS_own w3r.heap.size g1 L 1 _ O111.out hs11 (by omega) (by omega)).mono ?_
  rintro e w12 ⟨rfl, b12, r12⟩
  rw [HLN.out] at r12 ⊢
  have R12 : Hid (IntsAt w12 g1 (marks 1 ln)) := r12
  have R012 : Hid (IntsAt w12 g0 L) := O011.out.at.under b12 (fun b hb => by have := (O0.out.lt b hb).2; omega)
  have B12 : Hid (Below w.heap.size w w12) := B11.out.trans (b12.mono (by have := B3.out.size; omega))
  clear b12 r12
  go_wp2_with fail
  refine (heldIntS_any g1 ln 1 _ R12.out (by omega) (by omega)).mono ?_
  rintro e w12' ⟨rfl, hw12⟩
  subst hw12
  go_wp2_with fail
  refine (toStepS_any _ l0 _ (places_keep HL.out (Keeps.of_below B12.out 0)) HLS.out).mono ?_
  rintro e w13 ⟨v13, rfl, s13, b13, _⟩
  have S13 : Hid (StepsAt w13 v13 l0) := s13.low (Nat.zero_le _) (fun _ _ _ h => h)
  have R13 : Hid (IntsAt w13 g1 (marks 1 ln)) := R12.out.keep b13
  have R013 : Hid (IntsAt w13 g0 L) := R012.out.keep b13
  have B13 : Hid (Below w.heap.size w w13) := Bel.after B12.out b13
  clear s13 b13
  obtain ⟨p13, c13, hv13, _⟩ := id S13.out
  rw [HN.out] at hv13
  subst hv13
  go_wp2_with fail
  refine (toIntS_any a1 len1 cap1 z1 _ (HRW.out.after B13.out) hlr).mono ?_
  rw [HRD.out]
  rintro e w13r ⟨u13, rfl, oi13r, b13r⟩
  have I13 : Hid (OwnInts w13r w13.heap.size u13 RD) := oi13r
  have S13r : Hid (StepsAt w13r (.slice p13 n0 c13) l0) := places_keep S13.out (Keeps.of_below b13r 0)
  have R13r : Hid (IntsAt w13r g1 (marks 1 ln)) := R13.out.keep b13r
  have R013r : Hid (IntsAt w13r g0 L) := R013.out.keep b13r
  have B13r : Hid (Below w.heap.size w w13r) := Bel.after B13.out b13r
  clear oi13r b13r
  obtain ⟨pu13, cu13, hu13⟩ := ownForm I13.out
  rw [HRN.out] at hu13
  subst hu13
  go_wp2_with fail
  refine (impl_runMachine _ _ l0 RD a2 _ S13r.out HO.out I13.out.reads (HT.out.keep B13r.out)).mono ?_
  rw [HLL.out]
  dsimp only [GivesTld]
  rintro e w14 ⟨g2, rfl, oo2, b14⟩
  have O2 : Hid (OwnInts w14 w13r.heap.size g2 L) := oo2
  have R14 : Hid (IntsAt w14 g1 (marks 1 ln)) := R13r.out.keep b14
  have R014 : Hid (IntsAt w14 g0 L) := R013r.out.keep b14
  have B14 : Hid (Below w.heap.size w w14) := Bel.after B13r.out b14
  clear b14 oo2
  go_wp2_with fail
  refine (eqIntS_any g2 g0 _ _ _ O2.out.at R014.out).mono ?_
  rintro e w15 ⟨rfl, b15⟩
  have R15 : Hid (IntsAt w15 g1 (marks 1 ln)) := R14.out.keep b15
  have B15 : Hid (Below w.heap.size w w15) := Bel.after B14.out b15
  clear b15
  go_wp2_with fail
  refine (heldIntS_any g1 ln 1 _ R15.out (by omega) (by omega)).mono ?_
  rintro e w15' ⟨rfl, hw15⟩
  subst hw15
  go_wp2_with fail
  go_ret
  exact ⟨rfl, B15.out⟩

set_option maxRecDepth 100000 in
theorem lifted (os : Os) (started : os.Started) (H : Type) (enc : TypeId × Value → H) :
    ReturnsInHanded {} Tryd.checked os 6 .any (fun w args => (Rows.fnExactRunMachineSpec.pre enc Tryd.prog Tryd.f6 [] false w args ∧ laidMetH Tryd.prog Rows.fnExactRunMachineRow.laid w) ∧ sizedMet enc Tryd.prog Tryd.f6 (OpenSpec.ofChange Rows.fnExactRunMachineSpec) false w args)
      (Rows.fnExactRunMachineSpec.post enc Tryd.prog Tryd.f6 false true false false) := by
  refine returnsInHanded_of_change_and (C := Tryd.checked) (X := fun w _ => laidMetH Tryd.prog Rows.fnExactRunMachineRow.laid w) (fun _ _ _ hh h => h.of_heap hh) own started (by kernel_rfl) Tryd.func6
    (ChangeSpec.witness_shaped (enc := enc) (C := Tryd.checked) (os := os) (X := fun w _ => laidMetH Tryd.prog Rows.fnExactRunMachineRow.laid w) false (World.doorLaid Tryd.prog 400 os) #[.slice none 0 0, .slice none 0 0, .int .i64 0] 8 rfl (World.shaped_of_RefB (by kernel_rfl) (by kernel_rfl)) (by kernel_rfl) (by kernel_rfl) (by kernel_rfl) (door_met os _)) ?_
  intro W base args ds gs before hval0 hW _ _ hL _
  have hval : ∀ (j : Nat) t v, Tryd.f6.params[j]? = some t → args[j]? = some v → Value.okWide Tryd.prog W .any base t v := hval0
  have hW' := hW
  obtain ⟨p, q, hA0, hV0, rfl, hfz, hnd⟩ := hW
  have hA : DataW.TrodAll enc Tryd.prog W 0 (fun _ => true) true Tryd.f6.params.toList args.toList ds p := hA0
  rw [Tryd.params6] at hA hval
  obtain ⟨v0, vs0, d0, ds0, p0, q0, hargs, rfl, rfl, h0, r0x⟩ := trodAll_cons hA
  obtain ⟨v1, vs1, d1, ds1, p1, q1, rfl, rfl, rfl, h1, r1x⟩ := trodAll_cons r0x
  obtain ⟨v2, vs2, d2, ds2, p2, q2, rfl, rfl, rfl, h2, r2x⟩ := trodAll_cons r1x
  obtain ⟨rfl, rfl, rfl⟩ := trodAll_nil r2x
  obtain rfl : args = #[v0, v1, v2] := by cases args; simp_all
  have hV : DataW.TrodVars enc Tryd.prog W (fun _ => true) [tabName] gs q := hV0
  obtain ⟨g, t, cs, fuel, dv, pv, rfl, hg, ht, hvar, hd, rfl⟩ := trodVars_one hV
  obtain rfl := Option.some.inj (gTab.symm.trans hg)
  obtain rfl := Option.some.inj (tTab.symm.trans ht)
  have hT := of_laid hL
  have hlt0 : 0 < W.heap.size := World.block_lt_of_cell? W _ (hT 0 (by omega)).1
  have hltv : ∀ x ∈ pv, x.block < W.heap.size := fun x hx => hW'.lt x (List.mem_append_right _ (List.mem_append_right _ hx))
  have k0 := h0
  have lt0 : ∀ x ∈ p0, x.block < W.heap.size := by obtain ⟨m, hm⟩ := k0; exact DataW.trod_lt m _ _ _ hm
  have k1 := h1
  have lt1 : ∀ x ∈ p1, x.block < W.heap.size := by obtain ⟨m, hm⟩ := k1; exact DataW.trod_lt m _ _ _ hm
  have k2 := h2
  have lt2 : ∀ x ∈ p2, x.block < W.heap.size := by obtain ⟨m, hm⟩ := k2; exact DataW.trod_lt m _ _ _ hm
  obtain ⟨a0, len0, cap0, rfl⟩ := okWide_slice Tryd.underlying32 (hval 0 32 v0 rfl rfl)
  obtain ⟨l0, r0, o0⟩ := openStepsR h0
  obtain ⟨a1, len1, cap1, rfl⟩ := okWide_slice Tryd.underlying39 (hval 1 39 v1 rfl rfl)
  obtain ⟨z1, r1⟩ : ∃ zs, IsRow .i64 W a1 len1 cap1 zs := by
    obtain ⟨fuel, hf⟩ := h1
    rcases open_ints Tryd.underlying39 Tryd.underlying3 (by kernel_rfl) hf with ⟨hcs, _⟩ | ⟨x, l, c, zs, hcs, _, hl, hm, hz, _, hcell, hwz⟩
    · simp [Value.cells] at hcs
      obtain ⟨rfl, rfl, rfl⟩ := hcs
      exact ⟨[], .inl ⟨rfl, rfl, rfl, rfl⟩⟩
    · simp [Value.cells] at hcs
      obtain ⟨rfl, rfl, rfl⟩ := hcs
      exact ⟨zs, .inr ⟨_, rfl, hl, hm, by simpa using hz, hcell, hwz⟩⟩
  obtain ⟨a2, rfl, _, _, wf2⟩ := open_int Tryd.underlying3 (hval 2 3 v2 rfl rfl) h2
  clear hA0 hV0 hval0
  refine (walk W a0 len0 cap0 l0 r0 o0 a1 len1 cap1 z1 r1 a2 wf2 hT).mono fun e W' ⟨he, bel⟩ => ?_
  subst he
  exact ⟨_, rfl, _, _, _, [], _, (MemPlace.row ⟨0, 0, none⟩ cs.size ++ pv), hW', trodAll_mk1 (shut_bool Tryd.underlying4 _), (trodAll_cons_mk (Below.trod laidOut (by kernel_rfl) (of_decide_eq_true (by kernel_rfl)) k0 bel lt0) (trodAll_cons_mk (Below.trod laidOut (by kernel_rfl) (of_decide_eq_true (by kernel_rfl)) k1 bel lt1) (trodAll_cons_mk (Below.trod laidOut (by kernel_rfl) (of_decide_eq_true (by kernel_rfl)) k2 bel lt2) trodAll_mk0))), vars_again hvar hd hltv hlt0 bel, bel.frame _, fun h => by cases h⟩

theorem over : Rows.fnExactRunMachineRow.holds Tryd.pinned (OpenSpec.ofChange Rows.fnExactRunMachineSpec) :=
  OpenClaim.holds_of_wide 6 Tryd.f6 rfl rfl rfl rfl rfl rfl rfl ⟨rfl, rfl, rfl, rfl, rfl⟩ rfl rfl rfl rfl rfl (by kernel_rfl) Tryd.func6 (by kernel_rfl)
    (of_decide_eq_true (by kernel_rfl)) (by unfold Func.isWrapper; first | (rw [if_pos (by decide +kernel)]; kernel_rfl) | (rw [if_neg (by decide +kernel)]; exact ⟨rfl, rfl⟩))
    (fun os started H enc _ => lifted os started H enc)

/-- The card: the row, its listed variable tied to the program's text. -/
theorem proved : Rows.FnExactRunMachineCardSaid :=
  Claim7.holds_tied_plain_at .later [] [.data] true Rows.fnExactRunMachineCard.stood.harness Rows.fnExactRunMachineCard.stood.looks
    over (fun _ h => by cases h) (by kernel_rfl) (fun _ h => by cases h) fnExactRunMachine_row_tie rfl ⟨rfl, rfl⟩ (by kernel_rfl) rfl
    (fun f fn hf hfn => by
      obtain rfl : f = 6 := Option.some.inj ((show Tryd.prog.funcNamed Rows.fnExactRunMachineRow.func = some 6 by kernel_rfl).symm.trans hf) |>.symm
      obtain rfl : fn = Tryd.f6 := (Option.some.inj (Tryd.func6.symm.trans hfn)).symm
      exact ⟨by kernel_rfl, fun j t ht => by
        rw [Tryd.params6] at ht
        have hm : t ∈ [32, 39, 3] := by simpa using Array.mem_of_getElem? ht
        have hall : ([32, 39, 3].all fun u => !Tryd.prog.wantsStandIn u) = true := by kernel_rfl
        exact (show Tryd.prog.wantsStandIn t = false by simpa using List.all_eq_true.1 hall t hm)⟩)
    (by kernel_rfl)
#print axioms proved
end Go.Proofs.YtebcocehdjoafaaDoor.fnExactRunMachine
