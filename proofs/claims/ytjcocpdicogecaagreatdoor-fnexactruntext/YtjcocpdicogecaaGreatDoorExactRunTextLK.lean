/- Proved: at every text and every list of numbers of at most 1048576 each, with any fuel, RunText answers as the model does, writes into no argument, and its answer owns its memory; no condition on the input; the card ties the listed variables to the program's text. -/
import Derived.Test.YtjcocpdicogecaaGreatDoorRows
import Derived.Test.YtjcocpdicogecaaGreatDoorTxLdK
import Derived.Test.YtjcocpdicogecaaGreatDoorTie
import Derived.Test.YtjcocpdicogecaaGreatDoorCards
import Derived.SevenTiedAt
import Derived.Test.YtjcocpdicogecaaGreatDoorKTx4
import Derived.WalkKit
import Derived.ProofKit
import Derived.OpenShut
import Derived.ShutString
import Derived.ChangeOld
import Derived.Below
namespace Go.Proofs.YtjcocpdicogecaaGreatDoor.fnExactRunText
open Go.ChangeShapes Go.WideShapes Go.ChangeAt Go.RowKit
open Go.ChangeMaps (open_string shut_string)
set_option linter.unusedVariables false

theorem laidOut : laidOutB Tryz.prog = true := by kernel_rfl

set_option maxHeartbeats 4000000 in
theorem walk (w : World) (s0 : ByteArray) (a1 : Option Addr) (len1 cap1 : Nat) (z1 : List Int) (r1 : IsRow .i64 w a1 len1 cap1 z1) (a2 : Int) (wf2 : (Lit.int .i64 a2).wf = true) (EP : Addr) (hT : Libs w EP) :
    Calls Tryz.prog 4 #[.string s0, .slice a1 len1 cap1, .int .i64 a2] w fun e w' => e = .returned (.bool true) ∧ Below w.heap.size w w' := by
  obtain ⟨t, rfl⟩ : ∃ t, s0 = bs t := ⟨s0.data.toList, (bs_of s0).symm⟩
  have HT : Hid (Libs w EP) := hT
  have HRW : Hid (IsRow .i64 w a1 len1 cap1 z1) := r1
  clear hT r1
  obtain ⟨m, HM⟩ : ∃ m, Hid (t.length = m) := ⟨_, rfl⟩
  have hsz : (bs t).size = m := by rw [bs_size, HM.out]
  obtain ⟨RD, HRD⟩ : ∃ L, Hid (z1.take len1 = L) := ⟨_, rfl⟩
  have HRL : Hid (RD.length ≤ len1) := by show RD.length ≤ len1; rw [← HRD.out, List.length_take]; omega
  obtain ⟨⟨L, hw, en⟩, HLL⟩ : ∃ p, Hid (macOf wordV (parseOf t) RD a2 = p) := ⟨_, rfl⟩
  have hlen : L.length ≤ 50000 := by have h := macOf_len (parseOf t) RD a2; rw [HLL.out] at h; exact h
  have hd : decide (L = L) = true := by simp
  have hdr : decide (RD = RD) = true := by simp
  have hdw : (hw != hw) = false := by simp
  have hde : (en != en) = false := by simp
  obtain ⟨rn, HRN⟩ : ∃ n, Hid (RD.length = n) := ⟨_, rfl⟩
  by_cases hbigt : (1048576 : Int) < (m : Int)
  · go_enter Tryz.func4, Tryz.ntmps4
    go_wp2_with fail
    go_ret
    exact ⟨rfl, Below.refl _ _⟩
  have HLM : Hid (t.length ≤ 1048576) := by show _ ≤ _; rw [HM.out]; omega
  by_cases hbig : (1048576 : Int) < (len1 : Int)
  · go_enter Tryz.func4, Tryz.ntmps4
    go_wp2_with fail
    go_ret
    exact ⟨rfl, Below.refl _ _⟩
  have hlr : len1 ≤ 1048576 := by omega
  have HLR : Hid (RD.length ≤ 2000000) := by have := HRL.out; show RD.length ≤ 2000000; omega
  have hrn : rn ≤ 2000000 := by rw [← HRN.out]; exact HLR.out
  go_enter Tryz.func4, Tryz.ntmps4
  go_wp2_with fail
  refine (toIntS_any a1 len1 cap1 z1 _ (HRW.out.after (Below.refl _ _)) hlr).mono ?_
  rw [HRD.out]
  rintro e w1r ⟨u1, rfl, oi1r, b1r⟩
  have I1 : Hid (OwnInts w1r w.heap.size u1 RD) := oi1r
  have B1r : Hid (Below w.heap.size w w1r) := b1r
  clear oi1r b1r
  obtain ⟨pu1, cu1, hu1⟩ := ownForm I1.out
  rw [HRN.out] at hu1
  subst hu1
  go_wp2_with fail
  refine (spec_runText t _ RD a2 _ HLM.out HLR.out I1.out.reads).mono ?_
  rw [HLL.out]
  dsimp only [GivesTld]
  rintro e w2 ⟨g0, rfl, oo0, b2⟩
  have O0 : Hid (OwnInts w2 w1r.heap.size g0 L) := oo0
  have B2 : Hid (Below w.heap.size w w2) := Bel.after B1r.out b2
  have hs12 : w1r.heap.size ≤ w2.heap.size := b2.size
  clear b2 oo0
  go_wp2_with fail
  refine (toIntS_any a1 len1 cap1 z1 _ (HRW.out.after B2.out) hlr).mono ?_
  rw [HRD.out]
  rintro e w3r ⟨u3, rfl, oi3r, b3r⟩
  have I3 : Hid (OwnInts w3r w2.heap.size u3 RD) := oi3r
  have H33 : Hid (Below w2.heap.size w2 w3r) := b3r
  have B3r : Hid (Below w.heap.size w w3r) := Bel.after B2.out b3r
  have O03r : Hid (OwnInts w3r w1r.heap.size g0 L) := O0.out.keep b3r
  have hs33 : w2.heap.size ≤ w3r.heap.size := b3r.size
  clear oi3r b3r
  obtain ⟨pu3, cu3, hu3⟩ := ownForm I3.out
  rw [HRN.out] at hu3
  subst hu3
  go_wp2_with fail
  refine (impl_runText EP t _ RD a2 _ HLM.out I3.out.reads (HT.out.keep B3r.out)).mono ?_
  rw [HLL.out]
  dsimp only [GivesTld]
  rintro e w4 ⟨g1, rfl, oo1, b4⟩
  have O1 : Hid (OwnInts w4 w3r.heap.size g1 L) := oo1
  have O04 : Hid (OwnInts w4 w1r.heap.size g0 L) := O03r.out.keep b4
  have I4 : Hid (OwnInts w4 w2.heap.size (.slice pu3 rn cu3) RD) := I3.out.keep b4
  have H34 : Hid (Below w2.heap.size w2 w4) := Bel.after H33.out b4
  have hs3r4 : w3r.heap.size ≤ w4.heap.size := b4.size
  clear b4 oo1
  go_wp2_with fail
  refine (eqIntS_any g1 g0 _ _ _ O1.out.at O04.out.at).mono ?_
  rintro e w7 ⟨rfl, b7⟩
  have O17 : Hid (OwnInts w7 w3r.heap.size g1 L) := O1.out.keep b7
  have O07 : Hid (OwnInts w7 w1r.heap.size g0 L) := O04.out.keep b7
  have I7 : Hid (OwnInts w7 w2.heap.size (.slice pu3 rn cu3) RD) := I4.out.keep b7
  have H37 : Hid (Below w2.heap.size w2 w7) := Bel.after H34.out b7
  have B7 : Hid (Below w.heap.size w w7) := Bel.after B2.out H37.out
  have hs47 := b7.size
  clear b7
  go_wp2_with fail
  refine (toIntS_any a1 len1 cap1 z1 _ (HRW.out.after B7.out) hlr).mono ?_
  rw [HRD.out]
  rintro e w7r ⟨u7, rfl, oi7r, b7r⟩
  have I77 : Hid (IntsAt w7r u7 RD) := oi7r.at
  have I7r : Hid (OwnInts w7r w2.heap.size (.slice pu3 rn cu3) RD) := I7.out.keep b7r
  have O17r : Hid (OwnInts w7r w3r.heap.size g1 L) := O17.out.keep b7r
  have O07r : Hid (OwnInts w7r w1r.heap.size g0 L) := O07.out.keep b7r
  have H37r : Hid (Below w2.heap.size w2 w7r) := Bel.after H37.out b7r
  have hs77 := b7r.size
  clear oi7r b7r
  go_wp2_with fail
  refine (eqIntS_any _ u7 _ _ _ I7r.out.at I77.out).mono ?_
  rintro e w8 ⟨rfl, b8⟩
  have I8 : Hid (OwnInts w8 w2.heap.size (.slice pu3 rn cu3) RD) := I7r.out.keep b8
  have O18 : Hid (OwnInts w8 w3r.heap.size g1 L) := O17r.out.keep b8
  have O08 : Hid (OwnInts w8 w1r.heap.size g0 L) := O07r.out.keep b8
  have H38 : Hid (Below w2.heap.size w2 w8) := Bel.after H37r.out b8
  have B8 : Hid (Below w.heap.size w w8) := Bel.after B2.out H38.out
  have hs38 : w2.heap.size ≤ w8.heap.size := H38.out.size
  have hs38r : w3r.heap.size ≤ w8.heap.size := by have := b8.size; omega
  clear b8
  go_wp2_with fail
  refine (markIntS_apart w2.heap.size (.slice pu3 rn cu3) RD 1 _ I8.out hs38 (by omega) (by rw [HRN.out]; omega)).mono ?_
  rw [HRN.out]
  rintro e w10 ⟨rfl, b10, _, a10⟩
  have O110 : Hid (OwnInts w10 w3r.heap.size g1 L) := O18.out.apartM a10 (fun b h1 h2 => by have := (O1.out.lt b h2).1; have := (I3.out.lt b h1).2; omega)
  have O010 : Hid (OwnInts w10 w1r.heap.size g0 L) := O08.out.apartM a10 (fun b h1 h2 => by have := (O0.out.lt b h2).2; have := (I3.out.lt b h1).1; omega)
  have B10 : Hid (Below w.heap.size w w10) := B8.out.trans (b10.mono B2.out.size)
  have hs10 : w3r.heap.size ≤ w10.heap.size := by have h1 := b10.size; omega
  have hzz : ¬ 1 + (rn : Int) < 0 := by omega
  clear b10 a10
  go_wp2_with fail
  refine (eqIntS_any g1 g0 _ _ _ O110.out.at O010.out.at).mono ?_
  rintro e w11 ⟨rfl, b11⟩
  have O111 : Hid (OwnInts w11 w3r.heap.size g1 L) := O110.out.keep b11
  have O011 : Hid (OwnInts w11 w1r.heap.size g0 L) := O010.out.keep b11
  have B11 : Hid (Below w.heap.size w w11) := Bel.after B10.out b11
  have hs11 : w3r.heap.size ≤ w11.heap.size := Nat.le_trans hs10 b11.size
  clear b11
  obtain ⟨ln, HLN⟩ : ∃ ln, Hid (L.length = ln) := ⟨_, rfl⟩
  have hln : ln ≤ 50000 := by rw [← HLN.out]; exact hlen
  go_wp2_with fail
  refine (markIntS_own w3r.heap.size g1 L 1 _ O111.out hs11 (by omega) (by omega)).mono ?_
  rintro e w12 ⟨rfl, b12, r12⟩
  rw [HLN.out] at r12 ⊢
  have R12 : Hid (IntsAt w12 g1 (marks 1 ln)) := r12
  have R012 : Hid (IntsAt w12 g0 L) := O011.out.at.under b12 (fun b hb => by have := (O0.out.lt b hb).2; omega)
  have B12 : Hid (Below w.heap.size w w12) := B11.out.trans (b12.mono (by have := B2.out.size; omega))
  clear b12 r12
  go_wp2_with fail
  refine (heldIntS_any g1 ln 1 _ R12.out (by omega) (by omega)).mono ?_
  rintro e w12' ⟨rfl, hw12⟩
  subst hw12
  go_wp2_with fail
  refine (toIntS_any a1 len1 cap1 z1 _ (HRW.out.after B12.out) hlr).mono ?_
  rw [HRD.out]
  rintro e w13r ⟨u13, rfl, oi13r, b13r⟩
  have I13 : Hid (OwnInts w13r w12'.heap.size u13 RD) := oi13r
  have R13r : Hid (IntsAt w13r g1 (marks 1 ln)) := R12.out.keep b13r
  have R013r : Hid (IntsAt w13r g0 L) := R012.out.keep b13r
  have B13r : Hid (Below w.heap.size w w13r) := Bel.after B12.out b13r
  clear oi13r b13r
  obtain ⟨pu13, cu13, hu13⟩ := ownForm I13.out
  rw [HRN.out] at hu13
  subst hu13
  go_wp2_with fail
  refine (impl_runText EP t _ RD a2 _ HLM.out I13.out.reads (HT.out.keep B13r.out)).mono ?_
  rw [HLL.out]
  dsimp only [GivesTld]
  rintro e w14 ⟨g2, rfl, oo2, b14⟩
  have O2 : Hid (OwnInts w14 w13r.heap.size g2 L) := oo2
  have R14 : Hid (IntsAt w14 g1 (marks 1 ln)) := R13r.out.keep b14
  have R014 : Hid (IntsAt w14 g0 L) := R013r.out.keep b14
  have B14 : Hid (Below w.heap.size w w14) := Bel.after B13r.out b14
  clear b14 oo2
  go_wp2_with fail
  refine (eqIntS_any g2 g0 _ _ _ O2.out.at R014.out).mono ?_
  rintro e w15 ⟨rfl, b15⟩
  have R15 : Hid (IntsAt w15 g1 (marks 1 ln)) := R14.out.keep b15
  have B15 : Hid (Below w.heap.size w w15) := Bel.after B14.out b15
  clear b15
  go_wp2_with fail
  refine (heldIntS_any g1 ln 1 _ R15.out (by omega) (by omega)).mono ?_
  rintro e w16 ⟨rfl, hw16⟩
  subst hw16
  go_wp2_with fail
  go_ret
  exact ⟨rfl, B15.out⟩

set_option maxRecDepth 100000 in
theorem lifted (os : Os) (started : os.Started) (H : Type) (enc : TypeId × Value → H) :
    ReturnsInHanded {} Tryz.checked os 4 .any (fun w args => (Rows.fnExactRunTextSpec.pre enc Tryz.prog Tryz.f4 [] false w args ∧ laidMetH Tryz.prog Rows.fnExactRunTextRow.laid w) ∧ sizedMet enc Tryz.prog Tryz.f4 (OpenSpec.ofChange Rows.fnExactRunTextSpec) false w args)
      (Rows.fnExactRunTextSpec.post enc Tryz.prog Tryz.f4 false true false false) := by
  refine returnsInHanded_laid_shaped (C := Tryz.checked) (X := fun w _ => laidMetH Tryz.prog Rows.fnExactRunTextRow.laid w) (fun _ _ _ hh h => h.of_heap hh) own started (by kernel_rfl) Tryz.func4
    (ChangeSpec.witness_shaped (enc := enc) (C := Tryz.checked) (os := os) (X := fun w _ => laidMetH Tryz.prog Rows.fnExactRunTextRow.laid w) false (World.laidAll Tryz.prog os Rows.fnExactRunTextRow.laid) #[.string ⟨#[]⟩, .slice none 0 0, .int .i64 0] 8 (World.laidAll_os _ _ _)
      (World.shaped_of_ZipB (by kernel_rfl) (by kernel_rfl)) (by kernel_rfl) (by kernel_rfl) (by kernel_rfl)
      (by rw [MakeChecks.laidMetH_plain _ _ _ (by kernel_rfl)]; exact laidMet_laidAll _ (by kernel_rfl) (by kernel_rfl))) ?_
  intro W base args ds gs before hval0 hW hL hsh
  have hval : ∀ (j : Nat) t v, Tryz.f4.params[j]? = some t → args[j]? = some v → Value.okWide Tryz.prog W .any base t v := hval0
  have hW' := hW
  obtain ⟨p, q, hA0, hV0, rfl, hfz, hnd⟩ := hW
  have hA : DataW.TrodAll enc Tryz.prog W 0 (fun _ => true) true Tryz.f4.params.toList args.toList ds p := hA0
  rw [Tryz.params4] at hA hval
  obtain ⟨v0, vs0, d0, ds0, p0, q0, hargs, rfl, rfl, h0, r0x⟩ := trodAll_cons hA
  obtain ⟨v1, vs1, d1, ds1, p1, q1, rfl, rfl, rfl, h1, r1x⟩ := trodAll_cons r0x
  obtain ⟨v2, vs2, d2, ds2, p2, q2, rfl, rfl, rfl, h2, r2x⟩ := trodAll_cons r1x
  obtain ⟨rfl, rfl, rfl⟩ := trodAll_nil r2x
  obtain rfl : args = #[v0, v1, v2] := by cases args; simp_all
  have hV : DataW.TrodVars enc Tryz.prog W (fun _ => true) Rows.fnExactRunTextSpec.vars gs q := hV0
  obtain ⟨gv0, gv1, gv2, gv3, rfl⟩ := trodVars_four hV
  obtain ⟨EP, hT⟩ := libs_of hL hsh
  have k0 := h0
  have lt0 : ∀ x ∈ p0, x.block < W.heap.size := by obtain ⟨m, hm⟩ := k0; exact DataW.trod_lt m _ _ _ hm
  have k1 := h1
  have lt1 : ∀ x ∈ p1, x.block < W.heap.size := by obtain ⟨m, hm⟩ := k1; exact DataW.trod_lt m _ _ _ hm
  have k2 := h2
  have lt2 : ∀ x ∈ p2, x.block < W.heap.size := by obtain ⟨m, hm⟩ := k2; exact DataW.trod_lt m _ _ _ hm
  obtain ⟨s0, rfl, _, _, _⟩ := open_string Tryz.underlying9 (hval 0 9 v0 rfl rfl) h0
  obtain ⟨a1, len1, cap1, rfl⟩ := okWide_slice Tryz.underlying28 (hval 1 28 v1 rfl rfl)
  obtain ⟨z1, r1⟩ : ∃ zs, IsRow .i64 W a1 len1 cap1 zs := by
    obtain ⟨fuel, hf⟩ := h1
    rcases open_ints Tryz.underlying28 Tryz.underlying3 (by kernel_rfl) hf with ⟨hcs, _⟩ | ⟨x, l, c, zs, hcs, _, hl, hm, hz, _, hcell, hwz⟩
    · simp [Value.cells] at hcs
      obtain ⟨rfl, rfl, rfl⟩ := hcs
      exact ⟨[], .inl ⟨rfl, rfl, rfl, rfl⟩⟩
    · simp [Value.cells] at hcs
      obtain ⟨rfl, rfl, rfl⟩ := hcs
      exact ⟨zs, .inr ⟨_, rfl, hl, hm, by simpa using hz, hcell, hwz⟩⟩
  obtain ⟨a2, rfl, _, _, wf2⟩ := open_int Tryz.underlying3 (hval 2 3 v2 rfl rfl) h2
  clear hA0 hV0 hval0
  refine (walk W s0 a1 len1 cap1 z1 r1 a2 wf2 EP hT).mono fun e W' ⟨he, bel⟩ => ?_
  subst he
  exact ⟨_, rfl, _, _, _, [], _, q, hW', trodAll_mk1 (shut_bool Tryz.underlying4 _), (trodAll_cons_mk (Below.trod laidOut (by kernel_rfl) (of_decide_eq_true (by kernel_rfl)) k0 bel lt0) (trodAll_cons_mk (Below.trod laidOut (by kernel_rfl) (of_decide_eq_true (by kernel_rfl)) k1 bel lt1) (trodAll_cons_mk (Below.trod laidOut (by kernel_rfl) (of_decide_eq_true (by kernel_rfl)) k2 bel lt2) trodAll_mk0))), Below.trodVars laidOut bel (by kernel_rfl) hV, bel.frame _, fun h => by cases h⟩

theorem over : Rows.fnExactRunTextRow.holds Tryz.pinned (OpenSpec.ofChange Rows.fnExactRunTextSpec) :=
  OpenClaim.holds_of_wide 4 Tryz.f4 rfl rfl rfl rfl rfl rfl rfl ⟨rfl, rfl, rfl, rfl, rfl⟩ rfl rfl rfl rfl rfl (by kernel_rfl) Tryz.func4 (by kernel_rfl)
    (of_decide_eq_true (by kernel_rfl)) (by unfold Func.isWrapper; first | (rw [if_pos (by decide +kernel)]; kernel_rfl) | (rw [if_neg (by decide +kernel)]; exact ⟨rfl, rfl⟩))
    (fun os started H enc _ => lifted os started H enc)

/-- The card: the row, its listed variable tied to the program's text. -/
theorem proved : Rows.FnExactRunTextCardSaid :=
  Claim7.holds_tied_plain_at .later [] [.data, .data, .data, .data, .sentinel, .sentinel, .data, .data, .sentinel, .data, .pinned] true Rows.fnExactRunTextCard.stood.harness Rows.fnExactRunTextCard.stood.looks
    over (fun _ h => by cases h) (by kernel_rfl) (fun _ h => by cases h) fnExactRunText_row_tie rfl ⟨rfl, rfl⟩ (by kernel_rfl) rfl
    (fun f fn hf hfn => by
      obtain rfl : f = 4 := Option.some.inj ((show Tryz.prog.funcNamed Rows.fnExactRunTextRow.func = some 4 by kernel_rfl).symm.trans hf) |>.symm
      obtain rfl : fn = Tryz.f4 := (Option.some.inj (Tryz.func4.symm.trans hfn)).symm
      exact ⟨by kernel_rfl, fun j t ht => by
        rw [Tryz.params4] at ht
        have hm : t ∈ [9, 28, 3] := by simpa using Array.mem_of_getElem? ht
        have hall : ([9, 28, 3].all fun u => !Tryz.prog.wantsStandIn u) = true := by kernel_rfl
        exact (show Tryz.prog.wantsStandIn t = false by simpa using List.all_eq_true.1 hall t hm)⟩)
    (by kernel_rfl)
#print axioms proved
end Go.Proofs.YtjcocpdicogecaaGreatDoor.fnExactRunText
