/- Proved: for every program and list of numbers the program's HomesOk answers as the model's, and writes into no argument; no condition. -/
import Derived.Test.YtldcohhifmpedaaGreatRows
import Derived.Test.YtldcohhifmpedaaGreatKIns
import Derived.Test.YtldcohhifmpedaaGreatKTo
import Derived.Test.YtldcohhifmpedaaGreatKEq
import Derived.Test.YtldcohhifmpedaaGreatKOA
import Derived.Test.YtldcohhifmpedaaGreatHmOkK
import Derived.WalkKit
import Derived.ProofKit
import Derived.OpenShut
import Derived.ShutString
import Derived.ChangeOld
import Derived.Below
namespace Go.Proofs.YtldcohhifmpedaaGreat.fnExactHomesOk
open Go.ChangeShapes Go.WideShapes Go.ChangeAt Go.RowKit
open Go.ChangeMaps (open_string shut_string)
set_option linter.unusedVariables false

theorem own : ownKnob Tryz.prog.godebug = none := by kernel_rfl
theorem laidOut : laidOutB Tryz.prog = true := by kernel_rfl

set_option maxHeartbeats 4000000 in
theorem walk (w : World) (v0 : Value) (F0 : FnD) (hF0 : FnAt w v0 F0) (a1 : Option Addr) (len1 cap1 : Nat) (z1 : List Int) (r1 : IsRow .i64 w a1 len1 cap1 z1) :
    Calls Tryz.prog 10 #[v0, .slice a1 len1 cap1] w fun e w' => e = .returned (.bool true) ∧ Below w.heap.size w w' := by
  have HF : Hid (FnAt w v0 F0) := hF0
  have HRW : Hid (IsRow .i64 w a1 len1 cap1 z1) := r1
  obtain ⟨n, HN⟩ : ∃ n, Hid (F0.blocks.length = n) := ⟨_, rfl⟩
  obtain ⟨vals, HV⟩ : ∃ x, Hid (F0.values = x) := ⟨_, rfl⟩
  obtain ⟨ba, bcap, rfl⟩ := hF0.out HN.out HV.out
  clear hF0 r1
  obtain ⟨RD, HRD⟩ : ∃ L, Hid (z1.take len1 = L) := ⟨_, rfl⟩
  obtain ⟨r, HR⟩ : ∃ r, Hid (homesOkOf F0 RD = r) := ⟨_, rfl⟩
  have hd : (r != r) = false := by simp
  obtain ⟨wA, hwA⟩ : ∃ wA, w.alloc (.cells #[.slice ba n bcap, .int .i64 vals] 71) = wA := ⟨_, rfl⟩
  have HwA : Hid (Below w.heap.size w wA) := by rw [← hwA]; exact Bel.alloc _ _
  have b0 : wA.cell? ⟨w.heap.size, 0, none⟩ = some (.slice ba n bcap) := by rw [← hwA]; simp [go_sem]
  have b1' : wA.cell? ⟨w.heap.size, 1, none⟩ = some (.int .i64 vals) := by rw [← hwA]; simp [go_sem]
  by_cases hbig : (1048576 : Int) < (len1 : Int)
  · go_enter Tryz.func10, Tryz.ntmps10
    go_wp2_with fail
    go_ret
    try rw [hwA]
    exact ⟨rfl, HwA.out⟩
  have hlr : len1 ≤ 1048576 := by omega
  go_enter Tryz.func10, Tryz.ntmps10
  go_wp2_with fail
  try rw [hwA]
  clear hwA
  refine (szFn_any _ F0 1048576 _ (HF.out.later HwA.out) (by omega) (by omega)).mono ?_
  rintro e w1 ⟨z, rfl, hr0, hr1, hsm, b1⟩
  have HSM : Hid (0 ≤ z → FnSmall F0) := hsm
  have B1 : Hid (Below wA.heap.size wA w1) := b1
  replace b0 := Bel.keeps b1 b0
  replace b1' := Bel.keeps b1 b1'
  clear b1 hsm
  by_cases hr : z < 0
  · go_wp2_with fail
    go_ret
    exact ⟨rfl, Bel.after HwA.out B1.out⟩
  · have HS : Hid (FnSmall F0) := HSM.out (by omega)
    go_wp2_with fail
    refine (toFn_any _ F0 _ (HF.out.later (Bel.after HwA.out B1.out)) HS.out).mono ?_
    rintro e w2 ⟨v1, rfl, hf1, b2, _⟩
    have F1 : Hid (FnAt w2 v1 F0) := FnAtLo.low (Nat.zero_le _) hf1
    have B2 : Hid (Below wA.heap.size wA w2) := Bel.after B1.out b2
    replace b0 := Bel.keeps b2 b0
    replace b1' := Bel.keeps b2 b1'
    clear b2 hf1
    go_wp2_with fail
    refine (toIntS_any a1 len1 cap1 z1 _ (HRW.out.after (Bel.after HwA.out B2.out)) hlr).mono ?_
    rw [HRD.out]
    rintro e w2b ⟨rv0, rfl, or0, b2b⟩
    have OR0 : Hid (IntsAt w2b rv0 RD) := or0.at
    have F1b : Hid (FnAt w2b v1 F0) := F1.out.later b2b
    have B2b : Hid (Below wA.heap.size wA w2b) := Bel.after B2.out b2b
    replace b0 := Bel.keeps b2b b0
    replace b1' := Bel.keeps b2b b1'
    clear b2b or0
    obtain ⟨p1, c1, rfl⟩ := intsAt_form OR0.out
    obtain ⟨n1, HN1⟩ : ∃ n, Hid (RD.length = n) := ⟨_, rfl⟩
    rw [HN1.out] at OR0 ⊢
    go_wp2_with fail
    refine (spec_homesOk v1 F0 p1 n1 c1 RD _ F1b.out OR0.out).mono ?_
    rintro e w3 ⟨q, rfl, hq, b3⟩
    have eq9 : q = r := (homesOkOf_eq hq).symm.trans HR.out
    subst eq9
    have B3 : Hid (Below wA.heap.size wA w3) := Bel.after B2b.out b3
    replace b0 := Bel.keeps b3 b0
    replace b1' := Bel.keeps b3 b1'
    clear b3 hq
    go_wp2_with fail
    refine (toFn_any _ F0 _ (HF.out.later (Bel.after HwA.out B3.out)) HS.out).mono ?_
    rintro e w4 ⟨v2, rfl, hf2, b4, _⟩
    have F2 : Hid (FnAt w4 v2 F0) := FnAtLo.low (Nat.zero_le _) hf2
    have B4 : Hid (Below wA.heap.size wA w4) := Bel.after B3.out b4
    replace b0 := Bel.keeps b4 b0
    replace b1' := Bel.keeps b4 b1'
    clear b4 hf2
    obtain ⟨ba2, bcap2, rfl⟩ := FnAt.out F2.out HN.out HV.out
    go_wp2_with fail
    obtain ⟨wB, hwB⟩ : ∃ wB, w4.alloc (.cells #[.slice ba2 n bcap2, .int .i64 vals] 26) = wB := ⟨_, rfl⟩
    have HwB : Hid (Below w4.heap.size w4 wB) := by rw [← hwB]; exact Bel.alloc _ _
    have x0 : wB.cell? ⟨w4.heap.size, 0, none⟩ = some (.slice ba2 n bcap2) := by rw [← hwB]; simp [go_sem]
    have x1 : wB.cell? ⟨w4.heap.size, 1, none⟩ = some (.int .i64 vals) := by rw [← hwB]; simp [go_sem]
    try rw [hwB]
    clear hwB
    have FB : Hid (FnAt wB (.agg #[.slice ba2 n bcap2, .int .i64 vals]) F0) := F2.out.later HwB.out
    have BAB : Hid (Below wA.heap.size wA wB) := Bel.after B4.out HwB.out
    replace b0 := Bel.keeps HwB.out b0
    replace b1' := Bel.keeps HwB.out b1'
    refine (toIntS_any a1 len1 cap1 z1 _ (HRW.out.after (Bel.after HwA.out BAB.out)) hlr).mono ?_
    rw [HRD.out]
    rintro e wC ⟨xv, rfl, ox, bC⟩
    have OX : Hid (IntsAt wC xv RD) := ox.at
    have BBC : Hid (Below wB.heap.size wB wC) := bC
    have FC : Hid (FnAt wC (.agg #[.slice ba2 n bcap2, .int .i64 vals]) F0) := FB.out.later bC
    replace b0 := Bel.keeps bC b0
    replace b1' := Bel.keeps bC b1'
    replace x0 := Bel.keeps bC x0
    replace x1 := Bel.keeps bC x1
    clear bC ox
    obtain ⟨p2, c2, rfl⟩ := intsAt_form OX.out
    rw [HN1.out] at OX ⊢
    go_wp2_with fail
    refine (impl_homesOk _ F0 p2 n1 c2 RD _ FC.out OX.out).mono ?_
    rintro e w5 ⟨q2, rfl, hq2, b5⟩
    have eq9 : q2 = q := (homesOkOf_eq hq2).symm.trans HR.out
    subst eq9
    have BB5 : Hid (Below wB.heap.size wB w5) := Bel.after BBC.out b5
    have OX5 : Hid (IntsAt w5 (.slice p2 n1 c2) RD) := OX.out.keep b5
    replace b0 := Bel.keeps b5 b0
    replace b1' := Bel.keeps b5 b1'
    replace x0 := Bel.keeps b5 x0
    replace x1 := Bel.keeps b5 x1
    clear b5 hq2
    have hdr : decide (RD = RD) = true := by simp
    have BA5 : Hid (Below wA.heap.size wA w5) := Bel.after BAB.out BB5.out
    go_wp2
    go_region_with (first | (go_at_call 56; refine (toFn_any _ F0 _ (HF.out.later (Bel.after HwA.out (by first | exact BA5.out.drew | exact BA5.out))) HS.out).mono ?_; rintro e w7 ⟨v3, rfl, hf3, b7, _⟩; have F3 : Hid (FnAt w7 v3 F0) := FnAtLo.low (Nat.zero_le _) hf3; have H67 : Hid (Below w5.heap.size w5 w7) := Bel.after (by first | exact (Below.refl _ _).drew | exact Below.refl _ _) b7; have F7 : Hid (FnAt w7 (.agg #[.slice ba2 n bcap2, .int .i64 vals]) F0) := (FB.out.later BB5.out).later H67.out; have y0 := Bel.keeps b7 x0; have y1 := Bel.keeps b7 x1; clear b7 hf3) | (go_at_call 58; refine (eqFn_same _ _ F0 _ (Hid.out (by assumption)) (Hid.out (by assumption))).mono ?_; rintro e w8 ⟨rfl, b8⟩; have H68 : Hid (Below w5.heap.size w5 w8) := Bel.after (Hid.out (by assumption)) b8; clear b8))
    all_goals
      have HB8 : Hid (Below w5.heap.size w5 w8) := by assumption
      have OX8 : Hid (IntsAt w8 (.slice p2 n1 c2) RD) := OX5.out.keep HB8.out
      have BA8 : Hid (Below wA.heap.size wA w8) := Bel.after BA5.out HB8.out
      clear HB8
      go_wp2_with fail
      refine (toIntS_any a1 len1 cap1 z1 _ (HRW.out.after (Bel.after HwA.out BA8.out)) hlr).mono ?_
      rw [HRD.out]
      rintro e wD ⟨dv, rfl, od, bD⟩
      have OD : Hid (IntsAt wD dv RD) := od.at
      have OXD : Hid (IntsAt wD (.slice p2 n1 c2) RD) := OX8.out.keep bD
      have BAD : Hid (Below wA.heap.size wA wD) := Bel.after BA8.out bD
      clear bD od
      go_wp2_with fail
      refine (eqIntS_any _ dv _ _ _ OXD.out OD.out).mono ?_
      rintro e wE ⟨rfl, bE⟩
      have BAE : Hid (Below wA.heap.size wA wE) := Bel.after BAD.out bE
      clear bE
      go_wp2_with fail
      go_ret
      exact ⟨rfl, Bel.after HwA.out BAE.out⟩

set_option maxRecDepth 100000 in
theorem lifted (os : Os) (started : os.Started) (H : Type) (enc : TypeId × Value → H) :
    ReturnsInHanded {} Tryz.checked os 10 .any (Rows.fnExactHomesOkSpec.pre6 enc Tryz.prog Tryz.f10 Rows.fnExactHomesOkRow.domain false) (Rows.fnExactHomesOkSpec.post enc Tryz.prog Tryz.f10 false true false false) := by
  refine returnsInHanded_of_change (C := Tryz.checked) own started (by kernel_rfl) Tryz.func10
    (ChangeSpec.witness6 (enc := enc) (C := Tryz.checked) false ⟨#[], #[.agg #[.slice none 0 0, .int .i64 0], .slice none 0 0], []⟩ 8 (by kernel_rfl) (by kernel_rfl) (by kernel_rfl) (by kernel_rfl)) ?_
  intro W base args ds gs before hval0 hW hcnd _
  have hval : ∀ (j : Nat) t v, Tryz.f10.params[j]? = some t → args[j]? = some v → Value.okWide Tryz.prog W .any base t v := hval0
  have hW' := hW
  obtain ⟨p, q, hA0, hV, rfl, hfz, hnd⟩ := hW
  have hA : DataW.TrodAll enc Tryz.prog W 0 (fun _ => true) true Tryz.f10.params.toList args.toList ds p := hA0
  rw [Tryz.params10] at hA hval
  obtain ⟨v0, vs0, d0, ds0, p0, q0, hargs, rfl, rfl, h0, r0x⟩ := trodAll_cons hA
  obtain ⟨v1, vs1, d1, ds1, p1, q1, rfl, rfl, rfl, h1, r1x⟩ := trodAll_cons r0x
  obtain ⟨rfl, rfl, rfl⟩ := trodAll_nil r1x
  obtain rfl : args = #[v0, v1] := by cases args; simp_all
  obtain ⟨rfl, rfl⟩ := trodVars_none hV
  have k0 := h0
  have lt0 : ∀ x ∈ p0, x.block < W.heap.size := by obtain ⟨m, hm⟩ := k0; exact DataW.trod_lt m _ _ _ hm
  have k1 := h1
  have lt1 : ∀ x ∈ p1, x.block < W.heap.size := by obtain ⟨m, hm⟩ := k1; exact DataW.trod_lt m _ _ _ hm
  obtain ⟨F0, hF0⟩ := openFn (hval 0 71 v0 rfl rfl) h0
  obtain ⟨a1, len1, cap1, rfl⟩ := okWide_slice Tryz.underlying27 (hval 1 27 v1 rfl rfl)
  obtain ⟨z1, r1⟩ : ∃ zs, IsRow .i64 W a1 len1 cap1 zs := by
    obtain ⟨fuel, hf⟩ := h1
    rcases open_ints Tryz.underlying27 Tryz.underlying3 (by kernel_rfl) hf with ⟨hcs, _⟩ | ⟨x, l, c, zs, hcs, _, hl, hm, hz, _, hcell, hwz⟩
    · simp [Value.cells] at hcs
      obtain ⟨rfl, rfl, rfl⟩ := hcs
      exact ⟨[], .inl ⟨rfl, rfl, rfl, rfl⟩⟩
    · simp [Value.cells] at hcs
      obtain ⟨rfl, rfl, rfl⟩ := hcs
      exact ⟨zs, .inr ⟨_, rfl, hl, hm, by simpa using hz, hcell, hwz⟩⟩
  clear hA0 hval0
  refine (walk W v0 F0 hF0 a1 len1 cap1 z1 r1).mono fun e W' ⟨he, bel⟩ => ?_
  subst he
  exact ⟨_, rfl, _, _, _, [], _, [], hW', trodAll_mk1 (shut_bool Tryz.underlying4 _), (trodAll_cons_mk (Below.trod laidOut (by kernel_rfl) (of_decide_eq_true (by kernel_rfl)) k0 bel lt0) (trodAll_cons_mk (Below.trod laidOut (by kernel_rfl) (of_decide_eq_true (by kernel_rfl)) k1 bel lt1) trodAll_mk0)), rfl, bel.frame _, fun h => by cases h⟩

theorem over : Rows.fnExactHomesOkRow.holds Tryz.pinned (OpenSpec.ofChange Rows.fnExactHomesOkSpec) :=
  OpenClaim.holds_of_wide 10 Tryz.f10 rfl rfl rfl rfl rfl rfl rfl ⟨rfl, rfl, rfl, rfl, rfl⟩ rfl rfl rfl rfl rfl (by kernel_rfl) Tryz.func10 (by kernel_rfl)
    (of_decide_eq_true (by kernel_rfl)) (by unfold Func.isWrapper; first | (rw [if_pos (by decide +kernel)]; kernel_rfl) | (rw [if_neg (by decide +kernel)]; exact ⟨rfl, rfl⟩))
    (fun os started H enc _ => lifted os started H enc)

/-- The statement. -/
theorem proved : Rows.FnExactHomesOkSaid := over
#print axioms proved
end Go.Proofs.YtldcohhifmpedaaGreat.fnExactHomesOk
