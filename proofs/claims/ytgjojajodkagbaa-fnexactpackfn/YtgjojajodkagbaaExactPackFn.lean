/- Proved: at every program (of no more than so many numbers, as the law itself asks) PackFn answers as its model, twice; it writes into no argument; its answer owns its memory. No condition. -/
import Derived.Test.YtgjojajodkagbaaRows
import Derived.Test.YtgjojajodkagbaaPkLw
import Derived.Test.YtgjojajodkagbaaEqB
import Derived.Test.YtgjojajodkagbaaTo
import Derived.Test.YtgjojajodkagbaaSz
import Derived.Test.YtgjojajodkagbaaEq
import Derived.Test.YtgjojajodkagbaaMark2
import Derived.Test.YtgjojajodkagbaaOwnMore
import Derived.WalkKit
import Derived.ProofKit
import Derived.OpenShut
import Derived.ShutString
import Derived.ChangeOld
import Derived.Below
namespace Go.Proofs.Ytgjojajodkagbaa.fnExactPackFn
open Go.ChangeShapes Go.WideShapes Go.ChangeAt Go.RowKit
open Go.ChangeMaps (open_string shut_string)
set_option linter.unusedVariables false

theorem own : ownKnob Try.prog.godebug = none := by kernel_rfl
theorem laidOut : laidOutB Try.prog = true := by kernel_rfl

set_option maxRecDepth 100000 in
set_option maxHeartbeats 4000000 in
theorem walk (w : World) (v0 : Value) (F0 : FnD) (hF0 : FnAt w v0 F0) :
    Calls Try.prog 6 #[v0] w fun e w' => e = .returned (.bool true) ∧ Below w.heap.size w w' := by
  have HF : Hid (FnAt w v0 F0) := hF0
  obtain ⟨n, HN⟩ : ∃ n, Hid (F0.blocks.length = n) := ⟨_, rfl⟩
  obtain ⟨vals, HV⟩ : ∃ x, Hid (F0.values = x) := ⟨_, rfl⟩
  obtain ⟨ba, bcap, rfl⟩ := hF0.out HN.out HV.out
  clear hF0
  obtain ⟨L, HL⟩ : ∃ L, Hid (packFnB F0 = L) := ⟨_, rfl⟩
  obtain ⟨ok0, HP⟩ : ∃ q, Hid (packFnOk F0 = q) := ⟨_, rfl⟩
  have hne0 : (ok0 != ok0) = false := by simp
  have hlen : L.length ≤ 150000 := by rw [← HL.out]; exact packFnB_len F0
  obtain ⟨wA, hwA⟩ : ∃ wA, w.alloc (.cells #[.slice ba n bcap, .int .i64 vals] 37) = wA := ⟨_, rfl⟩
  have hsA : wA.heap.size = w.heap.size + 1 := by rw [← hwA]; simp
  have HwA : Hid (Below w.heap.size w wA) := by rw [← hwA]; exact Bel.alloc _ _
  have a0 : wA.cell? ⟨w.heap.size, 0, none⟩ = some (.slice ba n bcap) := by rw [← hwA]; simp [go_sem]
  have a1' : wA.cell? ⟨w.heap.size, 1, none⟩ = some (.int .i64 vals) := by rw [← hwA]; simp [go_sem]
  have HA0 : Hid (wA.cell? ⟨w.heap.size, 0, none⟩ = some (.slice ba n bcap)) := a0
  have HA1 : Hid (wA.cell? ⟨w.heap.size, 1, none⟩ = some (.int .i64 vals)) := a1'
  go_enter Try.func6, Try.ntmps6
  go_wp2_with fail
  try rw [hwA]
  clear hwA
  refine (szFn_any _ F0 1048576 _ (HF.out.later HwA.out) (by omega) (by omega)).mono ?_
  rintro e w1 ⟨r, rfl, hr0, hr1, hsm, b1⟩
  have HSM : Hid (0 ≤ r → FnSmall F0) := hsm
  have B1 : Hid (Below wA.heap.size wA w1) := b1
  replace a0 := Bel.keeps b1 a0
  replace a1' := Bel.keeps b1 a1'
  clear b1 hsm
  by_cases hr : r < 0
  · go_wp2_with fail
    go_ret
    exact ⟨rfl, Bel.after HwA.out B1.out⟩
  · have HS : Hid (FnSmall F0) := HSM.out (by omega)
    go_wp2_with fail
    refine (toFn_any _ F0 _ (HF.out.later (Bel.after HwA.out B1.out)) HS.out).mono ?_
    rintro e w2 ⟨v1, rfl, hf1, b2, _⟩
    have F1 : Hid (FnAt w2 v1 F0) := FnAtLo.low (Nat.zero_le _) hf1
    have B2 : Hid (Below wA.heap.size wA w2) := Bel.after B1.out b2
    replace a0 := Bel.keeps b2 a0
    replace a1' := Bel.keeps b2 a1'
    clear b2 hf1
    go_wp2_with fail
    refine (spec_packFn v1 F0 _ F1.out).mono ?_
    intro e w3 h9
    unfold GivesPk at h9
    rw [HL.out, HP.out] at h9
    obtain ⟨g0, rfl, o0, b3⟩ := h9
    have O0 : Hid (OwnB w3 w2.heap.size g0 L) := o0
    have B3 : Hid (Below wA.heap.size wA w3) := Bel.after B2.out b3
    replace a0 := Bel.keeps b3 a0
    replace a1' := Bel.keeps b3 a1'
    clear b3 o0
    go_wp2_with fail
    refine (toFn_any _ F0 _ (HF.out.later (Bel.after HwA.out B3.out)) HS.out).mono ?_
    rintro e w4 ⟨v2, rfl, hf2, b4, z4⟩
    have F2 : Hid (FnAtLo w3.heap.size w4 v2 F0) := hf2
    have Z4 : Hid (FZ w3 w4) := z4
    have B4 : Hid (Below wA.heap.size wA w4) := Bel.after B3.out b4
    have O04 : Hid (OwnB w4 w2.heap.size g0 L) := O0.out.keep b4
    have hs34 : w3.heap.size ≤ w4.heap.size := b4.size
    replace a0 := Bel.keeps b4 a0
    replace a1' := Bel.keeps b4 a1'
    clear b4 hf2 z4
    have F4 : Hid (FnAt w4 v2 F0) := FnAtLo.low (Nat.zero_le _) F2.out
    obtain ⟨ba2, bcap2, rfl⟩ := FnAt.out F4.out HN.out HV.out
    go_wp2_with fail
    obtain ⟨wB, hwB⟩ : ∃ wB, w4.alloc (.cells #[.slice ba2 n bcap2, .int .i64 vals] 43) = wB := ⟨_, rfl⟩
    have HwB : Hid (Below w4.heap.size w4 wB) := by rw [← hwB]; exact Bel.alloc _ _
    have hsB : wB.heap.size = w4.heap.size + 1 := by rw [← hwB]; simp
    have x0 : wB.cell? ⟨w4.heap.size, 0, none⟩ = some (.slice ba2 n bcap2) := by rw [← hwB]; simp [go_sem]
    have x1 : wB.cell? ⟨w4.heap.size, 1, none⟩ = some (.int .i64 vals) := by rw [← hwB]; simp [go_sem]
    try rw [hwB]
    clear hwB
    have FB : Hid (FnAt wB (.agg #[.slice ba2 n bcap2, .int .i64 vals]) F0) := F4.out.later HwB.out
    refine (impl_packFn _ F0 _ FB.out).mono ?_
    intro e w5 h9
    unfold GivesPk at h9
    rw [HL.out, HP.out] at h9
    obtain ⟨g1, rfl, o1, b5⟩ := h9
    have O1 : Hid (OwnB w5 wB.heap.size g1 L) := o1
    have BB5 : Hid (Below wB.heap.size wB w5) := b5
    have O05 : Hid (OwnB w5 w2.heap.size g0 L) := (O04.out.keep HwB.out).keep b5
    replace a0 := Bel.keeps b5 (Bel.keeps HwB.out a0)
    replace a1' := Bel.keeps b5 (Bel.keeps HwB.out a1')
    replace x0 := Bel.keeps b5 x0
    replace x1 := Bel.keeps b5 x1
    clear b5 o1
    go_wp2_with fail
    refine (eqByteS_same g1 g0 L _ O1.out.at O05.out.at).mono ?_
    rintro e w6 ⟨rfl, b6⟩
    have BB6 : Hid (Below wB.heap.size wB w6) := Bel.after BB5.out b6
    have O16 : Hid (OwnB w6 wB.heap.size g1 L) := O1.out.keep b6
    have O06 : Hid (OwnB w6 w2.heap.size g0 L) := O05.out.keep b6
    replace a0 := Bel.keeps b6 a0
    replace a1' := Bel.keeps b6 a1'
    replace x0 := Bel.keeps b6 x0
    replace x1 := Bel.keeps b6 x1
    clear b6
    have BA6 : Hid (Below wA.heap.size wA w6) := Bel.after (Bel.after B4.out HwB.out) BB6.out
    go_wp2
    go_region_with (first | (go_at_call 20; refine (toFn_any _ F0 _ (HF.out.later (Bel.after HwA.out (by first | exact BA6.out.drew | exact BA6.out))) HS.out).mono ?_; rintro e w7 ⟨v3, rfl, hf3, b7, _⟩; have F3 : Hid (FnAt w7 v3 F0) := FnAtLo.low (Nat.zero_le _) hf3; have H67 : Hid (Below w6.heap.size w6 w7) := Bel.after (by first | exact (Below.refl _ _).drew | exact Below.refl _ _) b7; have F7 : Hid (FnAt w7 (.agg #[.slice ba2 n bcap2, .int .i64 vals]) F0) := (FB.out.later BB6.out).later H67.out; have y0 := Bel.keeps b7 x0; have y1 := Bel.keeps b7 x1; clear b7 hf3) | (go_at_call 22; refine (eqFn_same _ _ F0 _ (Hid.out (by assumption)) (Hid.out (by assumption))).mono ?_; rintro e w8 ⟨rfl, b8⟩; have H68 : Hid (Below w6.heap.size w6 w8) := Bel.after (Hid.out (by assumption)) b8; clear b8))
    all_goals
      have HB8 : Hid (Below w6.heap.size w6 w8) := by assumption
      have O18 : Hid (OwnB w8 wB.heap.size g1 L) := O16.out.keep HB8.out
      have O08 : Hid (OwnB w8 w2.heap.size g0 L) := O06.out.keep HB8.out
      have BB8 : Hid (Below wB.heap.size wB w8) := Bel.after BB6.out HB8.out
      have BA8 : Hid (Below wA.heap.size wA w8) := Bel.after BA6.out HB8.out
      have M8 : Hid (FnM w3.heap.size w4.heap.size w8 (.agg #[.slice ba2 n bcap2, .int .i64 vals]) n vals) := by
        have h := F2.out.m HS.out
        rw [HN.out, HV.out] at h
        exact h.later (Bel.after HwB.out BB8.out)
      have T8 : Hid (Thaw w3.heap.size w4.heap.size w8) := fun p h1 h2 => by
        rw [(Bel.after HwB.out BB8.out).frozen h2]
        exact Z4.out.new h1
      have hn : n ≤ 1048576 := by have := HS.out.1; rw [HN.out] at this; exact this
      have hs8 : w4.heap.size + 1 ≤ w8.heap.size := by have := BB8.out.size; omega
      replace a0 := Bel.keeps HB8.out a0
      replace a1' := Bel.keeps HB8.out a1'
      replace x0 := Bel.keeps HB8.out x0
      replace x1 := Bel.keeps HB8.out x1
      clear HB8
      go_wp2_with fail
      refine (markFn_any w3.heap.size w4.heap.size _ n vals 1 _ M8.out T8.out hn (by omega) (by omega) (by omega) (by omega)).mono ?_
      rintro e w9 ⟨z, rfl, hz0, mk⟩
      have MK : Hid (Marked w3.heap.size w4.heap.size w8 w9) := mk
      have O19 : Hid (OwnB w9 wB.heap.size g1 L) := O18.out.marked mk (fun b hb => .inr (by have := (O18.out.lt b hb).1; omega))
      have O09 : Hid (OwnB w9 w2.heap.size g0 L) := O08.out.marked mk (fun b hb => .inl (O0.out.lt b hb).2)
      have hsA3 : wA.heap.size ≤ w3.heap.size := B3.out.size
      have BA9 : Hid (Below wA.heap.size wA w9) := BA8.out.trans (mk.bel.mono hsA3)
      replace a0 := (BA9.out.cell (p := ⟨w.heap.size, 0, none⟩) (by show w.heap.size < wA.heap.size; omega)).trans HA0.out
      replace a1' := (BA9.out.cell (p := ⟨w.heap.size, 1, none⟩) (by show w.heap.size < wA.heap.size; omega)).trans HA1.out
      have hs9 : wB.heap.size ≤ w9.heap.size := by have := mk.bel.size; omega
      clear mk x0 x1
      go_wp2_with fail
      refine (eqByteS_same g1 g0 L _ O19.out.at O09.out.at).mono ?_
      rintro e w10 ⟨rfl, b10⟩
      have O110 : Hid (OwnB w10 wB.heap.size g1 L) := O19.out.keep b10
      have O010 : Hid (OwnB w10 w2.heap.size g0 L) := O09.out.keep b10
      have BA10 : Hid (Below wA.heap.size wA w10) := Bel.after BA9.out b10
      have hs10 : wB.heap.size ≤ w10.heap.size := Nat.le_trans hs9 b10.size
      replace a0 := Bel.keeps b10 a0
      replace a1' := Bel.keeps b10 a1'
      clear b10
      obtain ⟨ln, HLN⟩ : ∃ ln, Hid (L.length = ln) := ⟨_, rfl⟩
      have hln : ln ≤ 150000 := by rw [← HLN.out]; exact hlen
      go_wp2_with fail
      refine (markByteS_own wB.heap.size g1 L 1 _ O110.out hs10 (by omega)).mono ?_
      rintro e w11 ⟨rfl, b11, r11⟩
      rw [HLN.out] at r11 ⊢
      have R11 : Hid (BytesAt w11 g1 (bmk 1 ln)) := r11
      have R011 : Hid (BytesAt w11 g0 L) := O010.out.at.under b11 (fun b hb => by have := (O0.out.lt b hb).2; omega)
      have BA11 : Hid (Below wA.heap.size wA w11) := BA10.out.trans (b11.mono (by omega))
      replace a0 := (BA11.out.cell (p := ⟨w.heap.size, 0, none⟩) (by show w.heap.size < wA.heap.size; omega)).trans HA0.out
      replace a1' := (BA11.out.cell (p := ⟨w.heap.size, 1, none⟩) (by show w.heap.size < wA.heap.size; omega)).trans HA1.out
      clear b11 r11
      go_wp2_with fail
      refine (heldByteS_any g1 1 ln _ R11.out (by omega)).mono ?_
      rintro e w11' ⟨rfl, hw11⟩
      subst hw11
      go_wp2_with fail
      refine (toFn_any _ F0 _ (HF.out.later (Bel.after HwA.out BA11.out)) HS.out).mono ?_
      rintro e w12 ⟨v5, rfl, hf5, b12, _⟩
      have F5 : Hid (FnAt w12 v5 F0) := FnAtLo.low (Nat.zero_le _) hf5
      have R12 : Hid (BytesAt w12 g1 (bmk 1 ln)) := R11.out.keep b12
      have R012 : Hid (BytesAt w12 g0 L) := R011.out.keep b12
      have BA12 : Hid (Below wA.heap.size wA w12) := Bel.after BA11.out b12
      clear b12 hf5 a0 a1'
      go_wp2_with fail
      refine (impl_packFn v5 F0 _ F5.out).mono ?_
      intro e w13 h9
      unfold GivesPk at h9
      rw [HL.out, HP.out] at h9
      obtain ⟨g2, rfl, o2, b13⟩ := h9
      have O2 : Hid (OwnB w13 w12.heap.size g2 L) := o2
      have R13 : Hid (BytesAt w13 g1 (bmk 1 ln)) := R12.out.keep b13
      have R013 : Hid (BytesAt w13 g0 L) := R012.out.keep b13
      have BA13 : Hid (Below wA.heap.size wA w13) := Bel.after BA12.out b13
      clear b13 o2
      go_wp2_with fail
      refine (eqByteS_same g2 g0 L _ O2.out.at R013.out).mono ?_
      rintro e w14 ⟨rfl, b14⟩
      have R14 : Hid (BytesAt w14 g1 (bmk 1 ln)) := R13.out.keep b14
      have BA14 : Hid (Below wA.heap.size wA w14) := Bel.after BA13.out b14
      clear b14
      go_wp2_with fail
      refine (heldByteS_any g1 1 ln _ R14.out (by omega)).mono ?_
      rintro e w14' ⟨rfl, hw14⟩
      subst hw14
      go_wp2_with fail
      go_ret
      exact ⟨rfl, Bel.after HwA.out BA14.out⟩

set_option maxRecDepth 100000 in
theorem lifted (os : Os) (started : os.Started) (H : Type) (enc : TypeId × Value → H) :
    ReturnsInHanded {} Try.checked os 6 .any (Rows.fnExactPackFnSpec.pre6 enc Try.prog Try.f6 Rows.fnExactPackFnRow.domain false) (Rows.fnExactPackFnSpec.post enc Try.prog Try.f6 false true false false) := by
  refine returnsInHanded_of_change (C := Try.checked) own started (by kernel_rfl) Try.func6
    (ChangeSpec.witness6 (enc := enc) (C := Try.checked) false ⟨#[], #[.agg #[.slice none 0 0, .int .i64 0]], []⟩ 8 (by kernel_rfl) (by kernel_rfl) (by kernel_rfl) (by kernel_rfl)) ?_
  intro W base args ds gs before hval0 hW hcnd _
  have hval : ∀ (j : Nat) t v, Try.f6.params[j]? = some t → args[j]? = some v → Value.okWide Try.prog W .any base t v := hval0
  have hW' := hW
  obtain ⟨p, q, hA0, hV, rfl, hfz, hnd⟩ := hW
  have hA : DataW.TrodAll enc Try.prog W 0 (fun _ => true) true Try.f6.params.toList args.toList ds p := hA0
  rw [Try.params6] at hA hval
  obtain ⟨v0, vs0, d0, ds0, p0, q0, hargs, rfl, rfl, h0, r0x⟩ := trodAll_cons hA
  obtain ⟨rfl, rfl, rfl⟩ := trodAll_nil r0x
  obtain rfl : args = #[v0] := by cases args; simp_all
  obtain ⟨rfl, rfl⟩ := trodVars_none hV
  have k0 := h0
  have lt0 : ∀ x ∈ p0, x.block < W.heap.size := by obtain ⟨m, hm⟩ := k0; exact DataW.trod_lt m _ _ _ hm
  obtain ⟨F0, hF0⟩ := openFn (hval 0 37 v0 rfl rfl) h0
  clear hA0 hval0
  refine (walk W v0 F0 hF0).mono fun e W' ⟨he, bel⟩ => ?_
  subst he
  exact ⟨_, rfl, _, _, _, [], _, [], hW', trodAll_mk1 (shut_bool Try.underlying4 _), (trodAll_cons_mk (Below.trod laidOut (by kernel_rfl) (of_decide_eq_true (by kernel_rfl)) k0 bel lt0) trodAll_mk0), rfl, bel.frame _, fun h => by cases h⟩

theorem over : Rows.fnExactPackFnRow.holds Try.pinned (OpenSpec.ofChange Rows.fnExactPackFnSpec) :=
  OpenClaim.holds_of_wide 6 Try.f6 rfl rfl rfl rfl rfl rfl rfl ⟨rfl, rfl, rfl, rfl, rfl⟩ rfl rfl rfl rfl rfl (by kernel_rfl) Try.func6 (by kernel_rfl)
    (of_decide_eq_true (by kernel_rfl)) (by unfold Func.isWrapper; first | (rw [if_pos (by decide +kernel)]; kernel_rfl) | (rw [if_neg (by decide +kernel)]; exact ⟨rfl, rfl⟩))
    (fun os started H enc _ => lifted os started H enc)

/-- The statement. -/
theorem proved : Rows.FnExactPackFnSaid := over
#print axioms proved
end Go.Proofs.Ytgjojajodkagbaa.fnExactPackFn
