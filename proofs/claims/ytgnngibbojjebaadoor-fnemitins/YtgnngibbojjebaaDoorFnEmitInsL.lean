/- Proved: the steps of a drawn place are right, at most four, and end with what it makes in its home. -/
import Derived.Test.YtgnngibbojjebaaDoorRows
import Derived.Test.YtgnngibbojjebaaDoorMaLaid
import Derived.Test.YtgnngibbojjebaaDoorTie
import Derived.Test.YtgnngibbojjebaaDoorCards
import Derived.SevenTiedAt
import Derived.Test.YtgnngibbojjebaaDoorEmL
import Derived.Test.YtgnngibbojjebaaDoorEmI5
import Derived.Test.YtgnngibbojjebaaDoorEmS3
import Derived.WalkKit
import Derived.ProofKit
import Derived.OpenShut
import Derived.ShutString
import Derived.ChangeOld
import Derived.Below
namespace Go.Proofs.YtgnngibbojjebaaDoor.fnEmitIns
open Go.ChangeShapes Go.WideShapes Go.ChangeAt Go.RowKit
open Go.ChangeMaps (open_string shut_string)
set_option linter.unusedVariables false

theorem laidOut : laidOutB Tryd.prog = true := by kernel_rfl

set_option maxHeartbeats 4000000 in
theorem walk (w : World) (a0 : Option Addr) (len0 cap0 : Nat) (z0 : List Int) (r0 : IsRow .u8 w a0 len0 cap0 z0) (hT : FTab w) :
    Calls Tryd.prog 3 #[.slice a0 len0 cap0] w fun e w' => e = .returned (.bool true) ∧ Below w.heap.size w w' := by
  have HT : Hid (FTab w) := hT
  have HR : Hid (IsRow .u8 w a0 len0 cap0 z0) := r0
  clear hT r0
  go_enter Tryd.func3, Tryd.ntmps3
  go_wp2_with fail
  refine (big_anyE a0 len0 cap0 _).mono ?_
  rintro e w1 ⟨q, rfl, rfl⟩
  cases q with
  | true =>
    go_wp2_with fail
    go_ret
    exact ⟨rfl, Below.refl _ _⟩
  | false =>
    go_wp2_with fail
    refine (drawEmitIns_any a0 len0 cap0 z0 _ HR.out).mono ?_
    rintro e w2 ⟨op, d, a, b, n, rfl, b2⟩
    have HB2 : Hid (Below w1.heap.size w1 w2) := b2
    clear b2
    obtain ⟨wA, hwA⟩ : ∃ W, w2.alloc (.cells #[.int .i64 op, .int .i64 d, .int .i64 a, .int .i64 b, .int .i64 n] 25) = W := ⟨_, rfl⟩
    have HBX : Hid (InsBox wA w2.heap.size op d a b n) := by show InsBox _ _ _ _ _ _ _; rw [← hwA]; exact insBox_new w2 _ op d a b n
    have HBA : Hid (Below w1.heap.size w1 wA) := by show Below _ _ _; rw [← hwA]; exact Bel.after HB2.out (Bel.alloc _ _)
    obtain ⟨X, HXX⟩ : ∃ X, Hid (w2.heap.size = X) := ⟨_, rfl⟩
    obtain ⟨L, HLL⟩ : ∃ L, Hid (emitX ⟨op, d, a, b, n⟩ = L) := ⟨_, rfl⟩
    have hlen : L.length ≤ 4 := by rw [← HLL.out]; exact emitX_len _
    have HOKS : Hid (∀ s ∈ L, stepOkB s 900 = true) := by rw [← HLL.out]; exact emit_ok _
    have HEND : Hid (L ≠ [] → 0 ≤ insDefV op d → ∃ s, L.getLast? = some s ∧ EndsAt d s) := by rw [← HLL.out]; exact emit_ends ⟨op, d, a, b, n⟩
    obtain ⟨c0, c1, c2, c3, c4⟩ := HBX.out
    go_wp2_with fail
    try rw [hwA]
    clear hwA c0 c1 c2 c3 c4
    rw [HXX.out] at HBX ⊢
    refine (impl_emitIns op d a b n _).mono ?_
    rw [HLL.out]
    rintro e w3 ⟨g1, rfl, oo1, b3⟩
    have O1 : Hid (OwnSteps w3 wA.heap.size g1 L) := oo1
    have HB3 : Hid (Below w1.heap.size w1 w3) := Bel.after HBA.out b3
    have HX3 : Hid (InsBox w3 X op d a b n) := HBX.out.keep b3
    clear oo1 b3
    obtain ⟨m, HM⟩ : ∃ m, Hid (L.length = m) := ⟨_, rfl⟩
    obtain ⟨ga, gc, hgv⟩ : ∃ a c, g1 = .slice a m c := by obtain ⟨a, c, e, _⟩ := O1.out.row; exact ⟨a, c, by rw [e, HM.out]⟩
    subst hgv
    rw [HM.out] at hlen
    obtain ⟨c0, c1, c2, c3, c4⟩ := HX3.out
    go_wp2_with fail
    clear c0 c1 c2 c3 c4
    refine (spec_emitIns op d a b n _).mono ?_
    rw [HLL.out]
    rintro e w4 ⟨g0, rfl, oo0, b4⟩
    have O0 : Hid (OwnSteps w4 w3.heap.size g0 L) := oo0
    have O14 : Hid (OwnSteps w4 wA.heap.size (.slice ga m gc) L) := O1.out.keep b4
    have HB4 : Hid (Below w1.heap.size w1 w4) := Bel.after HB3.out b4
    have HX4 : Hid (InsBox w4 X op d a b n) := HX3.out.keep b4
    clear oo0 b4
    have hm4 : ¬ (m : Int) > 4 := by omega
    go_wp2_with fail
    refine (sameSteps_same _ g0 L _ O14.out.at O0.out.at).mono ?_
    rintro e w5 ⟨rfl, b5⟩
    have O15 : Hid (OwnSteps w5 wA.heap.size (.slice ga m gc) L) := O14.out.keep b5
    have HB5 : Hid (Below w1.heap.size w1 w5) := Bel.after HB4.out b5
    have HX5 : Hid (InsBox w5 X op d a b n) := HX4.out.keep b5
    clear b5
    go_wp2_with fail
    go_loopw [5] (fun i wr => ∃ k : Nat, k ≤ m ∧ i = .int .i64 k ∧ Below w5.heap.size w5 wr) (fun i _ => m - (intOf i).toNat)
    case atStart => exact ⟨0, Nat.zero_le _, rfl, Below.refl _ _⟩
    case round =>
      obtain ⟨k, hk, rfl, hbr⟩ := hrel
      have HBR : Hid (Below w5.heap.size w5 wr) := hbr
      clear hbr
      have OR : Hid (OwnSteps wr wA.heap.size (.slice ga m gc) L) := O15.out.keep HBR.out
      have HXR : Hid (InsBox wr X op d a b n) := HX5.out.keep HBR.out
      have HBW : Hid (Below w1.heap.size w1 wr) := Bel.after HB5.out HBR.out
      by_cases hlt : (k : Int) < (m : Int)
      · obtain ⟨x, HX⟩ : ∃ x, Hid (L[k]? = some x) := ⟨L[k]'(by have := HM.out; omega), List.getElem?_eq_getElem _⟩
        have HSO : Hid (stepOkB x 900 = true) := HOKS.out x (List.mem_of_getElem? HX.out)
        have HXO : Hid (-9223372036854775808 ≤ x.op ∧ x.op ≤ 9223372036854775807) := by have h9 := (stepOkB_parts HSO.out).1; show _ ∧ _; omega
        obtain ⟨g, hga, hcx⟩ : ∃ g, ga = some ⟨g, 0, none⟩ ∧ InsAt wr g (k * 5) x := by
          obtain ⟨a9, c9, e9, h9⟩ := OR.out.row
          obtain ⟨g9, e10, _, _, h11, _⟩ := h9 (by have := HM.out; omega)
          simp at e9
          exact ⟨g9, by rw [e9.1, e10], h11 k x HX.out⟩
        subst hga
        obtain ⟨x0, x1, x2, x3, x4⟩ := x
        obtain ⟨c0, c1, c2, c3, c4⟩ := hcx
        dsimp only at c0 c1 c2 c3 c4 HXO
        go_wp2_with fail
        refine (impl_stepOk x0 x1 x2 x3 x4 900 _ HXO.out (HT.out.keep HBW.out)).mono ?_
        rw [HSO.out]
        rintro e w6 ⟨rfl, b6⟩
        have HB6 : Hid (Below w5.heap.size w5 w6) := Bel.after HBR.out b6
        clear b6 c0 c1 c2 c3 c4
        go_wp2
        go_roundw
        case rel => exact ⟨k + 1, by omega, by go_num, HB6.out⟩
        case measure => simp [intOf]; omega
      · have hkm : k = m := by omega
        subst hkm
        by_cases hk0 : k = 0
        · subst hk0
          go_wp2
          go_ret
          exact ⟨rfl, HBW.out⟩
        have hk1 : ((k : Int) == 0) = false := by simp; omega
        obtain ⟨c0, c1, c2, c3, c4⟩ := HXR.out
        go_wp2_with fail
        clear c0 c1 c2 c3 c4
        refine (impl_insDef op d a b n _).mono ?_
        rintro e w6 ⟨rfl, b6⟩
        have HB6 : Hid (Below w1.heap.size w1 w6) := Bel.after HBW.out b6
        have HX6 : Hid (InsBox w6 X op d a b n) := HXR.out.keep b6
        have O6 : Hid (OwnSteps w6 wA.heap.size (.slice ga k gc) L) := OR.out.keep b6
        clear b6
        obtain ⟨df, HDF⟩ : ∃ z, Hid (insDefV op d = z) := ⟨_, rfl⟩
        rw [HDF.out] at HEND ⊢
        by_cases hneg : df < 0
        · go_wp2
          go_ret
          exact ⟨rfl, HB6.out⟩
        · obtain ⟨s, hs, hse⟩ := HEND.out (fun e => hk0 (by have := HM.out; rw [e] at this; simpa using this.symm)) (by omega)
          obtain ⟨p, hp⟩ : ∃ p, k = p + 1 := ⟨k - 1, by omega⟩
          subst hp
          have HS : Hid (L[p]? = some s) := by
            show _ = _
            rw [List.getLast?_eq_getElem?, HM.out] at hs
            exact hs
          have HSE : Hid (EndsAt d s) := hse
          clear hs hse
          have hdb : 0 ≤ d ∧ d ≤ 39 := by
            have hm : makesV op = true := by
              have h8 := HDF.out
              unfold insDefV at h8
              split at h8
              · assumption
              · omega
            have hh : homesX ⟨op, d, a, b, n⟩ = true := by
              cases e9 : homesX ⟨op, d, a, b, n⟩ with
              | true => rfl
              | false =>
                exfalso
                have h7 := HLL.out
                rw [hXno e9] at h7
                have h6 := HM.out
                rw [← h7] at h6
                simp at h6
            exact homeB_iff.1 (hX_d hh hm)
          obtain ⟨g, hga, hcx⟩ : ∃ g, ga = some ⟨g, 0, none⟩ ∧ InsAt w6 g (p * 5) s := by
            obtain ⟨a9, c9, e9, h9⟩ := O6.out.row
            obtain ⟨g9, e10, _, _, h11, _⟩ := h9 (by have := HM.out; omega)
            simp at e9
            exact ⟨g9, by rw [e9.1, e10], h11 p s HS.out⟩
          subst hga
          obtain ⟨x0, x1, x2, x3, x4⟩ := s
          obtain ⟨q0, q1, q2, q3, q4⟩ := hcx
          dsimp only at q0 q1 q2 q3 q4
          obtain ⟨c0, c1, c2, c3, c4⟩ := HX6.out
          have hXlt : X < w6.heap.size := World.block_lt_of_cell? w6 _ c0
          by_cases h4 : 4 ≤ d
          · have hd4 : ¬ d < 4 := by omega
            obtain ⟨e1, e2⟩ : x0 = 4 ∧ x4 = d - 4 := by have h9 := HSE.out; unfold EndsAt at h9; rw [if_pos h4] at h9; exact h9
            subst e1
            subst e2
            have hs4 : ((d - 4 : Int) == d - 4) = true := by simp
            go_wp2
            go_ret
            exact ⟨by first | rfl | (simp; done), Bel.after HB6.out (Bel.alloc _ _)⟩
          · have hd4 : d < 4 := by omega
            obtain ⟨e1, e2⟩ : x1 = d ∧ x0 ≠ 4 := by have h9 := HSE.out; unfold EndsAt at h9; rw [if_neg h4] at h9; exact h9
            subst e1
            have e3 : (x0 != 4) = true := by simpa using e2
            go_wp2
            go_ret
            exact ⟨by first | rfl | (simp; done), Bel.after HB6.out (Bel.alloc _ _)⟩

set_option maxRecDepth 100000 in
theorem lifted (os : Os) (started : os.Started) (H : Type) (enc : TypeId × Value → H) :
    ReturnsInHanded {} Tryd.checked os 3 .any (fun w args => (Rows.fnEmitInsSpec.pre enc Tryd.prog Tryd.f3 [] false w args ∧ laidMetH Tryd.prog Rows.fnEmitInsRow.laid w) ∧ sizedMet enc Tryd.prog Tryd.f3 (OpenSpec.ofChange Rows.fnEmitInsSpec) false w args)
      (Rows.fnEmitInsSpec.post enc Tryd.prog Tryd.f3 false true false false) := by
  refine returnsInHanded_of_change_and (C := Tryd.checked) (X := fun w _ => laidMetH Tryd.prog Rows.fnEmitInsRow.laid w) (fun _ _ _ hh h => h.of_heap hh) own started (by kernel_rfl) Tryd.func3
    (ChangeSpec.witness_shaped (enc := enc) (C := Tryd.checked) (os := os) (X := fun w _ => laidMetH Tryd.prog Rows.fnEmitInsRow.laid w) false (World.doorLaid Tryd.prog 400 os) #[.slice none 0 0] 8 rfl (World.shaped_of_RefB (by kernel_rfl) (by kernel_rfl)) (by kernel_rfl) (by kernel_rfl) (by kernel_rfl) (door_met os _)) ?_
  intro W base args ds gs before hval0 hW _ _ hL _
  have hval : ∀ (j : Nat) t v, Tryd.f3.params[j]? = some t → args[j]? = some v → Value.okWide Tryd.prog W .any base t v := hval0
  have hW' := hW
  obtain ⟨p, q, hA0, hV0, rfl, hfz, hnd⟩ := hW
  have hA : DataW.TrodAll enc Tryd.prog W 0 (fun _ => true) true Tryd.f3.params.toList args.toList ds p := hA0
  rw [Tryd.params3] at hA hval
  obtain ⟨v0, vs0, d0, ds0, p0, q0, hargs, rfl, rfl, h0, r0x⟩ := trodAll_cons hA
  obtain ⟨rfl, rfl, rfl⟩ := trodAll_nil r0x
  obtain rfl : args = #[v0] := by cases args; simp_all
  have hV : DataW.TrodVars enc Tryd.prog W (fun _ => true) [tabName] gs q := hV0
  obtain ⟨g, t, cs, fuel, dv, pv, rfl, hg, ht, hvar, hd, rfl⟩ := trodVars_one hV
  obtain rfl := Option.some.inj (gTab.symm.trans hg)
  obtain rfl := Option.some.inj (tTab.symm.trans ht)
  have hT := of_laid hL
  have hlt0 : 0 < W.heap.size := World.block_lt_of_cell? W _ (hT 0 (by omega)).1
  have hltv : ∀ x ∈ pv, x.block < W.heap.size := fun x hx => hW'.lt x (List.mem_append_right _ (List.mem_append_right _ hx))
  have k0 := h0
  have lt0 : ∀ x ∈ p0, x.block < W.heap.size := by obtain ⟨m, hm⟩ := k0; exact DataW.trod_lt m _ _ _ hm
  obtain ⟨a0, len0, cap0, rfl⟩ := okWide_slice Tryd.underlying22 (hval 0 22 v0 rfl rfl)
  obtain ⟨z0, r0⟩ : ∃ zs, IsRow .u8 W a0 len0 cap0 zs := by
    obtain ⟨fuel, hf⟩ := h0
    rcases open_ints Tryd.underlying22 Tryd.underlying5 (by kernel_rfl) hf with ⟨hcs, _⟩ | ⟨x, l, c, zs, hcs, _, hl, hm, hz, _, hcell, hwz⟩
    · simp [Value.cells] at hcs
      obtain ⟨rfl, rfl, rfl⟩ := hcs
      exact ⟨[], .inl ⟨rfl, rfl, rfl, rfl⟩⟩
    · simp [Value.cells] at hcs
      obtain ⟨rfl, rfl, rfl⟩ := hcs
      exact ⟨zs, .inr ⟨_, rfl, hl, hm, by simpa using hz, hcell, hwz⟩⟩
  clear hA0 hV0 hval0
  refine (walk W a0 len0 cap0 z0 r0 hT).mono fun e W' ⟨he, bel⟩ => ?_
  subst he
  exact ⟨_, rfl, _, _, _, [], _, (MemPlace.row ⟨0, 0, none⟩ cs.size ++ pv), hW', trodAll_mk1 (shut_bool Tryd.underlying4 _), (trodAll_cons_mk (Below.trod laidOut (by kernel_rfl) (of_decide_eq_true (by kernel_rfl)) k0 bel lt0) trodAll_mk0), vars_again hvar hd hltv hlt0 bel, bel.frame _, fun h => by cases h⟩

theorem over : Rows.fnEmitInsRow.holds Tryd.pinned (OpenSpec.ofChange Rows.fnEmitInsSpec) :=
  OpenClaim.holds_of_wide 3 Tryd.f3 rfl rfl rfl rfl rfl rfl rfl ⟨rfl, rfl, rfl, rfl, rfl⟩ rfl rfl rfl rfl rfl (by kernel_rfl) Tryd.func3 (by kernel_rfl)
    (of_decide_eq_true (by kernel_rfl)) (by unfold Func.isWrapper; first | (rw [if_pos (by decide +kernel)]; kernel_rfl) | (rw [if_neg (by decide +kernel)]; exact ⟨rfl, rfl⟩))
    (fun os started H enc _ => lifted os started H enc)

/-- The card: the row, its listed variable tied to the program's text. -/
theorem proved : Rows.FnEmitInsCardSaid :=
  Claim7.holds_tied_plain_at .later [] [.data] true Rows.fnEmitInsCard.stood.harness Rows.fnEmitInsCard.stood.looks
    over (fun _ h => by cases h) (by kernel_rfl) (fun _ h => by cases h) fnEmitIns_row_tie rfl ⟨rfl, rfl⟩ (by kernel_rfl) rfl
    (fun f fn hf hfn => by
      obtain rfl : f = 3 := Option.some.inj ((show Tryd.prog.funcNamed Rows.fnEmitInsRow.func = some 3 by kernel_rfl).symm.trans hf) |>.symm
      obtain rfl : fn = Tryd.f3 := (Option.some.inj (Tryd.func3.symm.trans hfn)).symm
      exact ⟨by kernel_rfl, fun j t ht => by
        rw [Tryd.params3] at ht
        have hm : t ∈ [22] := by simpa using Array.mem_of_getElem? ht
        have hall : ([22].all fun u => !Tryd.prog.wantsStandIn u) = true := by kernel_rfl
        exact (show Tryd.prog.wantsStandIn t = false by simpa using List.all_eq_true.1 hall t hm)⟩)
    (by kernel_rfl)
#print axioms proved
end Go.Proofs.YtgnngibbojjebaaDoor.fnEmitIns
