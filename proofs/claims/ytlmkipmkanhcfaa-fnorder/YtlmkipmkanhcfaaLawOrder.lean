/- Proved: the order of a drawn program has all that is reached, each once, block 0 first. -/
import Derived.Test.YtlmkipmkanhcfaaRows
import Derived.Test.YtlmkipmkanhcfaaDrawO
import Derived.Test.YtlmkipmkanhcfaaLawMath
import Derived.Test.YtlmkipmkanhcfaaLawBits
import Derived.Test.YtlmkipmkanhcfaaSuccs
import Derived.Test.YtlmkipmkanhcfaaWalk
import Derived.Test.YtlmkipmkanhcfaaSOrder2
import Derived.Test.YtlmkipmkanhcfaaReached
import Derived.Test.YtlmkipmkanhcfaaShape8
import Derived.WalkKit
import Derived.ProofKit
import Derived.OpenShut
import Derived.ShutString
import Derived.ChangeOld
import Derived.Below
namespace Go.Proofs.Ytlmkipmkanhcfaa.fnOrder
open Go.ChangeShapes Go.WideShapes Go.ChangeAt Go.RowKit
open Go.ChangeMaps (open_string shut_string)
set_option linter.unusedVariables false

theorem own : ownKnob Try.prog.godebug = none := by kernel_rfl
theorem laidOut : laidOutB Try.prog = true := by kernel_rfl

set_option maxRecDepth 100000 in
set_option maxHeartbeats 32000000 in
set_option maxHeartbeats 4000000 in
theorem walk (w : World) (a0 : Option Addr) (len0 cap0 : Nat) (z0 : List Int) (r0 : IsRow .u8 w a0 len0 cap0 z0) :
    Calls Try.prog 4 #[.slice a0 len0 cap0] w fun e w' => e = .returned (.bool true) ∧ Below w.heap.size w w' := by
  have HR : Hid (IsRow .u8 w a0 len0 cap0 z0) := r0
  clear r0
  go_enter Try.func4, Try.ntmps4
  go_wp2_with fail
  refine (big_any a0 len0 cap0 _).mono ?_
  rintro e w1 ⟨t, rfl, rfl⟩
  cases t with
  | true =>
    go_wp2_with fail
    go_ret
    exact ⟨rfl, Below.refl _ _⟩
  | false =>
    go_wp2_with fail
    refine (drawOrder_any a0 len0 cap0 z0 _ HR.out).mono ?_
    rintro e w2 ⟨v, F, rfl, hF, hn0, hn9, b2⟩
    obtain ⟨n, HN⟩ : ∃ n, Hid (F.blocks.length = n) := ⟨_, rfl⟩
    obtain ⟨vals, HV⟩ : ∃ x, Hid (F.values = x) := ⟨_, rfl⟩
    have F2 : Hid (FnAt w2 v F) := FnAtLo.low (Nat.zero_le _) hF
    obtain ⟨ba, bcap, rfl⟩ := F2.out.out HN.out HV.out
    have B2 : Hid (Below w1.heap.size w1 w2) := b2
    clear hF b2 hn0 hn9
    obtain ⟨on, HON⟩ : ∃ x, Hid ((orderOf F).length = x) := ⟨_, rfl⟩
    obtain ⟨rn, HRN⟩ : ∃ x, Hid ((reachedOf F).length = x) := ⟨_, rfl⟩
    have ho9 : on ≤ 100 := by rw [← HON.out]; exact orderOf_small F
    have hr9 : rn ≤ 100 := by rw [← HRN.out]; exact reachedOf_small F
    have hrr : ((rn : Int) != (rn : Int)) = false := by simp
    go_wp2_with fail
    refine (impl_order _ F _ (F2.out.later (Bel.alloc _ _))).mono ?_
    rintro e w3 ⟨ov, rfl, hov, b3⟩
    have B3 : Hid (Below w1.heap.size w1 w3) := Bel.after (Bel.after B2.out (Bel.alloc _ _)) b3
    have F3 : Hid (FnAt w3 (.agg #[.slice ba n bcap, .int .i64 vals]) F) := (F2.out.later (Bel.alloc _ _)).later b3
    have c0 := box_cell b3 0
    have c1 := box_cell b3 1
    simp at c0 c1
    clear b3 F2 B2
    obtain ⟨FB, hFB⟩ : ∃ x, w2.heap.size = x := ⟨_, rfl⟩
    rw [hFB] at c0 c1 ⊢
    clear hFB
    have O3 : Hid (IntsAt w3 ov (orderOf F)) := hov.at
    obtain ⟨oa, ocap, rfl⟩ : ∃ a cap, ov = .slice a on cap := by
      obtain ⟨a, cap, h, _⟩ := O3.out
      exact ⟨a, cap, by rw [h, HON.out]⟩
    clear hov
    go_wp2_with fail
    refine (impl_reached _ F _ F3.out).mono ?_
    rintro e w4 ⟨rv, rfl, hrv, b4⟩
    have B4 : Hid (Below w1.heap.size w1 w4) := Bel.after B3.out b4
    have F4 : Hid (FnAt w4 (.agg #[.slice ba n bcap, .int .i64 vals]) F) := F3.out.later b4
    have O4 : Hid (IntsAt w4 (.slice oa on ocap) (orderOf F)) := O3.out.keep b4
    have R4 : Hid (BoolsAt w4 rv (reachedOf F)) := hrv.at
    obtain ⟨ra, rcap, rfl⟩ : ∃ a cap, rv = .slice a rn cap := by
      obtain ⟨a, cap, h, _⟩ := R4.out
      exact ⟨a, cap, by rw [h, HRN.out]⟩
    replace c0 := Bel.keeps b4 c0
    replace c1 := Bel.keeps b4 c1
    clear hrv b4 B3 F3 O3
    go_wp2_with fail
    refine (spec_order _ F _ F4.out).mono ?_
    rintro e w5 ⟨sv, rfl, hsv, b5⟩
    have B5 : Hid (Below w1.heap.size w1 w5) := Bel.after B4.out b5
    have F5 : Hid (FnAt w5 (.agg #[.slice ba n bcap, .int .i64 vals]) F) := F4.out.later b5
    have O5 : Hid (IntsAt w5 (.slice oa on ocap) (orderOf F)) := O4.out.keep b5
    have R5 : Hid (BoolsAt w5 (.slice ra rn rcap) (reachedOf F)) := R4.out.keep b5
    have S5 : Hid (IntsAt w5 sv (orderOf F)) := hsv.at
    replace c0 := Bel.keeps b5 c0
    replace c1 := Bel.keeps b5 c1
    clear hsv b5 B4 F4 O4 R4
    go_wp2_with fail
    refine (sameInts_any _ _ (orderOf F) (orderOf F) _ O5.out S5.out).mono ?_
    rw [decide_eq_true (rfl : orderOf F = orderOf F)]
    rintro e w6 ⟨rfl, b6⟩
    have B6 : Hid (Below w1.heap.size w1 w6) := Bel.after B5.out b6
    have F6 : Hid (FnAt w6 (.agg #[.slice ba n bcap, .int .i64 vals]) F) := F5.out.later b6
    have O6 : Hid (IntsAt w6 (.slice oa on ocap) (orderOf F)) := O5.out.keep b6
    have R6 : Hid (BoolsAt w6 (.slice ra rn rcap) (reachedOf F)) := R5.out.keep b6
    replace c0 := Bel.keeps b6 c0
    replace c1 := Bel.keeps b6 c1
    clear b6 B5 F5 O5 R5 S5
    go_wp2_with fail
    refine (spec_reached _ F _ F6.out).mono ?_
    rintro e w7 ⟨tv, rfl, htv, b7⟩
    have B7 : Hid (Below w1.heap.size w1 w7) := Bel.after B6.out b7
    have F7 : Hid (FnAt w7 (.agg #[.slice ba n bcap, .int .i64 vals]) F) := F6.out.later b7
    have O7 : Hid (IntsAt w7 (.slice oa on ocap) (orderOf F)) := O6.out.keep b7
    have R7 : Hid (BoolsAt w7 (.slice ra rn rcap) (reachedOf F)) := R6.out.keep b7
    obtain ⟨ta, tcap, rfl⟩ : ∃ a cap, tv = .slice a rn cap := by
      obtain ⟨a, cap, h, _⟩ := htv.at
      exact ⟨a, cap, by rw [h, HRN.out]⟩
    replace c0 := Bel.keeps b7 c0
    replace c1 := Bel.keeps b7 c1
    clear htv b7 B6 F6 O6 R6
    go_wp2_with fail
    refine (spec_shapeOk _ F _ F7.out).mono ?_
    rintro e w8 ⟨t, rfl, ht, b8⟩
    have HT : Hid (t = true ↔ FnShape F) := ht
    have B8 : Hid (Below w1.heap.size w1 w8) := Bel.after B7.out b8
    have F8 : Hid (FnAt w8 (.agg #[.slice ba n bcap, .int .i64 vals]) F) := F7.out.later b8
    have O8 : Hid (IntsAt w8 (.slice oa on ocap) (orderOf F)) := O7.out.keep b8
    have R8 : Hid (BoolsAt w8 (.slice ra rn rcap) (reachedOf F)) := R7.out.keep b8
    replace c0 := Bel.keeps b8 c0
    replace c1 := Bel.keeps b8 c1
    clear ht b8 B7 F7 O7 R7
    cases t with
    | false =>
      have hno : ¬ FnShape F := fun h => by have := HT.out.2 h; cases this
      have e1 : on = 0 := by rw [← HON.out, orderOf_no hno]; rfl
      have e2 : rn = 0 := by rw [← HRN.out, reachedOf_no hno]; rfl
      subst e1
      subst e2
      clear hno
      go_wp2_with fail
      go_ret
      exact ⟨rfl, B8.out⟩
    | true =>
      have hS : FnShape F := HT.out.1 (by first | rfl | trivial)
      have HS : Hid (FnShape F) := hS
      have HRL : Hid (F.blocks.length = rn) := by rw [← reached_len hS]; exact HRN.out
      clear hS HT
      go_wp2_with fail
      go_loopw [6, 7] (fun nv i wr => ∃ k : Nat, k ≤ rn ∧ i = .int .i64 k ∧ nv = .int .i64 (reaUp F k) ∧ Below w8.heap.size w8 wr) (fun _ i _ => rn - (intOf i).toNat)
      case atStart => exact ⟨0, Nat.zero_le _, rfl, rfl, Below.refl _ _⟩
      case round =>
        obtain ⟨wq, hwq⟩ : ∃ x, x = wr := ⟨_, rfl⟩
        subst hwq
        obtain ⟨k, hk, rfl, rfl, hB⟩ := hrel
        have HW : Hid (Below w8.heap.size w8 wq) := hB
        have Bq : Hid (Below w1.heap.size w1 wq) := Bel.after B8.out hB
        have Fq : Hid (FnAt wq (.agg #[.slice ba n bcap, .int .i64 vals]) F) := F8.out.later hB
        have Oq : Hid (IntsAt wq (.slice oa on ocap) (orderOf F)) := O8.out.keep hB
        have Rq : Hid (BoolsAt wq (.slice ra rn rcap) (reachedOf F)) := R8.out.keep hB
        replace c0 := Bel.keeps hB c0
        replace c1 := Bel.keeps hB c1
        clear hB
        obtain ⟨u, HU⟩ : ∃ u, Hid (reaUp F k = u) := ⟨_, rfl⟩
        have hu : u ≤ k := by rw [← HU.out]; exact reaUp_le F k
        rw [HU.out]
        by_cases hlt : (k : Int) < (rn : Int)
        · obtain ⟨rb, roff, hra, hcell⟩ : ∃ b off, ra = some ⟨b, off, none⟩ ∧ ∀ i, i < rn → wq.cell? ⟨b, off + i, none⟩ = some (.bool ((reachedOf F).getD i false)) := by
            obtain ⟨a, cap, h, _, hc⟩ := Rq.out
            rw [HRN.out] at h hc
            obtain ⟨b, off, ha, hd⟩ := hc (by omega)
            simp at h
            exact ⟨b, off, h.1.trans ha, hd⟩
          subst hra
          obtain ⟨r, HRK⟩ : ∃ r, Hid (reaB F k = r) := ⟨_, rfl⟩
          have q0 : wq.cell? ⟨rb, roff + k, none⟩ = some (.bool r) := by
            have h := hcell k (by omega)
            rw [reached_at HS.out (by have := HRL.out; omega), HRK.out] at h
            exact h
          have HWI : Hid (decide ((k : Int) ∈ orderOf F) = r) := (orderB_mem HS.out k).trans HRK.out
          have HC : Hid (∀ i, i < rn → wq.cell? ⟨rb, roff + i, none⟩ = some (.bool ((reachedOf F).getD i false))) := hcell
          clear hcell
          have hrb : (r != r) = false := by simp
          go_wp2_with fail
          go_region_held3 (fun w' => w'.cell? ⟨rb, roff + k, none⟩ = some (.bool r)) (first | exact q0 | go_keep)
            (first | (go_at_call 13; refine (within_any _ (orderOf F) (k : Int) _ (by exact Oq.out.keep ⟨rfl, rfl, rfl, Nat.le_refl _, fun _ _ => rfl⟩)).mono ?_; rw [HWI.out]; rintro e w9 ⟨rfl, hw9⟩; subst hw9))
          obtain ⟨wd, hwd⟩ : ∃ x, wq.drew = x := ⟨_, rfl⟩
          have hbd : Below wq.heap.size wq wd := by rw [← hwd]; exact (Below.refl _ _).drew
          have HWd : Hid (Below w8.heap.size w8 wd) := Bel.after HW.out hbd
          have Bd : Hid (Below w1.heap.size w1 wd) := Bel.after Bq.out hbd
          have Fd : Hid (FnAt wd (.agg #[.slice ba n bcap, .int .i64 vals]) F) := Fq.out.later hbd
          have HCd : Hid (∀ i, i < rn → wd.cell? ⟨rb, roff + i, none⟩ = some (.bool ((reachedOf F).getD i false))) := fun i hi => Bel.keeps hbd (HC.out i hi)
          replace q0 := Bel.keeps hbd q0
          replace c0 := Bel.keeps hbd c0
          replace c1 := Bel.keeps hbd c1
          try rw [hwd]
          clear hwd hbd HC Fq Oq Rq
          simp only [Exit.then]
          go_at_K
          cases r with
          | false =>
            go_wp2_with fail
            go_roundw
            case rel => exact ⟨k + 1, by omega, by go_num, by rw [reaUp_not HRK.out, HU.out], HWd.out⟩
            case measure => simp [intOf]; omega
          | true =>
            obtain ⟨nn, HNN⟩ : ∃ x, Hid ((succsOf F k).length = x) := ⟨_, rfl⟩
            have hn9 : nn ≤ 2 := by rw [← HNN.out]; exact succsOf_two F k
            go_wp2_with fail
            refine (impl_succs _ F k _ Fd.out).mono ?_
            rintro e wz ⟨nv, rfl, hnv, bz⟩
            have Nz : Hid (IntsAt wz nv (succsOf F k)) := hnv.at
            obtain ⟨na, ncap, rfl⟩ : ∃ a cap, nv = .slice a nn cap := by
              obtain ⟨a, cap, h, _⟩ := Nz.out
              exact ⟨a, cap, by rw [h, HNN.out]⟩
            have HWz : Hid (Below w8.heap.size w8 wz) := Bel.after HWd.out bz
            have HCz : Hid (∀ i, i < rn → wz.cell? ⟨rb, roff + i, none⟩ = some (.bool ((reachedOf F).getD i false))) := fun i hi => Bel.keeps bz (HCd.out i hi)
            clear hnv bz q0 c0 c1 Fd HCd
            go_wp2_with fail
            go_loopw [9] (fun i wr => ∃ j : Nat, j ≤ nn ∧ i = .int .i64 j ∧ wr = wz) (fun i _ => nn - (intOf i).toNat)
            case atStart => exact ⟨0, Nat.zero_le _, rfl, rfl⟩
            case round =>
              obtain ⟨j, hj, rfl, rfl⟩ := hrel
              by_cases hltj : (j : Int) < (nn : Int)
              · obtain ⟨nb, noff, hna, p0⟩ : ∃ b off, na = some ⟨b, off, none⟩ ∧ wr.cell? ⟨b, off + j, none⟩ = some (.int .i64 ((succsOf F k).getD j 0)) := by
                  obtain ⟨a, cap, h, _, hc⟩ := Nz.out
                  rw [HNN.out] at h hc
                  obtain ⟨b, off, ha, hd⟩ := hc (by omega)
                  simp at h
                  exact ⟨b, off, h.1.trans ha, hd j (by omega)⟩
                subst hna
                obtain ⟨h0, h1, h2⟩ := reached_next HS.out (by have := HRL.out; omega) HRK.out (lawGetD_mem (l := succsOf F k) (i := j) (by have := HNN.out; omega))
                obtain ⟨sn, hsn⟩ : ∃ sn : Nat, (succsOf F k).getD j 0 = (sn : Int) := ⟨((succsOf F k).getD j 0).toNat, by omega⟩
                rw [hsn] at p0 h1 h2
                have hsl : sn < rn := by have := HRL.out; omega
                have p1 := HCz.out sn hsl
                rw [reached_at HS.out (by have := HRL.out; omega)] at p1
                simp only [Int.toNat_natCast] at h2
                rw [h2] at p1
                clear h0 h1 h2 hsn
                go_wp2_with fail
                go_roundw
                case rel => exact ⟨j + 1, by omega, by go_num, by first | rfl | trivial⟩
                case measure => simp [intOf]; omega
              · have hjn : nn = j := by omega
                subst hjn
                go_wp2_with fail
                go_roundw
                case rel => exact ⟨k + 1, by omega, by go_num, by rw [reaUp_yes HRK.out, HU.out]; go_num, HWz.out⟩
                case measure => simp [intOf]; omega
        · have hkn : rn = k := by omega
          subst hkn
          have hun : u = on := by rw [← HU.out, ← HON.out, ← order_count HS.out, HRL.out]
          subst hun
          obtain ⟨of0, of1⟩ := order_first HS.out
          rw [HON.out] at of1
          obtain ⟨ob, ooff, hoa, p0⟩ : ∃ b off, oa = some ⟨b, off, none⟩ ∧ wq.cell? ⟨b, off, none⟩ = some (.int .i64 0) := by
            obtain ⟨a, cap, h, _, hc⟩ := Oq.out
            rw [HON.out] at h hc
            obtain ⟨b, off, ha, hd⟩ := hc (by omega)
            simp at h
            have := hd 0 (by omega)
            rw [of0] at this
            exact ⟨b, off, h.1.trans ha, by simpa using this⟩
          subst hoa
          clear of0
          go_wp2_with fail
          go_ret
          exact ⟨by simp, Bq.out⟩

set_option maxRecDepth 100000 in
theorem lifted (os : Os) (started : os.Started) (H : Type) (enc : TypeId × Value → H) :
    ReturnsInHanded {} Try.checked os 4 .any (Rows.fnOrderSpec.pre6 enc Try.prog Try.f4 Rows.fnOrderRow.domain false) (Rows.fnOrderSpec.post enc Try.prog Try.f4 false true false false) := by
  refine returnsInHanded_of_change (C := Try.checked) own started (by kernel_rfl) Try.func4
    (ChangeSpec.witness6 (enc := enc) (C := Try.checked) false ⟨#[], #[.slice none 0 0], []⟩ 8 (by kernel_rfl) (by kernel_rfl) (by kernel_rfl) (by kernel_rfl)) ?_
  intro W base args ds gs before hval0 hW hcnd _
  have hval : ∀ (j : Nat) t v, Try.f4.params[j]? = some t → args[j]? = some v → Value.okWide Try.prog W .any base t v := hval0
  have hW' := hW
  obtain ⟨p, q, hA0, hV, rfl, hfz, hnd⟩ := hW
  have hA : DataW.TrodAll enc Try.prog W 0 (fun _ => true) true Try.f4.params.toList args.toList ds p := hA0
  rw [Try.params4] at hA hval
  obtain ⟨v0, vs0, d0, ds0, p0, q0, hargs, rfl, rfl, h0, r0x⟩ := trodAll_cons hA
  obtain ⟨rfl, rfl, rfl⟩ := trodAll_nil r0x
  obtain rfl : args = #[v0] := by cases args; simp_all
  obtain ⟨rfl, rfl⟩ := trodVars_none hV
  have k0 := h0
  have lt0 : ∀ x ∈ p0, x.block < W.heap.size := by obtain ⟨m, hm⟩ := k0; exact DataW.trod_lt m _ _ _ hm
  obtain ⟨a0, len0, cap0, rfl⟩ := okWide_slice Try.underlying22 (hval 0 22 v0 rfl rfl)
  obtain ⟨z0, r0⟩ : ∃ zs, IsRow .u8 W a0 len0 cap0 zs := by
    obtain ⟨fuel, hf⟩ := h0
    rcases open_ints Try.underlying22 Try.underlying5 (by kernel_rfl) hf with ⟨hcs, _⟩ | ⟨x, l, c, zs, hcs, _, hl, hm, hz, _, hcell, hwz⟩
    · simp [Value.cells] at hcs
      obtain ⟨rfl, rfl, rfl⟩ := hcs
      exact ⟨[], .inl ⟨rfl, rfl, rfl, rfl⟩⟩
    · simp [Value.cells] at hcs
      obtain ⟨rfl, rfl, rfl⟩ := hcs
      exact ⟨zs, .inr ⟨_, rfl, hl, hm, by simpa using hz, hcell, hwz⟩⟩
  clear hA0 hval0
  refine (walk W a0 len0 cap0 z0 r0).mono fun e W' ⟨he, bel⟩ => ?_
  subst he
  exact ⟨_, rfl, _, _, _, [], _, [], hW', trodAll_mk1 (shut_bool Try.underlying4 _), (trodAll_cons_mk (Below.trod laidOut (by kernel_rfl) (of_decide_eq_true (by kernel_rfl)) k0 bel lt0) trodAll_mk0), rfl, bel.frame _, fun h => by cases h⟩

theorem over : Rows.fnOrderRow.holds Try.pinned (OpenSpec.ofChange Rows.fnOrderSpec) :=
  OpenClaim.holds_of_wide 4 Try.f4 rfl rfl rfl rfl rfl rfl rfl ⟨rfl, rfl, rfl, rfl, rfl⟩ rfl rfl rfl rfl rfl (by kernel_rfl) Try.func4 (by kernel_rfl)
    (of_decide_eq_true (by kernel_rfl)) (by unfold Func.isWrapper; first | (rw [if_pos (by decide +kernel)]; kernel_rfl) | (rw [if_neg (by decide +kernel)]; exact ⟨rfl, rfl⟩))
    (fun os started H enc _ => lifted os started H enc)

/-- The statement. -/
theorem proved : Rows.FnOrderSaid := over
#print axioms proved
end Go.Proofs.Ytlmkipmkanhcfaa.fnOrder
