/- Proved: for every draw a program with more fuel than it needs tells the same, with less it tells the beginning; no condition. -/
import Derived.Test.YtkpddakmcnknjaaRows
import Derived.Test.YtkpddakmcnknjaaRunAll
import Derived.WalkKit
import Derived.ProofKit
import Derived.OpenShut
import Derived.ShutString
import Derived.ChangeOld
import Derived.Below
namespace Go.Proofs.Ytkpddakmcnknjaa.fnFuel
open Go.ChangeShapes Go.WideShapes Go.ChangeAt Go.RowKit
open Go.ChangeMaps (open_string shut_string)
set_option linter.unusedVariables false

theorem own : ownKnob Try.prog.godebug = none := by kernel_rfl
theorem laidOut : laidOutB Try.prog = true := by kernel_rfl

set_option maxRecDepth 100000 in
set_option maxHeartbeats 32000000 in
set_option maxHeartbeats 4000000 in
theorem walk (w : World) (a0 : Option Addr) (len0 cap0 : Nat) (z0 : List Int) (r0 : IsRow .u8 w a0 len0 cap0 z0) :
    Calls Try.prog 3 #[.slice a0 len0 cap0] w fun e w' => e = .returned (.bool true) ∧ Below w.heap.size w w' := by
  have HR : Hid (IsRow .u8 w a0 len0 cap0 z0) := r0
  clear r0
  go_enter Try.func3, Try.ntmps3
  go_wp2_with fail
  refine (big_any a0 len0 cap0 _).mono ?_
  rintro e w1 ⟨t, rfl, rfl⟩
  cases t with
  | true =>
    go_wp2_with fail
    go_ret
    exact ⟨rfl, Below.refl _ _⟩
  | false =>
    go_wp2_with fail
    refine (drawRun_any a0 len0 cap0 z0 _ HR.out).mono ?_
    rintro e w2 ⟨v, F, rv, rd, fu, rfl, hF, hn0, hn9, orv, hl6, hfu0, hfu1, b2⟩
    obtain ⟨n, HN⟩ : ∃ n, Hid (F.blocks.length = n) := ⟨_, rfl⟩
    obtain ⟨vals, HV⟩ : ∃ x, Hid (F.values = x) := ⟨_, rfl⟩
    have F2 : Hid (FnAt w2 v F) := FnAtLo.low (Nat.zero_le _) hF
    obtain ⟨ba, bcap, rfl⟩ := F2.out.out HN.out HV.out
    have B2 : Hid (Below w1.heap.size w1 w2) := b2
    have OR2 : Hid (OwnInts w2 w1.heap.size rv rd) := orv
    obtain ⟨rn, HRN⟩ : ∃ q, Hid (rd.length = q) := ⟨_, rfl⟩
    rw [HRN.out] at hl6
    obtain ⟨ra, rc, rfl, hrc, hrm⟩ : ∃ a c, rv = .slice a rn c ∧ rn ≤ c ∧ c ≤ 9223372036854775807 := by
      obtain ⟨a, c, e, h1, h2, _⟩ := orv.shape
      rw [HRN.out] at e h1
      exact ⟨a, c, e, h1, h2⟩
    have HL2 : Hid (rd.length ≤ 2000000) := by have := HRN.out; show rd.length ≤ 2000000; omega
    clear hF b2 orv hn0 hn9
    obtain ⟨⟨L, hw, en⟩, HL⟩ : ∃ p, Hid (runOf F rd fu = p) := ⟨_, rfl⟩
    have hlen : L.length ≤ 6000 := by have h := runOf_len F rd fu; rw [HL.out] at h; exact h
    have hdw : (hw != hw) = false := by simp
    have hde : (en != en) = false := by simp
    have hdw2 : (hw == hw) = true := by simp
    have hde2 : (en == en) = true := by simp
    have hd : decide (L = L) = true := by simp
    obtain ⟨ln, HLN⟩ : ∃ q, Hid (L.length = q) := ⟨_, rfl⟩
    rw [HLN.out] at hlen
    go_wp2_with fail
    refine (impl_run _ _ F rd fu _ (F2.out.later (Bel.alloc _ _)) (OR2.out.keep (Bel.alloc _ _)).readsL).mono ?_
    rw [HL.out]
    dsimp only [GivesTold]
    rintro e w3 ⟨av, rfl, oa, b3⟩
    have B3 : Hid (Below w1.heap.size w1 w3) := Bel.after (Bel.after B2.out (Bel.alloc _ _)) b3
    have F3 : Hid (FnAt w3 (.agg #[.slice ba n bcap, .int .i64 vals]) F) := (F2.out.later (Bel.alloc _ _)).later b3
    have OR3 : Hid (OwnInts w3 w1.heap.size (.slice ra rn rc) rd) := (OR2.out.keep (Bel.alloc _ _)).keep b3
    have c0 := box_cell b3 0
    have c1 := box_cell b3 1
    simp at c0 c1
    have OA3 : Hid (IntsAt w3 av L) := oa.at
    obtain ⟨aa, acap, rfl, hac, ham⟩ : ∃ a c, av = .slice a ln c ∧ ln ≤ c ∧ c ≤ 9223372036854775807 := by
      obtain ⟨a, c, e, h1, h2, _⟩ := oa.shape
      rw [HLN.out] at e h1
      exact ⟨a, c, e, h1, h2⟩
    clear b3 F2 B2 OR2 oa
    obtain ⟨FB, hFB⟩ : ∃ x, w2.heap.size = x := ⟨_, rfl⟩
    rw [hFB] at c0 c1 ⊢
    clear hFB
    go_wp2_with fail
    refine (spec_run _ _ F rd fu _ F3.out OR3.out.readsL HL2.out).mono ?_
    rw [HL.out]
    dsimp only [GivesTold]
    rintro e w4 ⟨bv, rfl, ob, b4⟩
    have B4 : Hid (Below w1.heap.size w1 w4) := Bel.after B3.out b4
    have F4 : Hid (FnAt w4 (.agg #[.slice ba n bcap, .int .i64 vals]) F) := F3.out.later b4
    have OR4 : Hid (OwnInts w4 w1.heap.size (.slice ra rn rc) rd) := OR3.out.keep b4
    have OA4 : Hid (IntsAt w4 (.slice aa ln acap) L) := OA3.out.keep b4
    have OB4 : Hid (IntsAt w4 bv L) := ob.at
    replace c0 := Bel.keeps b4 c0
    replace c1 := Bel.keeps b4 c1
    clear b4 ob F3 B3 OR3 OA3
    go_wp2_with fail
    refine (sameInts_any _ _ L L _ OA4.out OB4.out).mono ?_
    rintro e w5 ⟨rfl, b5⟩
    have B5 : Hid (Below w1.heap.size w1 w5) := Bel.after B4.out b5
    have F5 : Hid (FnAt w5 (.agg #[.slice ba n bcap, .int .i64 vals]) F) := F4.out.later b5
    have OR5 : Hid (OwnInts w5 w1.heap.size (.slice ra rn rc) rd) := OR4.out.keep b5
    have OA5 : Hid (IntsAt w5 (.slice aa ln acap) L) := OA4.out.keep b5
    replace c0 := Bel.keeps b5 c0
    replace c1 := Bel.keeps b5 c1
    clear b5 F4 B4 OR4 OA4 OB4
    rcases runOf_cases F rd fu with ⟨hS, hf⟩ | ⟨hno, hrun⟩
    · have HS : Hid (FnShape F) := hS
      have hhow : hw = 0 ∨ hw = 1 ∨ hw = 2 := by
        have h := runOf_how hS hf rd
        rw [HL.out] at h
        exact h
      have hw3 : (hw == 3) = false := by
        rcases hhow with h | h | h <;> rw [h] <;> rfl
      obtain ⟨⟨L2, hq2, en2⟩, HL2q⟩ : ∃ p, Hid (runOf F rd (fu + 10) = p) := ⟨_, rfl⟩
      obtain ⟨fh, hfh⟩ : ∃ x, fu / 2 = x := ⟨_, rfl⟩
      have hv2 : 0 ≤ fh := by omega
      have hv3 : fh ≤ fu := by omega
      have HFH : Hid (fu / 2 = fh) := hfh
      obtain ⟨⟨L3, hq3, en3⟩, HL3⟩ : ∃ p, Hid (runOf F rd fh = p) := ⟨_, rfl⟩
      have hp3 : L3 <+: L := by
        have h := runOf_begin hS hv2 hv3 rd
        rw [HL.out, HL3.out] at h
        exact h
      have HP3 : Hid (L.take L3.length = L3) := (prefix_take hp3).2
      obtain ⟨l3, HL3N⟩ : ∃ q, Hid (L3.length = q) := ⟨_, rfl⟩
      have hl3 : (l3 : Int) ≤ (ln : Int) := by have := (prefix_take hp3).1; have := HL3N.out; have := HLN.out; omega
      have hp2 : L <+: L2 := by
        have h := runOf_begin hS hf (by omega : fu ≤ fu + 10) rd
        rw [HL.out, HL2q.out] at h
        exact h
      have HP2 : Hid (L2.take L.length = L) := (prefix_take hp2).2
      obtain ⟨l2, HL2N⟩ : ∃ q, Hid (L2.length = q) := ⟨_, rfl⟩
      have hl2 : (ln : Int) ≤ (l2 : Int) := by have := (prefix_take hp2).1; have := HL2N.out; have := HLN.out; omega
      have HEQ : Hid (hw ≠ 1 → L2 = L ∧ hq2 = hw ∧ en2 = en) := fun h1 => by
        have h := runOf_more hS hf (by omega : fu ≤ fu + 10) rd (by rw [HL.out]; exact h1)
        rw [HL.out, HL2q.out] at h
        simp only [Prod.mk.injEq] at h
        exact h
      rw [HL3N.out] at HP3
      rw [HLN.out] at HP2
      have ew : IntKind.i64.wrap (fu + 10) = fu + 10 := by rw [IntKind.wrap_i64]; omega
      clear hp2 hp3 hhow hfh hS
      go_wp2_with fail
      refine (impl_run _ _ F rd (fu + 10) _ F5.out OR5.out.readsL).mono ?_
      rw [HL2q.out]
      dsimp only [GivesTold]
      rintro e w6 ⟨cv, rfl, oc, b6⟩
      have B6 : Hid (Below w1.heap.size w1 w6) := Bel.after B5.out b6
      have F6 : Hid (FnAt w6 (.agg #[.slice ba n bcap, .int .i64 vals]) F) := F5.out.later b6
      have OR6 : Hid (OwnInts w6 w1.heap.size (.slice ra rn rc) rd) := OR5.out.keep b6
      have OA6 : Hid (IntsAt w6 (.slice aa ln acap) L) := OA5.out.keep b6
      have OC6 : Hid (IntsAt w6 cv L2) := oc.at
      obtain ⟨ca, ccap, rfl, hcc, hcm⟩ : ∃ a c, cv = .slice a l2 c ∧ l2 ≤ c ∧ c ≤ 9223372036854775807 := by
        obtain ⟨a, c, e, h1, h2, _⟩ := oc.shape
        rw [HL2N.out] at e h1
        exact ⟨a, c, e, h1, h2⟩
      replace c0 := Bel.keeps b6 c0
      replace c1 := Bel.keeps b6 c1
      clear b6 oc F5 B5 OR5 OA5
      go_wp2_with fail
      rw [HFH.out]
      refine (impl_run _ _ F rd fh _ F6.out OR6.out.readsL).mono ?_
      rw [HL3.out]
      dsimp only [GivesTold]
      rintro e w7 ⟨dv, rfl, od, b7⟩
      have B7 : Hid (Below w1.heap.size w1 w7) := Bel.after B6.out b7
      have OA7 : Hid (IntsAt w7 (.slice aa ln acap) L) := OA6.out.keep b7
      have OC7 : Hid (IntsAt w7 (.slice ca l2 ccap) L2) := OC6.out.keep b7
      have OD7 : Hid (IntsAt w7 dv L3) := od.at
      obtain ⟨da, dcap, rfl, hdc, hdm⟩ : ∃ a c, dv = .slice a l3 c ∧ l3 ≤ c ∧ c ≤ 9223372036854775807 := by
        obtain ⟨a, c, e, h1, h2, _⟩ := od.shape
        rw [HL3N.out] at e h1
        exact ⟨a, c, e, h1, h2⟩
      clear b7 od F6 B6 OR6 OA6 OC6 c0 c1
      have hl3c : (l3 : Int) ≤ (acap : Int) := by omega
      have hl2c : (ln : Int) ≤ (ccap : Int) := by omega
      have hn3 : ¬ (ln : Int) < (l3 : Int) := by omega
      go_wp2_with fail
      refine (sameInts_any _ _ L3 (L.take l3) _ OD7.out (OA7.out.first (by omega))).mono ?_
      rw [decide_eq_true (HP3.out.symm : L3 = L.take l3)]
      rintro e w8 ⟨rfl, b8⟩
      have B8 : Hid (Below w1.heap.size w1 w8) := Bel.after B7.out b8
      have OA8 : Hid (IntsAt w8 (.slice aa ln acap) L) := OA7.out.keep b8
      have OC8 : Hid (IntsAt w8 (.slice ca l2 ccap) L2) := OC7.out.keep b8
      clear b8 OA7 OC7 OD7 B7
      by_cases h1 : hw = 1
      · subst h1
        go_wp2_with fail
        refine (sameInts_any _ _ L (L2.take ln) _ OA8.out (OC8.out.first (by omega))).mono ?_
        rw [decide_eq_true (HP2.out.symm : L = L2.take ln)]
        rintro e w9 ⟨rfl, b9⟩
        go_wp2_with fail
        go_ret
        exact ⟨rfl, Bel.after B8.out b9⟩
      · obtain ⟨e1, e2, e3⟩ := HEQ.out h1
        subst e1
        subst e2
        subst e3
        have hw1 : (hq2 == 1) = false := by simp [h1]
        go_wp2_with fail
        refine (sameInts_any _ _ L2 L2 _ OA8.out OC8.out).mono ?_
        rintro e w9 ⟨rfl, b9⟩
        go_wp2_with fail
        go_ret
        exact ⟨rfl, Bel.after B8.out b9⟩
    · have e0 := HL.out.symm.trans hrun
      simp only [Prod.mk.injEq] at e0
      obtain ⟨e1, e2, e3⟩ := e0
      subst e1
      subst e2
      subst e3
      have hl0 : ln = 0 := HLN.out.symm
      subst hl0
      by_cases hf : fu < 0
      · go_wp2_with fail
        go_ret
        exact ⟨rfl, B5.out⟩
      · have HNS : Hid (¬ FnShape F) := fun hS => hno ⟨hS, by omega⟩
        clear hno hrun
        go_wp2_with fail
        refine (impl_shapeOk _ F _ F5.out).mono ?_
        rintro e w6 ⟨t, rfl, ht, b6⟩
        cases t with
        | true => exact absurd (ht.1 rfl) HNS.out
        | false =>
          go_wp2_with fail
          go_ret
          exact ⟨rfl, Bel.after B5.out b6⟩

set_option maxRecDepth 100000 in
theorem lifted (os : Os) (started : os.Started) (H : Type) (enc : TypeId × Value → H) :
    ReturnsInHanded {} Try.checked os 3 .any (Rows.fnFuelSpec.pre6 enc Try.prog Try.f3 Rows.fnFuelRow.domain false) (Rows.fnFuelSpec.post enc Try.prog Try.f3 false true false false) := by
  refine returnsInHanded_of_change (C := Try.checked) own started (by kernel_rfl) Try.func3
    (ChangeSpec.witness6 (enc := enc) (C := Try.checked) false ⟨#[], #[.slice none 0 0], []⟩ 8 (by kernel_rfl) (by kernel_rfl) (by kernel_rfl) (by kernel_rfl)) ?_
  intro W base args ds gs before hval0 hW hcnd _
  have hval : ∀ (j : Nat) t v, Try.f3.params[j]? = some t → args[j]? = some v → Value.okWide Try.prog W .any base t v := hval0
  have hW' := hW
  obtain ⟨p, q, hA0, hV, rfl, hfz, hnd⟩ := hW
  have hA : DataW.TrodAll enc Try.prog W 0 (fun _ => true) true Try.f3.params.toList args.toList ds p := hA0
  rw [Try.params3] at hA hval
  obtain ⟨v0, vs0, d0, ds0, p0, q0, hargs, rfl, rfl, h0, r0x⟩ := trodAll_cons hA
  obtain ⟨rfl, rfl, rfl⟩ := trodAll_nil r0x
  obtain rfl : args = #[v0] := by cases args; simp_all
  obtain ⟨rfl, rfl⟩ := trodVars_none hV
  have k0 := h0
  have lt0 : ∀ x ∈ p0, x.block < W.heap.size := by obtain ⟨m, hm⟩ := k0; exact DataW.trod_lt m _ _ _ hm
  obtain ⟨a0, len0, cap0, rfl⟩ := okWide_slice Try.underlying22 (hval 0 22 v0 rfl rfl)
  obtain ⟨z0, r0⟩ : ∃ zs, IsRow .u8 W a0 len0 cap0 zs := by
    obtain ⟨fuel, hf⟩ := h0
    rcases open_ints Try.underlying22 Try.underlying5 (by kernel_rfl) hf with ⟨hcs, _⟩ | ⟨x, l, c, zs, hcs, _, hl, hm, hz, _, hcell, hwz⟩
    · simp [Value.cells] at hcs
      obtain ⟨rfl, rfl, rfl⟩ := hcs
      exact ⟨[], .inl ⟨rfl, rfl, rfl, rfl⟩⟩
    · simp [Value.cells] at hcs
      obtain ⟨rfl, rfl, rfl⟩ := hcs
      exact ⟨zs, .inr ⟨_, rfl, hl, hm, by simpa using hz, hcell, hwz⟩⟩
  clear hA0 hval0
  refine (walk W a0 len0 cap0 z0 r0).mono fun e W' ⟨he, bel⟩ => ?_
  subst he
  exact ⟨_, rfl, _, _, _, [], _, [], hW', trodAll_mk1 (shut_bool Try.underlying4 _), (trodAll_cons_mk (Below.trod laidOut (by kernel_rfl) (of_decide_eq_true (by kernel_rfl)) k0 bel lt0) trodAll_mk0), rfl, bel.frame _, fun h => by cases h⟩

theorem over : Rows.fnFuelRow.holds Try.pinned (OpenSpec.ofChange Rows.fnFuelSpec) :=
  OpenClaim.holds_of_wide 3 Try.f3 rfl rfl rfl rfl rfl rfl rfl ⟨rfl, rfl, rfl, rfl, rfl⟩ rfl rfl rfl rfl rfl (by kernel_rfl) Try.func3 (by kernel_rfl)
    (of_decide_eq_true (by kernel_rfl)) (by unfold Func.isWrapper; first | (rw [if_pos (by decide +kernel)]; kernel_rfl) | (rw [if_neg (by decide +kernel)]; exact ⟨rfl, rfl⟩))
    (fun os started H enc _ => lifted os started H enc)

/-- The statement. -/
theorem proved : Rows.FnFuelSaid := over
#print axioms proved
end Go.Proofs.Ytkpddakmcnknjaa.fnFuel
