/- Proved: where a drawn value is made something makes it, and nothing ahead of that does. -/
import Derived.Test.YtlmkipmkanhcfaaRows
import Derived.Test.YtlmkipmkanhcfaaDrawD
import Derived.Test.YtlmkipmkanhcfaaDefLaw
import Derived.Test.YtlmkipmkanhcfaaLawBits
import Derived.Test.YtlmkipmkanhcfaaImplDefAt
import Derived.Test.YtlmkipmkanhcfaaSpecDefAt
import Derived.Test.YtlmkipmkanhcfaaSSuccs
import Derived.WalkKit
import Derived.ProofKit
import Derived.OpenShut
import Derived.ShutString
import Derived.ChangeOld
import Derived.Below
namespace Go.Proofs.Ytlmkipmkanhcfaa.fnDefAt
open Go.ChangeShapes Go.WideShapes Go.ChangeAt Go.RowKit
open Go.ChangeMaps (open_string shut_string)
set_option linter.unusedVariables false

theorem own : ownKnob Try.prog.godebug = none := by kernel_rfl
theorem laidOut : laidOutB Try.prog = true := by kernel_rfl

set_option maxRecDepth 100000 in
set_option maxHeartbeats 32000000 in
set_option maxHeartbeats 4000000 in
theorem walk (w : World) (a0 : Option Addr) (len0 cap0 : Nat) (z0 : List Int) (r0 : IsRow .u8 w a0 len0 cap0 z0) :
    Calls Try.prog 6 #[.slice a0 len0 cap0] w fun e w' => e = .returned (.bool true) ∧ Below w.heap.size w w' := by
  have HR : Hid (IsRow .u8 w a0 len0 cap0 z0) := r0
  clear r0
  go_enter Try.func6, Try.ntmps6
  go_wp2_with fail
  refine (big_any a0 len0 cap0 _).mono ?_
  rintro e w1 ⟨t, rfl, rfl⟩
  cases t with
  | true =>
    go_wp2_with fail
    go_ret
    exact ⟨rfl, Below.refl _ _⟩
  | false =>
    go_wp2_with fail
    refine (drawDefAt_any a0 len0 cap0 z0 _ HR.out).mono ?_
    rintro e w2 ⟨v, F, x, rfl, hF, b2⟩
    obtain ⟨n, HN⟩ : ∃ n, Hid (F.blocks.length = n) := ⟨_, rfl⟩
    obtain ⟨vals, HV⟩ : ∃ x, Hid (F.values = x) := ⟨_, rfl⟩
    have F2 : Hid (FnAt w2 v F) := FnAtLo.low (Nat.zero_le _) hF
    obtain ⟨ba, bcap, rfl⟩ := F2.out.out HN.out HV.out
    have B2 : Hid (Below w1.heap.size w1 w2) := b2
    clear hF b2
    obtain ⟨q1, HQ1⟩ : ∃ q, Hid ((defAtOf F x).1 = q) := ⟨_, rfl⟩
    obtain ⟨q2, HQ2⟩ : ∃ q, Hid ((defAtOf F x).2 = q) := ⟨_, rfl⟩
    have hd1 : (q1 != q1) = false := by simp
    have hd2 : (q2 != q2) = false := by simp
    go_wp2_with fail
    refine (impl_defAt _ F x _ (F2.out.later (Bel.alloc _ _))).mono ?_
    rintro e w3 ⟨rfl, b3⟩
    rw [HQ1.out, HQ2.out]
    have B3 : Hid (Below w1.heap.size w1 w3) := Bel.after (Bel.after B2.out (Bel.alloc _ _)) b3
    have F3 : Hid (FnAt w3 (.agg #[.slice ba n bcap, .int .i64 vals]) F) := (F2.out.later (Bel.alloc _ _)).later b3
    have c0 := box_cell b3 0
    have c1 := box_cell b3 1
    simp at c0 c1
    clear b3 F2 B2
    obtain ⟨FB, hFB⟩ : ∃ x, w2.heap.size = x := ⟨_, rfl⟩
    rw [hFB] at c0 c1 ⊢
    clear hFB
    go_wp2_with fail
    refine (spec_defAt _ F x _ F3.out).mono ?_
    rintro e w4 ⟨rfl, b4⟩
    rw [HQ1.out, HQ2.out]
    have B4 : Hid (Below w1.heap.size w1 w4) := Bel.after B3.out b4
    have F4 : Hid (FnAt w4 (.agg #[.slice ba n bcap, .int .i64 vals]) F) := F3.out.later b4
    replace c0 := Bel.keeps b4 c0
    replace c1 := Bel.keeps b4 c1
    clear b4 F3 B3
    rcases defAt_cases F x with hc | ⟨b, y, j, p, hy, hp, hpx, hc⟩ | ⟨b, y, j, i, hy, hi, hix, hc⟩
    · have e1 : q1 = -1 := by rw [← HQ1.out, hc]
      have e2 : q2 = -2 := by rw [← HQ2.out, hc]
      subst e1
      subst e2
      clear hc
      go_wp2_with fail
      go_ret
      exact ⟨rfl, B4.out⟩
    · have e1 : q1 = (b : Int) := by rw [← HQ1.out, hc]
      have e2 : q2 = -1 := by rw [← HQ2.out, hc]
      subst e1
      subst e2
      have hbl : b < n := by have h1 := (List.getElem?_eq_some_iff.1 hy).1; have h2 := HN.out; omega
      obtain ⟨bb, off, hba, pv, lv, k0, -, -, -, -, -, hpv, -⟩ : ∃ bb off, ba = some ⟨bb, off, none⟩ ∧ BlockAt 0 w4 bb (off + b * 6) y := by
        obtain ⟨bv, hv, a, cap, e, h1, h2⟩ := F4.out
        obtain ⟨bb, off, ha, _, hc⟩ := h2 (by have := HN.out; omega)
        obtain rfl : bv = .slice ba n bcap := by simp at hv; exact hv.1.symm
        simp at e
        exact ⟨bb, off, e.1.trans ha, hc b y hy⟩
      subst hba
      obtain ⟨x0, x1, xt⟩ := y
      have HPV : Hid (ListAt 0 2 (PhiAt 0) w4 pv x0) := hpv
      obtain ⟨pa, pcap, rfl, hpm, -⟩ := hpv
      obtain ⟨pn, HPN⟩ : ∃ n, Hid (x0.length = n) := ⟨_, rfl⟩
      rw [HPN.out] at hpm k0
      have HP : Hid (x0[j]? = some p ∧ p.d = x) := ⟨hp, hpx⟩
      have hjl : j < pn := by have h1 := (List.getElem?_eq_some_iff.1 hp).1; have h2 := HPN.out; dsimp only at h1; omega
      clear hc hp hpx hy
      go_wp2_with fail
      go_loopw [9, 10] (fun mv i wr => ∃ (k : Nat) (m : Bool), k ≤ pn ∧ i = .int .i64 k ∧ mv = .bool m ∧ (j < k → m = true) ∧ wr = w4) (fun _ i _ => pn - (intOf i).toNat)
      case atStart => exact ⟨0, false, Nat.zero_le _, rfl, rfl, fun h => absurd h (by omega), rfl⟩
      case round =>
        obtain ⟨k, m, hk, rfl, rfl, hm, rfl⟩ := hrel
        have HM : Hid (j < k → m = true) := hm
        clear hm
        by_cases hlt : (k : Int) < (pn : Int)
        · cases m with
          | true =>
            go_wp2_with fail
            go_roundw
            case rel => exact ⟨k + 1, true, by omega, by go_num, rfl, fun _ => rfl, by first | rfl | trivial⟩
            case measure => simp [intOf]; omega
          | false =>
            have hkl : k < x0.length := by have := HPN.out; omega
            obtain ⟨p', HX2⟩ : ∃ p, Hid (x0[k]? = some p) := ⟨x0[k], List.getElem?_eq_getElem hkl⟩
            obtain ⟨b', off', hpa, p0, -⟩ : ∃ b off, pa = some ⟨b, off, none⟩ ∧ PhiAt 0 wr b (off + k * 2) p' := by
              obtain ⟨a, cap, e, h1, h2⟩ := HPV.out
              obtain ⟨b, off, ha, _, hc⟩ := h2 (by omega)
              simp at e
              exact ⟨b, off, e.1.trans ha, hc k p' HX2.out⟩
            subst hpa
            obtain ⟨pd, arms⟩ := p'
            dsimp only at p0
            clear hkl
            have HK : Hid (j < k + 1 → (pd == x) = true) := fun h => by
              by_cases e : j = k
              · subst e
                have h1 := HP.out.1.symm.trans HX2.out
                have h2 := HP.out.2
                cases h1
                simpa using h2
              · have := HM.out (by omega)
                cases this
            obtain ⟨r, hr⟩ : ∃ r, (pd == x) = r := ⟨_, rfl⟩
            rw [hr] at HK
            go_wp2_with fail
            go_roundw
            case rel => exact ⟨k + 1, r, by omega, by go_num, rfl, HK.out, by first | rfl | trivial⟩
            case measure => simp [intOf]; omega
        · have hm : m = true := HM.out (by omega)
          subst hm
          go_wp2_with fail
          go_ret
          exact ⟨rfl, B4.out⟩
    · have e1 : q1 = (b : Int) := by rw [← HQ1.out, hc]
      have e2 : q2 = (j : Int) := by rw [← HQ2.out, hc]
      subst e1
      subst e2
      have hbl : b < n := by have h1 := (List.getElem?_eq_some_iff.1 hy).1; have h2 := HN.out; omega
      obtain ⟨bb, off, hba, pv, lv, -, k1, -, -, -, -, -, hlv⟩ : ∃ bb off, ba = some ⟨bb, off, none⟩ ∧ BlockAt 0 w4 bb (off + b * 6) y := by
        obtain ⟨bv, hv, a, cap, e, h1, h2⟩ := F4.out
        obtain ⟨bb, off, ha, _, hc⟩ := h2 (by have := HN.out; omega)
        obtain rfl : bv = .slice ba n bcap := by simp at hv; exact hv.1.symm
        simp at e
        exact ⟨bb, off, e.1.trans ha, hc b y hy⟩
      subst hba
      obtain ⟨x0, x1, xt⟩ := y
      dsimp only at hi hlv
      obtain ⟨la, lcap, rfl, hlm, hl⟩ := hlv
      obtain ⟨ln, HLN⟩ : ∃ n, Hid (x1.length = n) := ⟨_, rfl⟩
      have hjl : j < ln := by have h1 := (List.getElem?_eq_some_iff.1 hi).1; have h2 := HLN.out; omega
      rw [HLN.out] at hlm k1 hl
      obtain ⟨b', off', rfl, _, hins⟩ := hl (by omega)
      obtain ⟨p0, p1, p2, p3, p4⟩ := hins j i hi
      obtain ⟨iop, id, ia, ib, ic⟩ := i
      dsimp only at p0 p1 p2 p3 p4 hix
      have HIX : Hid (insDefV iop id = x) := hix
      have hj2 : ((j : Int) == -2) = false := by simp
      clear hc hy hi hins hix hl
      go_wp2_with fail
      refine (impl_insDef iop id ia ib ic _).mono ?_
      rw [HIX.out]
      rintro e w5 ⟨rfl, b5⟩
      have B5 : Hid (Below w1.heap.size w1 w5) := Bel.after B4.out b5
      have hxx : (x == x) = true := by simp
      clear b5
      go_wp2_with fail
      go_ret
      exact ⟨by simp, B5.out⟩

set_option maxRecDepth 100000 in
theorem lifted (os : Os) (started : os.Started) (H : Type) (enc : TypeId × Value → H) :
    ReturnsInHanded {} Try.checked os 6 .any (Rows.fnDefAtSpec.pre6 enc Try.prog Try.f6 Rows.fnDefAtRow.domain false) (Rows.fnDefAtSpec.post enc Try.prog Try.f6 false true false false) := by
  refine returnsInHanded_of_change (C := Try.checked) own started (by kernel_rfl) Try.func6
    (ChangeSpec.witness6 (enc := enc) (C := Try.checked) false ⟨#[], #[.slice none 0 0], []⟩ 8 (by kernel_rfl) (by kernel_rfl) (by kernel_rfl) (by kernel_rfl)) ?_
  intro W base args ds gs before hval0 hW hcnd _
  have hval : ∀ (j : Nat) t v, Try.f6.params[j]? = some t → args[j]? = some v → Value.okWide Try.prog W .any base t v := hval0
  have hW' := hW
  obtain ⟨p, q, hA0, hV, rfl, hfz, hnd⟩ := hW
  have hA : DataW.TrodAll enc Try.prog W 0 (fun _ => true) true Try.f6.params.toList args.toList ds p := hA0
  rw [Try.params6] at hA hval
  obtain ⟨v0, vs0, d0, ds0, p0, q0, hargs, rfl, rfl, h0, r0x⟩ := trodAll_cons hA
  obtain ⟨rfl, rfl, rfl⟩ := trodAll_nil r0x
  obtain rfl : args = #[v0] := by cases args; simp_all
  obtain ⟨rfl, rfl⟩ := trodVars_none hV
  have k0 := h0
  have lt0 : ∀ x ∈ p0, x.block < W.heap.size := by obtain ⟨m, hm⟩ := k0; exact DataW.trod_lt m _ _ _ hm
  obtain ⟨a0, len0, cap0, rfl⟩ := okWide_slice Try.underlying22 (hval 0 22 v0 rfl rfl)
  obtain ⟨z0, r0⟩ : ∃ zs, IsRow .u8 W a0 len0 cap0 zs := by
    obtain ⟨fuel, hf⟩ := h0
    rcases open_ints Try.underlying22 Try.underlying5 (by kernel_rfl) hf with ⟨hcs, _⟩ | ⟨x, l, c, zs, hcs, _, hl, hm, hz, _, hcell, hwz⟩
    · simp [Value.cells] at hcs
      obtain ⟨rfl, rfl, rfl⟩ := hcs
      exact ⟨[], .inl ⟨rfl, rfl, rfl, rfl⟩⟩
    · simp [Value.cells] at hcs
      obtain ⟨rfl, rfl, rfl⟩ := hcs
      exact ⟨zs, .inr ⟨_, rfl, hl, hm, by simpa using hz, hcell, hwz⟩⟩
  clear hA0 hval0
  refine (walk W a0 len0 cap0 z0 r0).mono fun e W' ⟨he, bel⟩ => ?_
  subst he
  exact ⟨_, rfl, _, _, _, [], _, [], hW', trodAll_mk1 (shut_bool Try.underlying4 _), (trodAll_cons_mk (Below.trod laidOut (by kernel_rfl) (of_decide_eq_true (by kernel_rfl)) k0 bel lt0) trodAll_mk0), rfl, bel.frame _, fun h => by cases h⟩

theorem over : Rows.fnDefAtRow.holds Try.pinned (OpenSpec.ofChange Rows.fnDefAtSpec) :=
  OpenClaim.holds_of_wide 6 Try.f6 rfl rfl rfl rfl rfl rfl rfl ⟨rfl, rfl, rfl, rfl, rfl⟩ rfl rfl rfl rfl rfl (by kernel_rfl) Try.func6 (by kernel_rfl)
    (of_decide_eq_true (by kernel_rfl)) (by unfold Func.isWrapper; first | (rw [if_pos (by decide +kernel)]; kernel_rfl) | (rw [if_neg (by decide +kernel)]; exact ⟨rfl, rfl⟩))
    (fun os started H enc _ => lifted os started H enc)

/-- The statement. -/
theorem proved : Rows.FnDefAtSaid := over
#print axioms proved
end Go.Proofs.Ytlmkipmkanhcfaa.fnDefAt
