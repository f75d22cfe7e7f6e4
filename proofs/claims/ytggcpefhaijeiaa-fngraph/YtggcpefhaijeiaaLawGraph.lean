/- Proved: of a drawn program a block follows another one just if that one comes ahead of it. -/
import Derived.Test.YtggcpefhaijeiaaRows
import Derived.Test.YtggcpefhaijeiaaGraphBits
import Derived.Test.YtggcpefhaijeiaaLawMath
import Derived.Test.YtggcpefhaijeiaaLawBits
import Derived.Test.YtggcpefhaijeiaaSuccs
import Derived.Test.YtggcpefhaijeiaaSSuccs
import Derived.Test.YtggcpefhaijeiaaPreds2
import Derived.WalkKit
import Derived.ProofKit
import Derived.OpenShut
import Derived.ShutString
import Derived.ChangeOld
import Derived.Below
namespace Go.Proofs.Ytggcpefhaijeiaa.fnGraph
open Go.ChangeShapes Go.WideShapes Go.ChangeAt Go.RowKit
open Go.ChangeMaps (open_string shut_string)
set_option linter.unusedVariables false

theorem own : ownKnob Try.prog.godebug = none := by kernel_rfl
theorem laidOut : laidOutB Try.prog = true := by kernel_rfl

set_option maxRecDepth 100000 in
set_option maxHeartbeats 32000000 in
set_option maxHeartbeats 4000000 in
theorem walk (w : World) (a0 : Option Addr) (len0 cap0 : Nat) (z0 : List Int) (r0 : IsRow .u8 w a0 len0 cap0 z0) :
    Calls Try.prog 3 #[.slice a0 len0 cap0] w fun e w' => e = .returned (.bool true) ∧ Below w.heap.size w w' := by
  have HR : Hid (IsRow .u8 w a0 len0 cap0 z0) := r0
  clear r0
  go_enter Try.func3, Try.ntmps3
  go_wp2_with fail
  refine (big_any a0 len0 cap0 _).mono ?_
  rintro e w1 ⟨t, rfl, rfl⟩
  cases t with
  | true =>
    go_wp2_with fail
    go_ret
    exact ⟨rfl, Below.refl _ _⟩
  | false =>
    go_wp2_with fail
    refine (drawSuccs_any a0 len0 cap0 z0 _ HR.out).mono ?_
    rintro e w2 ⟨v, F, b, rfl, hF, hn0, hn9, hb0, hb9, b2⟩
    obtain ⟨n, HN⟩ : ∃ n, Hid (F.blocks.length = n) := ⟨_, rfl⟩
    obtain ⟨vals, HV⟩ : ∃ x, Hid (F.values = x) := ⟨_, rfl⟩
    have F2 : Hid (FnAt w2 v F) := FnAtLo.low (Nat.zero_le _) hF
    obtain ⟨ba, bcap, rfl⟩ := F2.out.out HN.out HV.out
    have B2 : Hid (Below w1.heap.size w1 w2) := b2
    clear hF b2 hn0 hn9 hb0 hb9
    obtain ⟨nn, HNN⟩ : ∃ x, Hid ((succsOf F b).length = x) := ⟨_, rfl⟩
    have hnn : nn ≤ 2 := by rw [← HNN.out]; exact succsOf_two F b
    have HNX : Hid (∀ i, i < nn → b ∈ predsOf F ((succsOf F b).getD i 0)) := fun i hi => graph_next (lawGetD_mem (by rw [HNN.out]; exact hi))
    go_wp2_with fail
    refine (impl_succs _ F b _ (F2.out.later (Bel.alloc _ _))).mono ?_
    rintro e w3 ⟨ov, rfl, hov, b3⟩
    have B3 : Hid (Below w1.heap.size w1 w3) := Bel.after (Bel.after B2.out (Bel.alloc _ _)) b3
    have F3 : Hid (FnAt w3 (.agg #[.slice ba n bcap, .int .i64 vals]) F) := (F2.out.later (Bel.alloc _ _)).later b3
    have c0 := box_cell b3 0
    have c1 := box_cell b3 1
    simp at c0 c1
    clear b3 F2 B2
    obtain ⟨FB, hFB⟩ : ∃ x, w2.heap.size = x := ⟨_, rfl⟩
    rw [hFB] at c0 c1 ⊢
    clear hFB
    have O3 : Hid (IntsAt w3 ov (succsOf F b)) := hov.at
    obtain ⟨oa, ocap, rfl⟩ : ∃ a cap, ov = .slice a nn cap := by
      obtain ⟨a, cap, h, _⟩ := O3.out
      exact ⟨a, cap, by rw [h, HNN.out]⟩
    clear hov
    go_wp2_with fail
    refine (spec_succs _ F b _ F3.out).mono ?_
    rintro e w5 ⟨sv, rfl, hsv, b5⟩
    have B5 : Hid (Below w1.heap.size w1 w5) := Bel.after B3.out b5
    have F5 : Hid (FnAt w5 (.agg #[.slice ba n bcap, .int .i64 vals]) F) := F3.out.later b5
    have O5 : Hid (IntsAt w5 (.slice oa nn ocap) (succsOf F b)) := O3.out.keep b5
    have S5 : Hid (IntsAt w5 sv (succsOf F b)) := hsv.at
    replace c0 := Bel.keeps b5 c0
    replace c1 := Bel.keeps b5 c1
    clear hsv b5 B3 F3 O3
    go_wp2_with fail
    refine (sameInts_any _ _ (succsOf F b) (succsOf F b) _ O5.out S5.out).mono ?_
    rw [decide_eq_true (rfl : succsOf F b = succsOf F b)]
    rintro e w6 ⟨rfl, b6⟩
    have B6 : Hid (Below w1.heap.size w1 w6) := Bel.after B5.out b6
    have F6 : Hid (FnAt w6 (.agg #[.slice ba n bcap, .int .i64 vals]) F) := F5.out.later b6
    have O6 : Hid (IntsAt w6 (.slice oa nn ocap) (succsOf F b)) := O5.out.keep b6
    have C60 : Hid (w6.cell? ⟨FB, 0, none⟩ = some (.slice ba n bcap)) := Bel.keeps b6 c0
    have C61 : Hid (w6.cell? ⟨FB, 1, none⟩ = some (.int .i64 vals)) := Bel.keeps b6 c1
    clear b6 B5 F5 O5 S5 c0 c1
    go_wp2_with fail
    go_loopw [6] (fun i wr => ∃ k : Nat, k ≤ nn ∧ i = .int .i64 k ∧ Below w6.heap.size w6 wr) (fun i _ => nn - (intOf i).toNat)
    case atStart => exact ⟨0, Nat.zero_le _, rfl, Below.refl _ _⟩
    case round =>
      obtain ⟨wq, hwq⟩ : ∃ x, x = wr := ⟨_, rfl⟩
      subst hwq
      obtain ⟨k, hk, rfl, hB⟩ := hrel
      have HW : Hid (Below w6.heap.size w6 wq) := hB
      have Bq : Hid (Below w1.heap.size w1 wq) := Bel.after B6.out hB
      have Fq : Hid (FnAt wq (.agg #[.slice ba n bcap, .int .i64 vals]) F) := F6.out.later hB
      have Oq : Hid (IntsAt wq (.slice oa nn ocap) (succsOf F b)) := O6.out.keep hB
      have c0 := Bel.keeps hB C60.out
      have c1 := Bel.keeps hB C61.out
      clear hB
      by_cases hlt : (k : Int) < (nn : Int)
      · obtain ⟨a', cap', e', _, hcc⟩ := Oq.out
        rw [HNN.out] at e' hcc
        obtain ⟨pb, poff, ea, hd⟩ := hcc (by omega)
        subst ea
        simp at e'
        obtain ⟨rfl, rfl⟩ := e'
        obtain ⟨x, HX⟩ : ∃ x, Hid ((succsOf F b).getD k 0 = x) := ⟨_, rfl⟩
        have px := hd k (by omega)
        rw [HX.out] at px
        have HM : Hid (b ∈ predsOf F x) := by
          have := HNX.out k (by omega)
          rw [HX.out] at this
          exact this
        clear hcc hd
        go_wp2_with fail
        go_region_held3 (fun w' => w'.cell? ⟨FB, 0, none⟩ = some (.slice ba n bcap) ∧ w'.cell? ⟨FB, 1, none⟩ = some (.int .i64 vals) ∧ w'.cell? ⟨pb, poff + k, none⟩ = some (.int .i64 x)) (first | exact ⟨z0, z1, zx⟩ | exact ⟨c0, c1, px⟩ | go_keep)
          (first
            | (go_at_call 15; refine (impl_preds _ F x _ (Fq.out.later (Below.refl _ _).drew)).mono ?_; rintro e wS ⟨sv, rfl, hsv, bS⟩; have BS : Hid (Below w1.heap.size w1 wS) := Bel.after Bq.out.drew bS; have BSq : Hid (Below w6.heap.size w6 wS) := Bel.after HW.out.drew bS; have SV : Hid (IntsAt wS sv (predsOf F x)) := hsv.at; have z0 : wS.cell? ⟨FB, 0, none⟩ = some (.slice ba n bcap) := Bel.keeps bS c0; have z1 : wS.cell? ⟨FB, 1, none⟩ = some (.int .i64 vals) := Bel.keeps bS c1; have zx : wS.cell? ⟨pb, poff + k, none⟩ = some (.int .i64 x) := Bel.keeps bS px; clear bS hsv)
            | (go_at_call 14; refine (within_any _ (predsOf F x) b _ SV.out).mono ?_; rw [decide_eq_true HM.out]; rintro e wT ⟨rfl, hwT⟩; subst hwT))
        simp only [Exit.then]
        go_at_K
        go_wp2_with fail
        go_roundw
        case rel => exact ⟨k + 1, by omega, by go_num, BSq.out⟩
        case measure => simp [intOf]; omega
      · have hkn : k = nn := by omega
        clear c0 c1 HW Fq Oq C60 C61 F6 O6 B6
        go_wp2_with fail
        refine (drawPreds_any a0 len0 cap0 z0 _ (isRow_later HR.out Bq.out)).mono ?_
        rintro e w7 ⟨v7, G, c, rfl, hG, hm0, hm9, hc0, hc9, b7⟩
        obtain ⟨gn, HGN⟩ : ∃ n, Hid (G.blocks.length = n) := ⟨_, rfl⟩
        obtain ⟨gvals, HGV⟩ : ∃ x, Hid (G.values = x) := ⟨_, rfl⟩
        have G7 : Hid (FnAt w7 v7 G) := FnAtLo.low (Nat.zero_le _) hG
        obtain ⟨ga, gcap, rfl⟩ := G7.out.out HGN.out HGV.out
        have B7 : Hid (Below w1.heap.size w1 w7) := Bel.after Bq.out b7
        clear hG b7 hm0 hm9 hc0 hc9 Bq
        obtain ⟨pn, HPN⟩ : ∃ x, Hid ((predsOf G c).length = x) := ⟨_, rfl⟩
        have hpn : pn ≤ 100 := by rw [← HPN.out]; exact predsOf_small G c
        have HPX : Hid (∀ i, i < pn → c ∈ succsOf G ((predsOf G c).getD i 0)) := fun i hi => graph_prev (lawGetD_mem (by rw [HPN.out]; exact hi))
        have HPU : Hid (∀ i, 0 < i → i < pn → (predsOf G c).getD (i - 1) 0 < (predsOf G c).getD i 0) := fun i h0 hi => up_at (predsOf_up G c) h0 (by rw [HPN.out]; exact hi)
        go_wp2_with fail
        refine (impl_preds _ G c _ (G7.out.later (Bel.alloc _ _))).mono ?_
        rintro e w8 ⟨qv, rfl, hqv, b8⟩
        have B8 : Hid (Below w1.heap.size w1 w8) := Bel.after (Bel.after B7.out (Bel.alloc _ _)) b8
        have G8 : Hid (FnAt w8 (.agg #[.slice ga gn gcap, .int .i64 gvals]) G) := (G7.out.later (Bel.alloc _ _)).later b8
        have c0 := box_cell b8 0
        have c1 := box_cell b8 1
        simp at c0 c1
        clear b8 G7 B7
        obtain ⟨GB, hGB⟩ : ∃ x, w7.heap.size = x := ⟨_, rfl⟩
        rw [hGB] at c0 c1 ⊢
        clear hGB
        have Q8 : Hid (IntsAt w8 qv (predsOf G c)) := hqv.at
        obtain ⟨qa, qcap, rfl⟩ : ∃ a cap, qv = .slice a pn cap := by
          obtain ⟨a, cap, h, _⟩ := Q8.out
          exact ⟨a, cap, by rw [h, HPN.out]⟩
        clear hqv
        go_wp2_with fail
        refine (spec_preds _ G c _ G8.out).mono ?_
        rintro e w9a ⟨tv, rfl, htv, b9a⟩
        have B9a : Hid (Below w1.heap.size w1 w9a) := Bel.after B8.out b9a
        have G9a : Hid (FnAt w9a (.agg #[.slice ga gn gcap, .int .i64 gvals]) G) := G8.out.later b9a
        have Q9a : Hid (IntsAt w9a (.slice qa pn qcap) (predsOf G c)) := Q8.out.keep b9a
        have T9 : Hid (IntsAt w9a tv (predsOf G c)) := htv.at
        replace c0 := Bel.keeps b9a c0
        replace c1 := Bel.keeps b9a c1
        clear htv b9a B8 G8 Q8
        go_wp2_with fail
        refine (sameInts_any _ _ (predsOf G c) (predsOf G c) _ Q9a.out T9.out).mono ?_
        rw [decide_eq_true (rfl : predsOf G c = predsOf G c)]
        rintro e w9 ⟨rfl, b9⟩
        have B9 : Hid (Below w1.heap.size w1 w9) := Bel.after B9a.out b9
        have G9 : Hid (FnAt w9 (.agg #[.slice ga gn gcap, .int .i64 gvals]) G) := G9a.out.later b9
        have Q9 : Hid (IntsAt w9 (.slice qa pn qcap) (predsOf G c)) := Q9a.out.keep b9
        have D0 : Hid (w9.cell? ⟨GB, 0, none⟩ = some (.slice ga gn gcap)) := Bel.keeps b9 c0
        have D1 : Hid (w9.cell? ⟨GB, 1, none⟩ = some (.int .i64 gvals)) := Bel.keeps b9 c1
        clear b9 B9a G9a Q9a T9 c0 c1
        have hnn2 : (nn : Int) ≤ 2 := by omega
        go_wp2_with fail
        go_loopw [10] (fun i wr => ∃ k : Nat, k ≤ pn ∧ i = .int .i64 k ∧ Below w9.heap.size w9 wr) (fun i _ => pn - (intOf i).toNat)
        case atStart => exact ⟨0, Nat.zero_le _, rfl, Below.refl _ _⟩
        case round =>
          obtain ⟨wp, hwp⟩ : ∃ x, x = wr := ⟨_, rfl⟩
          subst hwp
          clear hlt hkn hk
          obtain ⟨k, hk, rfl, hB⟩ := hrel
          have HWq : Hid (Below w9.heap.size w9 wp) := hB
          have Bq : Hid (Below w1.heap.size w1 wp) := Bel.after B9.out hB
          have Gq : Hid (FnAt wp (.agg #[.slice ga gn gcap, .int .i64 gvals]) G) := G9.out.later hB
          have Qq : Hid (IntsAt wp (.slice qa pn qcap) (predsOf G c)) := Q9.out.keep hB
          have c0 := Bel.keeps hB D0.out
          have c1 := Bel.keeps hB D1.out
          clear hB
          by_cases hlt : (k : Int) < (pn : Int)
          · obtain ⟨a', pcap, e', _, hcc⟩ := Qq.out
            rw [HPN.out] at e' hcc
            obtain ⟨pb, poff, ea, hd⟩ := hcc (by omega)
            subst ea
            simp at e'
            obtain ⟨rfl, rfl⟩ := e'
            obtain ⟨x, HX⟩ : ∃ x, Hid ((predsOf G c).getD k 0 = x) := ⟨_, rfl⟩
            have px := hd k (by omega)
            rw [HX.out] at px
            have HM : Hid (c ∈ succsOf G x) := by
              have := HPX.out k (by omega)
              rw [HX.out] at this
              exact this
            by_cases hk0 : k = 0
            · have HK0 : Hid (k = 0) := hk0
              clear hcc hd hk0
              go_wp2_with fail
              refine wp_region_held_drew (S := (fun w' => w'.cell? ⟨GB, 0, none⟩ = some (.slice ga gn gcap) ∧ w'.cell? ⟨GB, 1, none⟩ = some (.int .i64 gvals) ∧ w'.cell? ⟨pb, poff + k, none⟩ = some (.int .i64 x))) (by kernel_rfl) ⟨c0, c1, px⟩ (fun hS => ?_)
              refine wpAnyH_take (i := 0) (oi := { dst := some 62, op := Op.load 26 (Operand.tmp 7), type := 26, pos := "laws.go:591", after := #[], guard := none }) (v := .agg #[.slice ga gn gcap, .int .i64 gvals]) rfl (by kernel_rfl) (by kernel_rfl) (by kernel_rfl) (fun _ _ _ h => h) (Or.inl ⟨by rfl, fun W hW => by obtain ⟨q0, q1, q2⟩ := hW; go_simp⟩) hS ?_
              simp only [Act.put, List.setIfInBounds_toArray, List.set_cons_zero, List.set_cons_succ]
              refine wpAnyH_take (i := 1) (oi := { dst := some 63, op := Op.move (Operand.tmp 9), type := 29, pos := "laws.go:591", after := #[], guard := none }) (v := .slice (some ⟨pb, poff, none⟩) pn qcap) rfl (by kernel_rfl) (by kernel_rfl) (by kernel_rfl) (fun _ _ _ h => h) (Or.inl ⟨by rfl, fun W hW => by obtain ⟨q0, q1, q2⟩ := hW; go_simp⟩) hS ?_
              simp only [Act.put, List.setIfInBounds_toArray, List.set_cons_zero, List.set_cons_succ]
              refine wpAnyH_take (i := 2) (oi := { dst := some 64, op := Op.move (Operand.tmp 10), type := 3, pos := "laws.go:591", after := #[], guard := none }) (v := .int .i64 (k : Int)) rfl (by kernel_rfl) (by kernel_rfl) (by kernel_rfl) (fun _ _ _ h => h) (Or.inl ⟨by rfl, fun W hW => by obtain ⟨q0, q1, q2⟩ := hW; go_simp⟩) hS ?_
              simp only [Act.put, List.setIfInBounds_toArray, List.set_cons_zero, List.set_cons_succ]
              refine wpAnyH_take (i := 3) (oi := { dst := some 65, op := Op.indexAddr 29 (Operand.tmp 63) (Operand.tmp 64), type := 0, pos := "laws.go:591", after := #[{ on := 1, ground := Ground.data }, { on := 2, ground := Ground.data }], guard := none }) (v := .pointer (some ⟨pb, poff + k, none⟩)) rfl (by kernel_rfl) (by kernel_rfl) (by kernel_rfl) (fun _ _ _ h => h) (Or.inl ⟨by rfl, fun W hW => by obtain ⟨q0, q1, q2⟩ := hW; go_simp⟩) hS ?_
              simp only [Act.put, List.setIfInBounds_toArray, List.set_cons_zero, List.set_cons_succ]
              refine wpAnyH_take (i := 4) (oi := { dst := some 66, op := Op.load 3 (Operand.tmp 65), type := 3, pos := "laws.go:591", after := #[{ on := 3, ground := Ground.data }], guard := none }) (v := .int .i64 x) rfl (by kernel_rfl) (by kernel_rfl) (by kernel_rfl) (fun _ _ _ h => h) (Or.inl ⟨by rfl, fun W hW => by obtain ⟨q0, q1, q2⟩ := hW; go_simp⟩) hS ?_
              simp only [Act.put, List.setIfInBounds_toArray, List.set_cons_zero, List.set_cons_succ]
              refine wpAnyH_take (i := 6) (oi := { dst := some 68, op := Op.move (Operand.tmp 8), type := 3, pos := "laws.go:591", after := #[], guard := none }) (v := .int .i64 c) rfl (by kernel_rfl) (by kernel_rfl) (by kernel_rfl) (fun _ _ _ h => h) (Or.inl ⟨by rfl, fun W hW => by obtain ⟨q0, q1, q2⟩ := hW; go_simp⟩) hS ?_
              simp only [Act.put, List.setIfInBounds_toArray, List.set_cons_zero, List.set_cons_succ]
              refine wpAnyH_oneK (i := 5) (o := { dst := some 67, op := Op.call { callee := Callee.value (Operand.func 11), args := #[Operand.tmp 62, Operand.tmp 66], argTypes := #[26, 3] }, type := 29, pos := "laws.go:591", after := #[{ on := 0, ground := Ground.data }, { on := 4, ground := Ground.data }], guard := none }) rfl rfl (by kernel_rfl) (fun K hK => ?_)
              refine wp_call_of (f := 11) (args := #[.agg #[.slice ga gn gcap, .int .i64 gvals], .int .i64 x]) (by go_simp) (impl_succs _ G x _ (Gq.out.later (Below.refl _ _).drew)) ?_
              rintro e wS ⟨sv, rfl, hsv, bS⟩
              refine ⟨_, rfl, ?_⟩
              have BS : Hid (Below w1.heap.size w1 wS) := Bel.after Bq.out.drew bS
              have BSq : Hid (Below w9.heap.size w9 wS) := Bel.after HWq.out.drew bS
              have SV : Hid (IntsAt wS sv (succsOf G x)) := hsv.at
              have hS2 : (fun w' => w'.cell? ⟨GB, 0, none⟩ = some (.slice ga gn gcap) ∧ w'.cell? ⟨GB, 1, none⟩ = some (.int .i64 gvals) ∧ w'.cell? ⟨pb, poff + k, none⟩ = some (.int .i64 x)) wS := ⟨Bel.keeps bS hS.1, Bel.keeps bS hS.2.1, Bel.keeps bS hS.2.2⟩
              dsimp only at hS2
              refine hK _ _ ⟨hS2, ?_⟩
              clear hK bS hsv
              simp only [Act.put, List.setIfInBounds_toArray, List.set_cons_zero, List.set_cons_succ]
              refine wpAnyH_oneK (i := 7) (o := { dst := some 69, op := Op.call { callee := Callee.value (Operand.func 14), args := #[Operand.tmp 67, Operand.tmp 68], argTypes := #[29, 3] }, type := 4, pos := "laws.go:591", after := #[{ on := 5, ground := Ground.data }, { on := 6, ground := Ground.data }, { on := 5, ground := Ground.chain }], guard := none }) rfl rfl (by kernel_rfl) (fun K hK => ?_)
              refine wp_call_of (f := 14) (args := #[sv, .int .i64 c]) (by go_simp) (within_any sv (succsOf G x) c _ SV.out) ?_
              rw [decide_eq_true HM.out]
              rintro e wT ⟨rfl, hwT⟩
              subst hwT
              refine ⟨_, rfl, ?_⟩
              refine hK _ _ ⟨hS2, ?_⟩
              clear hK
              simp only [Act.put, List.setIfInBounds_toArray, List.set_cons_zero, List.set_cons_succ]
              refine wpAnyH_take (i := 8) (oi := { dst := some 70, op := Op.unOp UnOp.not 4 (Operand.tmp 69), type := 4, pos := "laws.go:591", after := #[{ on := 7, ground := Ground.data }], guard := none }) (v := .bool false) rfl (by kernel_rfl) (by kernel_rfl) (by kernel_rfl) (fun _ _ _ h => h) (Or.inl ⟨by rfl, fun W hW => by obtain ⟨q0, q1, q2⟩ := hW; go_simp⟩) hS2 ?_
              simp only [Act.put, List.setIfInBounds_toArray, List.set_cons_zero, List.set_cons_succ]
              refine wpAnyH_take (i := 9) (oi := { dst := some 71, op := Op.move (Operand.tmp 70), type := 4, pos := "laws.go:591", after := #[{ on := 8, ground := Ground.data }, { on := 7, ground := Ground.chain }], guard := none }) (v := .bool false) rfl (by kernel_rfl) (by kernel_rfl) (by kernel_rfl) (fun _ _ _ h => h) (Or.inl ⟨by rfl, fun W hW => by obtain ⟨q0, q1, q2⟩ := hW; go_simp⟩) hS2 ?_
              simp only [Act.put, List.setIfInBounds_toArray, List.set_cons_zero, List.set_cons_succ]
              refine wpAnyH_take (i := 10) (oi := { dst := some 72, op := Op.move (Operand.tmp 10), type := 3, pos := "laws.go:591", after := #[{ on := 9, ground := Ground.guard }], guard := some (9, false) }) (v := .int .i64 (k : Int)) rfl (by kernel_rfl) (by kernel_rfl) (by kernel_rfl) (fun _ _ _ h => h) (Or.inl ⟨by rfl, fun W hW => by obtain ⟨q0, q1, q2⟩ := hW; go_simp⟩) hS2 ?_
              simp only [Act.put, List.setIfInBounds_toArray, List.set_cons_zero, List.set_cons_succ]
              refine wpAnyH_take (i := 11) (oi := { dst := some 73, op := Op.binOp BinOp.gtr 3 (Operand.tmp 72) (Operand.const (Value.int IntKind.i64 0)) 3, type := 4, pos := "laws.go:591", after := #[{ on := 10, ground := Ground.data }, { on := 9, ground := Ground.guard }], guard := some (9, false) }) (v := .bool false) rfl (by kernel_rfl) (by kernel_rfl) (by kernel_rfl) (fun _ _ _ h => h) (Or.inl ⟨by rfl, fun W hW => by obtain ⟨q0, q1, q2⟩ := hW; clear q0 q1 q2; have hk9 := HK0.out; go_simp <;> omega⟩) hS2 ?_
              simp only [Act.put, List.setIfInBounds_toArray, List.set_cons_zero, List.set_cons_succ]
              refine wpAnyH_take (i := 12) (oi := { dst := some 74, op := Op.move (Operand.tmp 73), type := 4, pos := "laws.go:591", after := #[{ on := 11, ground := Ground.data }, { on := 9, ground := Ground.chain }, { on := 9, ground := Ground.guard }], guard := some (9, false) }) (v := .bool false) rfl (by kernel_rfl) (by kernel_rfl) (by kernel_rfl) (fun _ _ _ h => h) (Or.inl ⟨by rfl, fun W hW => by obtain ⟨q0, q1, q2⟩ := hW; go_simp⟩) hS2 ?_
              simp only [Act.put, List.setIfInBounds_toArray, List.set_cons_zero, List.set_cons_succ]
              refine wpAnyH_take (i := 13) (oi := { dst := some 75, op := Op.move (Operand.tmp 9), type := 29, pos := "laws.go:591", after := #[{ on := 12, ground := Ground.guard }], guard := some (12, true) }) (v := undef) rfl (by kernel_rfl) (by kernel_rfl) (by kernel_rfl) (fun _ _ _ h => h) (Or.inr ⟨by rfl, rfl⟩) hS2 ?_
              simp only [Act.put, List.setIfInBounds_toArray, List.set_cons_zero, List.set_cons_succ]
              refine wpAnyH_take (i := 14) (oi := { dst := some 76, op := Op.move (Operand.tmp 10), type := 3, pos := "laws.go:591", after := #[{ on := 12, ground := Ground.guard }], guard := some (12, true) }) (v := undef) rfl (by kernel_rfl) (by kernel_rfl) (by kernel_rfl) (fun _ _ _ h => h) (Or.inr ⟨by rfl, rfl⟩) hS2 ?_
              simp only [Act.put, List.setIfInBounds_toArray, List.set_cons_zero, List.set_cons_succ]
              refine wpAnyH_take (i := 15) (oi := { dst := some 77, op := Op.binOp BinOp.sub 3 (Operand.tmp 76) (Operand.const (Value.int IntKind.i64 1)) 3, type := 3, pos := "laws.go:591", after := #[{ on := 14, ground := Ground.data }, { on := 12, ground := Ground.guard }], guard := some (12, true) }) (v := undef) rfl (by kernel_rfl) (by kernel_rfl) (by kernel_rfl) (fun _ _ _ h => h) (Or.inr ⟨by rfl, rfl⟩) hS2 ?_
              simp only [Act.put, List.setIfInBounds_toArray, List.set_cons_zero, List.set_cons_succ]
              refine wpAnyH_take (i := 16) (oi := { dst := some 78, op := Op.indexAddr 29 (Operand.tmp 75) (Operand.tmp 77), type := 0, pos := "laws.go:591", after := #[{ on := 13, ground := Ground.data }, { on := 15, ground := Ground.data }, { on := 12, ground := Ground.guard }], guard := some (12, true) }) (v := undef) rfl (by kernel_rfl) (by kernel_rfl) (by kernel_rfl) (fun _ _ _ h => h) (Or.inr ⟨by rfl, rfl⟩) hS2 ?_
              simp only [Act.put, List.setIfInBounds_toArray, List.set_cons_zero, List.set_cons_succ]
              refine wpAnyH_take (i := 17) (oi := { dst := some 79, op := Op.load 3 (Operand.tmp 78), type := 3, pos := "laws.go:591", after := #[{ on := 16, ground := Ground.data }, { on := 12, ground := Ground.guard }], guard := some (12, true) }) (v := undef) rfl (by kernel_rfl) (by kernel_rfl) (by kernel_rfl) (fun _ _ _ h => h) (Or.inr ⟨by rfl, rfl⟩) hS2 ?_
              simp only [Act.put, List.setIfInBounds_toArray, List.set_cons_zero, List.set_cons_succ]
              refine wpAnyH_take (i := 18) (oi := { dst := some 80, op := Op.move (Operand.tmp 9), type := 29, pos := "laws.go:591", after := #[{ on := 12, ground := Ground.guard }], guard := some (12, true) }) (v := undef) rfl (by kernel_rfl) (by kernel_rfl) (by kernel_rfl) (fun _ _ _ h => h) (Or.inr ⟨by rfl, rfl⟩) hS2 ?_
              simp only [Act.put, List.setIfInBounds_toArray, List.set_cons_zero, List.set_cons_succ]
              refine wpAnyH_take (i := 19) (oi := { dst := some 81, op := Op.move (Operand.tmp 10), type := 3, pos := "laws.go:591", after := #[{ on := 12, ground := Ground.guard }], guard := some (12, true) }) (v := undef) rfl (by kernel_rfl) (by kernel_rfl) (by kernel_rfl) (fun _ _ _ h => h) (Or.inr ⟨by rfl, rfl⟩) hS2 ?_
              simp only [Act.put, List.setIfInBounds_toArray, List.set_cons_zero, List.set_cons_succ]
              refine wpAnyH_take (i := 20) (oi := { dst := some 82, op := Op.indexAddr 29 (Operand.tmp 80) (Operand.tmp 81), type := 0, pos := "laws.go:591", after := #[{ on := 18, ground := Ground.data }, { on := 19, ground := Ground.data }, { on := 12, ground := Ground.guard }], guard := some (12, true) }) (v := undef) rfl (by kernel_rfl) (by kernel_rfl) (by kernel_rfl) (fun _ _ _ h => h) (Or.inr ⟨by rfl, rfl⟩) hS2 ?_
              simp only [Act.put, List.setIfInBounds_toArray, List.set_cons_zero, List.set_cons_succ]
              refine wpAnyH_take (i := 21) (oi := { dst := some 83, op := Op.load 3 (Operand.tmp 82), type := 3, pos := "laws.go:591", after := #[{ on := 20, ground := Ground.data }, { on := 12, ground := Ground.guard }], guard := some (12, true) }) (v := undef) rfl (by kernel_rfl) (by kernel_rfl) (by kernel_rfl) (fun _ _ _ h => h) (Or.inr ⟨by rfl, rfl⟩) hS2 ?_
              simp only [Act.put, List.setIfInBounds_toArray, List.set_cons_zero, List.set_cons_succ]
              refine wpAnyH_take (i := 22) (oi := { dst := some 84, op := Op.binOp BinOp.geq 3 (Operand.tmp 79) (Operand.tmp 83) 3, type := 4, pos := "laws.go:591", after := #[{ on := 17, ground := Ground.data }, { on := 21, ground := Ground.data }, { on := 12, ground := Ground.guard }], guard := some (12, true) }) (v := undef) rfl (by kernel_rfl) (by kernel_rfl) (by kernel_rfl) (fun _ _ _ h => h) (Or.inr ⟨by rfl, rfl⟩) hS2 ?_
              simp only [Act.put, List.setIfInBounds_toArray, List.set_cons_zero, List.set_cons_succ]
              refine wpAnyH_take (i := 23) (oi := { dst := some 85, op := Op.pick (Operand.tmp 74) (Operand.tmp 84) (Operand.const (Value.bool false)), type := 4, pos := "laws.go:591", after := #[{ on := 12, ground := Ground.data }, { on := 22, ground := Ground.data }, { on := 9, ground := Ground.guard }], guard := some (9, false) }) (v := .bool false) rfl (by kernel_rfl) (by kernel_rfl) (by kernel_rfl) (fun _ _ _ h => h) (Or.inl ⟨by rfl, fun W hW => by obtain ⟨q0, q1, q2⟩ := hW; go_simp⟩) hS2 ?_
              simp only [Act.put, List.setIfInBounds_toArray, List.set_cons_zero, List.set_cons_succ]
              refine wpAnyH_take (i := 24) (oi := { dst := some 86, op := Op.pick (Operand.tmp 71) (Operand.const (Value.bool true)) (Operand.tmp 85), type := 4, pos := "laws.go:591", after := #[{ on := 9, ground := Ground.data }, { on := 23, ground := Ground.data }], guard := none }) (v := .bool false) rfl (by kernel_rfl) (by kernel_rfl) (by kernel_rfl) (fun _ _ _ h => h) (Or.inl ⟨by rfl, fun W hW => by obtain ⟨q0, q1, q2⟩ := hW; go_simp⟩) hS2 ?_
              simp only [Act.put, List.setIfInBounds_toArray, List.set_cons_zero, List.set_cons_succ]
              refine wpAnyH_done (by kernel_rfl) ?_ _
              simp only [Exit.then]
              go_at_K
              go_wp2_with fail
              go_roundw
              case rel => exact ⟨k + 1, by omega, by go_num, BSq.out⟩
              case measure => simp [intOf]; omega
            · obtain ⟨y, HY⟩ : ∃ y, Hid ((predsOf G c).getD (k - 1) 0 = y) := ⟨_, rfl⟩
              have py := hd (k - 1) (by omega)
              rw [HY.out] at py
              have hyx : y < x := by
                have := HPU.out k (by omega) (by omega)
                rw [HX.out, HY.out] at this
                exact this
              have HK0 : Hid (0 < k) := by show 0 < k; omega
              have hk2 : 1 ≤ k := by omega
              have hk3 : (0 : Int) ≤ (k : Int) - 1 := by omega
              have hk4 : (k : Int) - 1 < (pn : Int) := by omega
              have hk5 : ((k : Int) - 1).toNat = k - 1 := by omega
              have hk6 : IntKind.i64.wrap ((k : Int) - 1) = (k : Int) - 1 := by rw [IntKind.wrap_i64]; omega
              have hyx2 : ¬ x ≤ y := by omega
              clear hcc hd
              go_wp2_with fail
              refine wp_region_held_drew (S := (fun w' => w'.cell? ⟨GB, 0, none⟩ = some (.slice ga gn gcap) ∧ w'.cell? ⟨GB, 1, none⟩ = some (.int .i64 gvals) ∧ w'.cell? ⟨pb, poff + k, none⟩ = some (.int .i64 x) ∧ w'.cell? ⟨pb, poff + (k - 1), none⟩ = some (.int .i64 y))) (by kernel_rfl) ⟨c0, c1, px, py⟩ (fun hS => ?_)
              refine wpAnyH_take (i := 0) (oi := { dst := some 62, op := Op.load 26 (Operand.tmp 7), type := 26, pos := "laws.go:591", after := #[], guard := none }) (v := .agg #[.slice ga gn gcap, .int .i64 gvals]) rfl (by kernel_rfl) (by kernel_rfl) (by kernel_rfl) (fun _ _ _ h => h) (Or.inl ⟨by rfl, fun W hW => by obtain ⟨q0, q1, q2, q3⟩ := hW; go_simp⟩) hS ?_
              simp only [Act.put, List.setIfInBounds_toArray, List.set_cons_zero, List.set_cons_succ]
              refine wpAnyH_take (i := 1) (oi := { dst := some 63, op := Op.move (Operand.tmp 9), type := 29, pos := "laws.go:591", after := #[], guard := none }) (v := .slice (some ⟨pb, poff, none⟩) pn qcap) rfl (by kernel_rfl) (by kernel_rfl) (by kernel_rfl) (fun _ _ _ h => h) (Or.inl ⟨by rfl, fun W hW => by obtain ⟨q0, q1, q2, q3⟩ := hW; go_simp⟩) hS ?_
              simp only [Act.put, List.setIfInBounds_toArray, List.set_cons_zero, List.set_cons_succ]
              refine wpAnyH_take (i := 2) (oi := { dst := some 64, op := Op.move (Operand.tmp 10), type := 3, pos := "laws.go:591", after := #[], guard := none }) (v := .int .i64 (k : Int)) rfl (by kernel_rfl) (by kernel_rfl) (by kernel_rfl) (fun _ _ _ h => h) (Or.inl ⟨by rfl, fun W hW => by obtain ⟨q0, q1, q2, q3⟩ := hW; go_simp⟩) hS ?_
              simp only [Act.put, List.setIfInBounds_toArray, List.set_cons_zero, List.set_cons_succ]
              refine wpAnyH_take (i := 3) (oi := { dst := some 65, op := Op.indexAddr 29 (Operand.tmp 63) (Operand.tmp 64), type := 0, pos := "laws.go:591", after := #[{ on := 1, ground := Ground.data }, { on := 2, ground := Ground.data }], guard := none }) (v := .pointer (some ⟨pb, poff + k, none⟩)) rfl (by kernel_rfl) (by kernel_rfl) (by kernel_rfl) (fun _ _ _ h => h) (Or.inl ⟨by rfl, fun W hW => by obtain ⟨q0, q1, q2, q3⟩ := hW; go_simp⟩) hS ?_
              simp only [Act.put, List.setIfInBounds_toArray, List.set_cons_zero, List.set_cons_succ]
              refine wpAnyH_take (i := 4) (oi := { dst := some 66, op := Op.load 3 (Operand.tmp 65), type := 3, pos := "laws.go:591", after := #[{ on := 3, ground := Ground.data }], guard := none }) (v := .int .i64 x) rfl (by kernel_rfl) (by kernel_rfl) (by kernel_rfl) (fun _ _ _ h => h) (Or.inl ⟨by rfl, fun W hW => by obtain ⟨q0, q1, q2, q3⟩ := hW; go_simp⟩) hS ?_
              simp only [Act.put, List.setIfInBounds_toArray, List.set_cons_zero, List.set_cons_succ]
              refine wpAnyH_take (i := 6) (oi := { dst := some 68, op := Op.move (Operand.tmp 8), type := 3, pos := "laws.go:591", after := #[], guard := none }) (v := .int .i64 c) rfl (by kernel_rfl) (by kernel_rfl) (by kernel_rfl) (fun _ _ _ h => h) (Or.inl ⟨by rfl, fun W hW => by obtain ⟨q0, q1, q2, q3⟩ := hW; go_simp⟩) hS ?_
              simp only [Act.put, List.setIfInBounds_toArray, List.set_cons_zero, List.set_cons_succ]
              refine wpAnyH_oneK (i := 5) (o := { dst := some 67, op := Op.call { callee := Callee.value (Operand.func 11), args := #[Operand.tmp 62, Operand.tmp 66], argTypes := #[26, 3] }, type := 29, pos := "laws.go:591", after := #[{ on := 0, ground := Ground.data }, { on := 4, ground := Ground.data }], guard := none }) rfl rfl (by kernel_rfl) (fun K hK => ?_)
              refine wp_call_of (f := 11) (args := #[.agg #[.slice ga gn gcap, .int .i64 gvals], .int .i64 x]) (by go_simp) (impl_succs _ G x _ (Gq.out.later (Below.refl _ _).drew)) ?_
              rintro e wS ⟨sv, rfl, hsv, bS⟩
              refine ⟨_, rfl, ?_⟩
              have BS : Hid (Below w1.heap.size w1 wS) := Bel.after Bq.out.drew bS
              have BSq : Hid (Below w9.heap.size w9 wS) := Bel.after HWq.out.drew bS
              have SV : Hid (IntsAt wS sv (succsOf G x)) := hsv.at
              have hS2 : (fun w' => w'.cell? ⟨GB, 0, none⟩ = some (.slice ga gn gcap) ∧ w'.cell? ⟨GB, 1, none⟩ = some (.int .i64 gvals) ∧ w'.cell? ⟨pb, poff + k, none⟩ = some (.int .i64 x) ∧ w'.cell? ⟨pb, poff + (k - 1), none⟩ = some (.int .i64 y)) wS := ⟨Bel.keeps bS hS.1, Bel.keeps bS hS.2.1, Bel.keeps bS hS.2.2.1, Bel.keeps bS hS.2.2.2⟩
              dsimp only at hS2
              refine hK _ _ ⟨hS2, ?_⟩
              clear hK bS hsv
              simp only [Act.put, List.setIfInBounds_toArray, List.set_cons_zero, List.set_cons_succ]
              refine wpAnyH_oneK (i := 7) (o := { dst := some 69, op := Op.call { callee := Callee.value (Operand.func 14), args := #[Operand.tmp 67, Operand.tmp 68], argTypes := #[29, 3] }, type := 4, pos := "laws.go:591", after := #[{ on := 5, ground := Ground.data }, { on := 6, ground := Ground.data }, { on := 5, ground := Ground.chain }], guard := none }) rfl rfl (by kernel_rfl) (fun K hK => ?_)
              refine wp_call_of (f := 14) (args := #[sv, .int .i64 c]) (by go_simp) (within_any sv (succsOf G x) c _ SV.out) ?_
              rw [decide_eq_true HM.out]
              rintro e wT ⟨rfl, hwT⟩
              subst hwT
              refine ⟨_, rfl, ?_⟩
              refine hK _ _ ⟨hS2, ?_⟩
              clear hK
              simp only [Act.put, List.setIfInBounds_toArray, List.set_cons_zero, List.set_cons_succ]
              refine wpAnyH_take (i := 8) (oi := { dst := some 70, op := Op.unOp UnOp.not 4 (Operand.tmp 69), type := 4, pos := "laws.go:591", after := #[{ on := 7, ground := Ground.data }], guard := none }) (v := .bool false) rfl (by kernel_rfl) (by kernel_rfl) (by kernel_rfl) (fun _ _ _ h => h) (Or.inl ⟨by rfl, fun W hW => by obtain ⟨q0, q1, q2, q3⟩ := hW; go_simp⟩) hS2 ?_
              simp only [Act.put, List.setIfInBounds_toArray, List.set_cons_zero, List.set_cons_succ]
              refine wpAnyH_take (i := 9) (oi := { dst := some 71, op := Op.move (Operand.tmp 70), type := 4, pos := "laws.go:591", after := #[{ on := 8, ground := Ground.data }, { on := 7, ground := Ground.chain }], guard := none }) (v := .bool false) rfl (by kernel_rfl) (by kernel_rfl) (by kernel_rfl) (fun _ _ _ h => h) (Or.inl ⟨by rfl, fun W hW => by obtain ⟨q0, q1, q2, q3⟩ := hW; go_simp⟩) hS2 ?_
              simp only [Act.put, List.setIfInBounds_toArray, List.set_cons_zero, List.set_cons_succ]
              refine wpAnyH_take (i := 10) (oi := { dst := some 72, op := Op.move (Operand.tmp 10), type := 3, pos := "laws.go:591", after := #[{ on := 9, ground := Ground.guard }], guard := some (9, false) }) (v := .int .i64 (k : Int)) rfl (by kernel_rfl) (by kernel_rfl) (by kernel_rfl) (fun _ _ _ h => h) (Or.inl ⟨by rfl, fun W hW => by obtain ⟨q0, q1, q2, q3⟩ := hW; go_simp⟩) hS2 ?_
              simp only [Act.put, List.setIfInBounds_toArray, List.set_cons_zero, List.set_cons_succ]
              refine wpAnyH_take (i := 11) (oi := { dst := some 73, op := Op.binOp BinOp.gtr 3 (Operand.tmp 72) (Operand.const (Value.int IntKind.i64 0)) 3, type := 4, pos := "laws.go:591", after := #[{ on := 10, ground := Ground.data }, { on := 9, ground := Ground.guard }], guard := some (9, false) }) (v := .bool true) rfl (by kernel_rfl) (by kernel_rfl) (by kernel_rfl) (fun _ _ _ h => h) (Or.inl ⟨by rfl, fun W hW => by obtain ⟨q0, q1, q2, q3⟩ := hW; clear q0 q1 q2 q3; have hk9 := HK0.out; go_simp <;> omega⟩) hS2 ?_
              simp only [Act.put, List.setIfInBounds_toArray, List.set_cons_zero, List.set_cons_succ]
              refine wpAnyH_take (i := 12) (oi := { dst := some 74, op := Op.move (Operand.tmp 73), type := 4, pos := "laws.go:591", after := #[{ on := 11, ground := Ground.data }, { on := 9, ground := Ground.chain }, { on := 9, ground := Ground.guard }], guard := some (9, false) }) (v := .bool true) rfl (by kernel_rfl) (by kernel_rfl) (by kernel_rfl) (fun _ _ _ h => h) (Or.inl ⟨by rfl, fun W hW => by obtain ⟨q0, q1, q2, q3⟩ := hW; go_simp⟩) hS2 ?_
              simp only [Act.put, List.setIfInBounds_toArray, List.set_cons_zero, List.set_cons_succ]
              refine wpAnyH_take (i := 13) (oi := { dst := some 75, op := Op.move (Operand.tmp 9), type := 29, pos := "laws.go:591", after := #[{ on := 12, ground := Ground.guard }], guard := some (12, true) }) (v := .slice (some ⟨pb, poff, none⟩) pn qcap) rfl (by kernel_rfl) (by kernel_rfl) (by kernel_rfl) (fun _ _ _ h => h) (Or.inl ⟨by rfl, fun W hW => by obtain ⟨q0, q1, q2, q3⟩ := hW; go_simp⟩) hS2 ?_
              simp only [Act.put, List.setIfInBounds_toArray, List.set_cons_zero, List.set_cons_succ]
              refine wpAnyH_take (i := 14) (oi := { dst := some 76, op := Op.move (Operand.tmp 10), type := 3, pos := "laws.go:591", after := #[{ on := 12, ground := Ground.guard }], guard := some (12, true) }) (v := .int .i64 (k : Int)) rfl (by kernel_rfl) (by kernel_rfl) (by kernel_rfl) (fun _ _ _ h => h) (Or.inl ⟨by rfl, fun W hW => by obtain ⟨q0, q1, q2, q3⟩ := hW; go_simp⟩) hS2 ?_
              simp only [Act.put, List.setIfInBounds_toArray, List.set_cons_zero, List.set_cons_succ]
              refine wpAnyH_take (i := 15) (oi := { dst := some 77, op := Op.binOp BinOp.sub 3 (Operand.tmp 76) (Operand.const (Value.int IntKind.i64 1)) 3, type := 3, pos := "laws.go:591", after := #[{ on := 14, ground := Ground.data }, { on := 12, ground := Ground.guard }], guard := some (12, true) }) (v := .int .i64 ((k : Int) - 1)) rfl (by kernel_rfl) (by kernel_rfl) (by kernel_rfl) (fun _ _ _ h => h) (Or.inl ⟨by rfl, fun W hW => by obtain ⟨q0, q1, q2, q3⟩ := hW; go_simp⟩) hS2 ?_
              simp only [Act.put, List.setIfInBounds_toArray, List.set_cons_zero, List.set_cons_succ]
              refine wpAnyH_take (i := 16) (oi := { dst := some 78, op := Op.indexAddr 29 (Operand.tmp 75) (Operand.tmp 77), type := 0, pos := "laws.go:591", after := #[{ on := 13, ground := Ground.data }, { on := 15, ground := Ground.data }, { on := 12, ground := Ground.guard }], guard := some (12, true) }) (v := .pointer (some ⟨pb, poff + (k - 1), none⟩)) rfl (by kernel_rfl) (by kernel_rfl) (by kernel_rfl) (fun _ _ _ h => h) (Or.inl ⟨by rfl, fun W hW => by obtain ⟨q0, q1, q2, q3⟩ := hW; go_simp; intro hh; exact absurd hh (by omega)⟩) hS2 ?_
              simp only [Act.put, List.setIfInBounds_toArray, List.set_cons_zero, List.set_cons_succ]
              refine wpAnyH_take (i := 17) (oi := { dst := some 79, op := Op.load 3 (Operand.tmp 78), type := 3, pos := "laws.go:591", after := #[{ on := 16, ground := Ground.data }, { on := 12, ground := Ground.guard }], guard := some (12, true) }) (v := .int .i64 y) rfl (by kernel_rfl) (by kernel_rfl) (by kernel_rfl) (fun _ _ _ h => h) (Or.inl ⟨by rfl, fun W hW => by obtain ⟨q0, q1, q2, q3⟩ := hW; go_simp⟩) hS2 ?_
              simp only [Act.put, List.setIfInBounds_toArray, List.set_cons_zero, List.set_cons_succ]
              refine wpAnyH_take (i := 18) (oi := { dst := some 80, op := Op.move (Operand.tmp 9), type := 29, pos := "laws.go:591", after := #[{ on := 12, ground := Ground.guard }], guard := some (12, true) }) (v := .slice (some ⟨pb, poff, none⟩) pn qcap) rfl (by kernel_rfl) (by kernel_rfl) (by kernel_rfl) (fun _ _ _ h => h) (Or.inl ⟨by rfl, fun W hW => by obtain ⟨q0, q1, q2, q3⟩ := hW; go_simp⟩) hS2 ?_
              simp only [Act.put, List.setIfInBounds_toArray, List.set_cons_zero, List.set_cons_succ]
              refine wpAnyH_take (i := 19) (oi := { dst := some 81, op := Op.move (Operand.tmp 10), type := 3, pos := "laws.go:591", after := #[{ on := 12, ground := Ground.guard }], guard := some (12, true) }) (v := .int .i64 (k : Int)) rfl (by kernel_rfl) (by kernel_rfl) (by kernel_rfl) (fun _ _ _ h => h) (Or.inl ⟨by rfl, fun W hW => by obtain ⟨q0, q1, q2, q3⟩ := hW; go_simp⟩) hS2 ?_
              simp only [Act.put, List.setIfInBounds_toArray, List.set_cons_zero, List.set_cons_succ]
              refine wpAnyH_take (i := 20) (oi := { dst := some 82, op := Op.indexAddr 29 (Operand.tmp 80) (Operand.tmp 81), type := 0, pos := "laws.go:591", after := #[{ on := 18, ground := Ground.data }, { on := 19, ground := Ground.data }, { on := 12, ground := Ground.guard }], guard := some (12, true) }) (v := .pointer (some ⟨pb, poff + k, none⟩)) rfl (by kernel_rfl) (by kernel_rfl) (by kernel_rfl) (fun _ _ _ h => h) (Or.inl ⟨by rfl, fun W hW => by obtain ⟨q0, q1, q2, q3⟩ := hW; go_simp⟩) hS2 ?_
              simp only [Act.put, List.setIfInBounds_toArray, List.set_cons_zero, List.set_cons_succ]
              refine wpAnyH_take (i := 21) (oi := { dst := some 83, op := Op.load 3 (Operand.tmp 82), type := 3, pos := "laws.go:591", after := #[{ on := 20, ground := Ground.data }, { on := 12, ground := Ground.guard }], guard := some (12, true) }) (v := .int .i64 x) rfl (by kernel_rfl) (by kernel_rfl) (by kernel_rfl) (fun _ _ _ h => h) (Or.inl ⟨by rfl, fun W hW => by obtain ⟨q0, q1, q2, q3⟩ := hW; go_simp⟩) hS2 ?_
              simp only [Act.put, List.setIfInBounds_toArray, List.set_cons_zero, List.set_cons_succ]
              refine wpAnyH_take (i := 22) (oi := { dst := some 84, op := Op.binOp BinOp.geq 3 (Operand.tmp 79) (Operand.tmp 83) 3, type := 4, pos := "laws.go:591", after := #[{ on := 17, ground := Ground.data }, { on := 21, ground := Ground.data }, { on := 12, ground := Ground.guard }], guard := some (12, true) }) (v := .bool false) rfl (by kernel_rfl) (by kernel_rfl) (by kernel_rfl) (fun _ _ _ h => h) (Or.inl ⟨by rfl, fun W hW => by obtain ⟨q0, q1, q2, q3⟩ := hW; go_simp⟩) hS2 ?_
              simp only [Act.put, List.setIfInBounds_toArray, List.set_cons_zero, List.set_cons_succ]
              refine wpAnyH_take (i := 23) (oi := { dst := some 85, op := Op.pick (Operand.tmp 74) (Operand.tmp 84) (Operand.const (Value.bool false)), type := 4, pos := "laws.go:591", after := #[{ on := 12, ground := Ground.data }, { on := 22, ground := Ground.data }, { on := 9, ground := Ground.guard }], guard := some (9, false) }) (v := .bool false) rfl (by kernel_rfl) (by kernel_rfl) (by kernel_rfl) (fun _ _ _ h => h) (Or.inl ⟨by rfl, fun W hW => by obtain ⟨q0, q1, q2, q3⟩ := hW; go_simp⟩) hS2 ?_
              simp only [Act.put, List.setIfInBounds_toArray, List.set_cons_zero, List.set_cons_succ]
              refine wpAnyH_take (i := 24) (oi := { dst := some 86, op := Op.pick (Operand.tmp 71) (Operand.const (Value.bool true)) (Operand.tmp 85), type := 4, pos := "laws.go:591", after := #[{ on := 9, ground := Ground.data }, { on := 23, ground := Ground.data }], guard := none }) (v := .bool false) rfl (by kernel_rfl) (by kernel_rfl) (by kernel_rfl) (fun _ _ _ h => h) (Or.inl ⟨by rfl, fun W hW => by obtain ⟨q0, q1, q2, q3⟩ := hW; go_simp⟩) hS2 ?_
              simp only [Act.put, List.setIfInBounds_toArray, List.set_cons_zero, List.set_cons_succ]
              refine wpAnyH_done (by kernel_rfl) ?_ _
              simp only [Exit.then]
              go_at_K
              go_wp2_with fail
              go_roundw
              case rel => exact ⟨k + 1, by omega, by go_num, BSq.out⟩
              case measure => simp [intOf]; omega
          · go_wp2_with fail
            go_ret
            exact ⟨by first | rfl | simp [hnn2], Bq.out⟩

set_option maxRecDepth 100000 in
theorem lifted (os : Os) (started : os.Started) (H : Type) (enc : TypeId × Value → H) :
    ReturnsInHanded {} Try.checked os 3 .any (Rows.fnGraphSpec.pre6 enc Try.prog Try.f3 Rows.fnGraphRow.domain false) (Rows.fnGraphSpec.post enc Try.prog Try.f3 false true false false) := by
  refine returnsInHanded_of_change (C := Try.checked) own started (by kernel_rfl) Try.func3
    (ChangeSpec.witness6 (enc := enc) (C := Try.checked) false ⟨#[], #[.slice none 0 0], []⟩ 8 (by kernel_rfl) (by kernel_rfl) (by kernel_rfl) (by kernel_rfl)) ?_
  intro W base args ds gs before hval0 hW hcnd _
  have hval : ∀ (j : Nat) t v, Try.f3.params[j]? = some t → args[j]? = some v → Value.okWide Try.prog W .any base t v := hval0
  have hW' := hW
  obtain ⟨p, q, hA0, hV, rfl, hfz, hnd⟩ := hW
  have hA : DataW.TrodAll enc Try.prog W 0 (fun _ => true) true Try.f3.params.toList args.toList ds p := hA0
  rw [Try.params3] at hA hval
  obtain ⟨v0, vs0, d0, ds0, p0, q0, hargs, rfl, rfl, h0, r0x⟩ := trodAll_cons hA
  obtain ⟨rfl, rfl, rfl⟩ := trodAll_nil r0x
  obtain rfl : args = #[v0] := by cases args; simp_all
  obtain ⟨rfl, rfl⟩ := trodVars_none hV
  have k0 := h0
  have lt0 : ∀ x ∈ p0, x.block < W.heap.size := by obtain ⟨m, hm⟩ := k0; exact DataW.trod_lt m _ _ _ hm
  obtain ⟨a0, len0, cap0, rfl⟩ := okWide_slice Try.underlying22 (hval 0 22 v0 rfl rfl)
  obtain ⟨z0, r0⟩ : ∃ zs, IsRow .u8 W a0 len0 cap0 zs := by
    obtain ⟨fuel, hf⟩ := h0
    rcases open_ints Try.underlying22 Try.underlying5 (by kernel_rfl) hf with ⟨hcs, _⟩ | ⟨x, l, c, zs, hcs, _, hl, hm, hz, _, hcell, hwz⟩
    · simp [Value.cells] at hcs
      obtain ⟨rfl, rfl, rfl⟩ := hcs
      exact ⟨[], .inl ⟨rfl, rfl, rfl, rfl⟩⟩
    · simp [Value.cells] at hcs
      obtain ⟨rfl, rfl, rfl⟩ := hcs
      exact ⟨zs, .inr ⟨_, rfl, hl, hm, by simpa using hz, hcell, hwz⟩⟩
  clear hA0 hval0
  refine (walk W a0 len0 cap0 z0 r0).mono fun e W' ⟨he, bel⟩ => ?_
  subst he
  exact ⟨_, rfl, _, _, _, [], _, [], hW', trodAll_mk1 (shut_bool Try.underlying4 _), (trodAll_cons_mk (Below.trod laidOut (by kernel_rfl) (of_decide_eq_true (by kernel_rfl)) k0 bel lt0) trodAll_mk0), rfl, bel.frame _, fun h => by cases h⟩

theorem over : Rows.fnGraphRow.holds Try.pinned (OpenSpec.ofChange Rows.fnGraphSpec) :=
  OpenClaim.holds_of_wide 3 Try.f3 rfl rfl rfl rfl rfl rfl rfl ⟨rfl, rfl, rfl, rfl, rfl⟩ rfl rfl rfl rfl rfl (by kernel_rfl) Try.func3 (by kernel_rfl)
    (of_decide_eq_true (by kernel_rfl)) (by unfold Func.isWrapper; first | (rw [if_pos (by decide +kernel)]; kernel_rfl) | (rw [if_neg (by decide +kernel)]; exact ⟨rfl, rfl⟩))
    (fun os started H enc _ => lifted os started H enc)

/-- The statement. -/
theorem proved : Rows.FnGraphSaid := over
#print axioms proved
end Go.Proofs.Ytggcpefhaijeiaa.fnGraph
