/- Proved: whatever the bytes, of the drawn step the program's text is the model's, it is not empty just where the step is one, and another step that is drawn has another text -/
import Derived.Test.YtanngcedmojocaaDoorRows
import Derived.Test.YtanngcedmojocaaDoorTxLaid
import Derived.Test.YtanngcedmojocaaDoorTxOpen
import Derived.Test.YtanngcedmojocaaDoorTie
import Derived.Test.YtanngcedmojocaaDoorCards
import Derived.SevenTiedAt
import Derived.Test.YtanngcedmojocaaDoorStDrawT
import Derived.Test.YtanngcedmojocaaDoorTxIm3
import Derived.Test.YtanngcedmojocaaDoorTxSp
import Derived.Test.YtanngcedmojocaaDoorTo
import Derived.WalkKit
import Derived.ProofKit
import Derived.OpenShut
import Derived.ShutString
import Derived.ChangeOld
import Derived.Below
namespace Go.Proofs.YtanngcedmojocaaDoor.fnStepText
open Go.ChangeShapes Go.WideShapes Go.ChangeAt Go.RowKit
open Go.ChangeMaps (open_string shut_string)
set_option linter.unusedVariables false

theorem laidOut : laidOutB Tryd.prog = true := by kernel_rfl

set_option maxHeartbeats 4000000 in
theorem walk (w : World) (a0 : Option Addr) (len0 cap0 : Nat) (z0 : List Int) (r0 : IsRow .u8 w a0 len0 cap0 z0) (hT : Tabs w) :
    Calls Tryd.prog 3 #[.slice a0 len0 cap0] w fun e w' => e = .returned (.bool true) ∧ Below w.heap.size w w' := by
  have HT : Hid (Tabs w) := hT
  have HR : Hid (IsRow .u8 w a0 len0 cap0 z0) := r0
  clear hT r0
  go_enter Tryd.func3, Tryd.ntmps3
  go_wp2_with fail
  refine (big_anyT a0 len0 cap0 _).mono ?_
  rintro e w1 ⟨q, rfl, rfl⟩
  cases q with
  | true =>
    go_wp2_with fail
    go_ret
    exact ⟨rfl, Below.refl _ _⟩
  | false =>
    go_wp2_with fail
    refine (drawStepText_any a0 len0 cap0 z0 _ HR.out).mono ?_
    rintro e w2 ⟨op, d, a, b, n, rfl, ho, hn, b2⟩
    have HO : Hid (-9223372036854775808 ≤ op ∧ op ≤ 9223372036854775807) := ⟨by omega, by omega⟩
    have HN : Hid (-9223372036854775808 ≤ n ∧ n ≤ 9223372036854775807) := hn
    have HB2 : Hid (Below w1.heap.size w1 w2) := b2
    obtain ⟨T, HTX⟩ : ∃ T, Hid (textX ⟨op, d, a, b, n⟩ = T) := ⟨_, rfl⟩
    obtain ⟨r, HRR⟩ : ∃ r, Hid (stepOkB ⟨op, d, a, b, n⟩ 900 = r) := ⟨_, rfl⟩
    clear ho hn b2
    go_wp2_with fail
    have HX3 : Hid (InsBox (w2.alloc (.cells #[.int .i64 op, .int .i64 d, .int .i64 a, .int .i64 b, .int .i64 n] 25)) w2.heap.size op d a b n) := insBox_new w2 _ op d a b n
    have HB3 : Hid (Below w1.heap.size w1 (w2.alloc (.cells #[.int .i64 op, .int .i64 d, .int .i64 a, .int .i64 b, .int .i64 n] 25))) := Bel.after HB2.out (Bel.alloc _ _)
    obtain ⟨w3, hw3⟩ : ∃ W, w2.alloc (.cells #[.int .i64 op, .int .i64 d, .int .i64 a, .int .i64 b, .int .i64 n] 25) = W := ⟨_, rfl⟩
    obtain ⟨XB, HXB⟩ : ∃ q, Hid (w2.heap.size = q) := ⟨_, rfl⟩
    rw [hw3] at HX3 HB3 ⊢
    rw [HXB.out] at HX3 ⊢
    clear hw3
    refine (impl_stepText op d a b n _ HO.out HN.out (HT.out.keep HB3.out)).mono ?_
    rw [HTX.out]
    rintro e w4 ⟨rfl, b4⟩
    have HB4 : Hid (Below w1.heap.size w1 w4) := Bel.after HB3.out b4
    have HX4 : Hid (InsBox w4 XB op d a b n) := HX3.out.keep b4
    clear b4
    obtain ⟨c0, c1, c2, c3, c4⟩ := HX4.out
    go_wp2_with fail
    clear c0 c1 c2 c3 c4
    refine (spec_stepText op d a b n _ HO.out HN.out).mono ?_
    rw [HTX.out]
    rintro e w5 ⟨rfl, b5⟩
    have HB5 : Hid (Below w1.heap.size w1 w5) := Bel.after HB4.out b5
    have HX5 : Hid (InsBox w5 XB op d a b n) := HX4.out.keep b5
    have hne : ((bs T).toList != (bs T).toList) = false := by simp
    clear b5
    go_wp2_with fail
    refine (drawIdle_any a0 len0 cap0 z0 _ (HR.out.afterT HB5.out)).mono ?_
    rintro e w6 ⟨op', d', a', b', n', z, rfl, ho', hn', _, b6⟩
    have HO' : Hid (-9223372036854775808 ≤ op' ∧ op' ≤ 9223372036854775807) := ⟨by omega, by omega⟩
    have HN' : Hid (-9223372036854775808 ≤ n' ∧ n' ≤ 9223372036854775807) := hn'
    have HB6 : Hid (Below w1.heap.size w1 w6) := Bel.after HB5.out b6
    have HX6 : Hid (InsBox w6 XB op d a b n) := HX5.out.keep b6
    clear b6 ho' hn'
    obtain ⟨c0, c1, c2, c3, c4⟩ := HX6.out
    go_upto_region 8 with fail
    have HX7 : Hid (InsBox (w6.alloc (.cells #[.int .i64 op', .int .i64 d', .int .i64 a', .int .i64 b', .int .i64 n'] 25)) XB op d a b n) := HX6.out.keep (Bel.alloc _ _)
    have HY7 : Hid (InsBox (w6.alloc (.cells #[.int .i64 op', .int .i64 d', .int .i64 a', .int .i64 b', .int .i64 n'] 25)) w6.heap.size op' d' a' b' n') := insBox_new w6 _ op' d' a' b' n'
    have HB7 : Hid (Below w1.heap.size w1 (w6.alloc (.cells #[.int .i64 op', .int .i64 d', .int .i64 a', .int .i64 b', .int .i64 n'] 25))) := Bel.after HB6.out (Bel.alloc _ _)
    obtain ⟨w7, hw7⟩ : ∃ W, w6.alloc (.cells #[.int .i64 op', .int .i64 d', .int .i64 a', .int .i64 b', .int .i64 n'] 25) = W := ⟨_, rfl⟩
    obtain ⟨YB, HYB⟩ : ∃ q, Hid (w6.heap.size = q) := ⟨_, rfl⟩
    rw [hw7] at HX7 HY7 HB7 ⊢
    rw [HYB.out] at HY7 ⊢
    clear hw7 c0 c1 c2 c3 c4
    obtain ⟨c0, c1, c2, c3, c4⟩ := HX7.out
    go_wp2_with fail
    clear c0 c1 c2 c3 c4
    refine (impl_stepOk op d a b n 900 _ HO.out (HT.out.keep HB7.out).ft).mono ?_
    rw [HRR.out]
    rintro e w8 ⟨rfl, b8⟩
    have HB8 : Hid (Below w1.heap.size w1 w8) := Bel.after HB7.out b8
    have HX8 : Hid (InsBox w8 XB op d a b n) := HX7.out.keep b8
    have HY8 : Hid (InsBox w8 YB op' d' a' b' n') := HY7.out.keep b8
    clear b8
    obtain ⟨c0, c1, c2, c3, c4⟩ := HX8.out
    obtain ⟨y0, y1, y2, y3, y4⟩ := HY8.out
    cases r with
    | false =>
      obtain rfl : [] = T := by rw [← HTX.out, textX_no HRR.out]
      have hem0 : (bs []).toList.isEmpty = true := by rw [ByteArray.toList_eq, bs_list]; rfl
      have hem1 : (bs []).toList = [] := by rw [ByteArray.toList_eq, bs_list]
      go_wp2_with fail
      all_goals
        go_ret
        exact ⟨rfl, HB8.out⟩
    | true =>
      have HTN : Hid (T ≠ []) := by show _ ≠ _; rw [← HTX.out, textX_line HRR.out]; exact lineX_ne HRR.out
      have hemp : (bs T).toList.isEmpty = false := by
        rw [ByteArray.toList_eq, bs_list]
        have := HTN.out
        cases h9 : T with
        | nil => exact absurd h9 this
        | cons x l => rfl
      by_cases hE : op = op' ∧ d = d' ∧ a = a' ∧ b = b' ∧ n = n'
      · obtain ⟨rfl, rfl, rfl, rfl, rfl⟩ := hE
        go_wp2_with fail
        all_goals
          refine bodyPost_ret (v := .bool true) (by simp [results, Tryd.results3, go_sem]) rfl ?_
          exact ⟨rfl, HB8.out⟩
      · obtain ⟨U, HU⟩ : ∃ U, Hid (textX ⟨op', d', a', b', n'⟩ = U) := ⟨_, rfl⟩
        have HTU : Hid (T ≠ U) := by
          show _ ≠ _
          intro e9
          have h1 : IsLine T ⟨op, d, a, b, n⟩ := (isLine_text (x := ⟨op, d, a, b, n⟩) HN.out HTN.out).2 HTX.out
          have h2 : IsLine T ⟨op', d', a', b', n'⟩ := (isLine_text (x := ⟨op', d', a', b', n'⟩) HN'.out HTN.out).2 (HU.out.trans e9.symm)
          have h3 := h1.uniq h2
          simp only [InsD.mk.injEq] at h3
          exact hE h3
        have hneU : ((bs T).toList != (bs U).toList) = true := by
          rw [ByteArray.toList_eq, ByteArray.toList_eq, bs_list, bs_list]
          simpa using HTU.out
        have hneV : ¬ (bs T).toList = (bs U).toList := by simpa using hneU
        go_wp2_with fail
        all_goals
          refine (impl_stepText op' d' a' b' n' _ HO'.out HN'.out (HT.out.keep HB8.out)).mono ?_
          rw [HU.out]
          rintro e w9 ⟨rfl, b9⟩
          go_wp2_with fail
          refine bodyPost_ret (v := .bool true) (by simp [results, Tryd.results3, go_sem, hneV]) rfl ?_
          exact ⟨rfl, Bel.after HB8.out b9⟩

set_option maxRecDepth 100000 in
theorem lifted (os : Os) (started : os.Started) (H : Type) (enc : TypeId × Value → H) :
    ReturnsInHanded {} Tryd.checked os 3 .any (fun w args => (Rows.fnStepTextSpec.pre enc Tryd.prog Tryd.f3 [] false w args ∧ laidMetH Tryd.prog Rows.fnStepTextRow.laid w) ∧ sizedMet enc Tryd.prog Tryd.f3 (OpenSpec.ofChange Rows.fnStepTextSpec) false w args)
      (Rows.fnStepTextSpec.post enc Tryd.prog Tryd.f3 false true false false) := by
  refine returnsInHanded_of_change_and (C := Tryd.checked) (X := fun w _ => laidMetH Tryd.prog Rows.fnStepTextRow.laid w) (fun _ _ _ hh h => h.of_heap hh) own started (by kernel_rfl) Tryd.func3
    (ChangeSpec.witness_shaped (enc := enc) (C := Tryd.checked) (os := os) (X := fun w _ => laidMetH Tryd.prog Rows.fnStepTextRow.laid w) false (World.doorLaid Tryd.prog 400 os) #[.slice none 0 0] 8 rfl (World.shaped_of_RefB (by kernel_rfl) (by kernel_rfl)) (by kernel_rfl) (by kernel_rfl) (by kernel_rfl) (door_met os _)) ?_
  intro W base args ds gs before hval0 hW _ _ hL _
  have hval : ∀ (j : Nat) t v, Tryd.f3.params[j]? = some t → args[j]? = some v → Value.okWide Tryd.prog W .any base t v := hval0
  have hW' := hW
  obtain ⟨p, q, hA0, hV0, rfl, hfz, hnd⟩ := hW
  have hA : DataW.TrodAll enc Tryd.prog W 0 (fun _ => true) true Tryd.f3.params.toList args.toList ds p := hA0
  rw [Tryd.params3] at hA hval
  obtain ⟨v0, vs0, d0, ds0, p0, q0, hargs, rfl, rfl, h0, r0x⟩ := trodAll_cons hA
  obtain ⟨rfl, rfl, rfl⟩ := trodAll_nil r0x
  obtain rfl : args = #[v0] := by cases args; simp_all
  have hV : DataW.TrodVars enc Tryd.prog W (fun _ => true) Rows.fnStepTextSpec.vars gs q := hV0
  obtain ⟨gv0, gv1, gv2, rfl⟩ := trodVars_three hV
  have hT := of_laid hL
  have k0 := h0
  have lt0 : ∀ x ∈ p0, x.block < W.heap.size := by obtain ⟨m, hm⟩ := k0; exact DataW.trod_lt m _ _ _ hm
  obtain ⟨a0, len0, cap0, rfl⟩ := okWide_slice Tryd.underlying22 (hval 0 22 v0 rfl rfl)
  obtain ⟨z0, r0⟩ : ∃ zs, IsRow .u8 W a0 len0 cap0 zs := by
    obtain ⟨fuel, hf⟩ := h0
    rcases open_ints Tryd.underlying22 Tryd.underlying5 (by kernel_rfl) hf with ⟨hcs, _⟩ | ⟨x, l, c, zs, hcs, _, hl, hm, hz, _, hcell, hwz⟩
    · simp [Value.cells] at hcs
      obtain ⟨rfl, rfl, rfl⟩ := hcs
      exact ⟨[], .inl ⟨rfl, rfl, rfl, rfl⟩⟩
    · simp [Value.cells] at hcs
      obtain ⟨rfl, rfl, rfl⟩ := hcs
      exact ⟨zs, .inr ⟨_, rfl, hl, hm, by simpa using hz, hcell, hwz⟩⟩
  clear hA0 hV0 hval0
  refine (walk W a0 len0 cap0 z0 r0 hT).mono fun e W' ⟨he, bel⟩ => ?_
  subst he
  exact ⟨_, rfl, _, _, _, [], _, q, hW', trodAll_mk1 (shut_bool Tryd.underlying4 _), (trodAll_cons_mk (Below.trod laidOut (by kernel_rfl) (of_decide_eq_true (by kernel_rfl)) k0 bel lt0) trodAll_mk0), Below.trodVars laidOut bel (by kernel_rfl) hV, bel.frame _, fun h => by cases h⟩

theorem over : Rows.fnStepTextRow.holds Tryd.pinned (OpenSpec.ofChange Rows.fnStepTextSpec) :=
  OpenClaim.holds_of_wide 3 Tryd.f3 rfl rfl rfl rfl rfl rfl rfl ⟨rfl, rfl, rfl, rfl, rfl⟩ rfl rfl rfl rfl rfl (by kernel_rfl) Tryd.func3 (by kernel_rfl)
    (of_decide_eq_true (by kernel_rfl)) (by unfold Func.isWrapper; first | (rw [if_pos (by decide +kernel)]; kernel_rfl) | (rw [if_neg (by decide +kernel)]; exact ⟨rfl, rfl⟩))
    (fun os started H enc _ => lifted os started H enc)

/-- The card: the row, its listed variable tied to the program's text. -/
theorem proved : Rows.FnStepTextCardSaid :=
  Claim7.holds_tied_plain_at .later [] [.data, .data, .data, .data, .data, .data] true Rows.fnStepTextCard.stood.harness Rows.fnStepTextCard.stood.looks
    over (fun _ h => by cases h) (by kernel_rfl) (fun _ h => by cases h) fnStepText_row_tie rfl ⟨rfl, rfl⟩ (by kernel_rfl) rfl
    (fun f fn hf hfn => by
      obtain rfl : f = 3 := Option.some.inj ((show Tryd.prog.funcNamed Rows.fnStepTextRow.func = some 3 by kernel_rfl).symm.trans hf) |>.symm
      obtain rfl : fn = Tryd.f3 := (Option.some.inj (Tryd.func3.symm.trans hfn)).symm
      exact ⟨by kernel_rfl, fun j t ht => by
        rw [Tryd.params3] at ht
        have hm : t ∈ [22] := by simpa using Array.mem_of_getElem? ht
        have hall : ([22].all fun u => !Tryd.prog.wantsStandIn u) = true := by kernel_rfl
        exact (show Tryd.prog.wantsStandIn t = false by simpa using List.all_eq_true.1 hall t hm)⟩)
    (by kernel_rfl)
#print axioms proved
end Go.Proofs.YtanngcedmojocaaDoor.fnStepText
