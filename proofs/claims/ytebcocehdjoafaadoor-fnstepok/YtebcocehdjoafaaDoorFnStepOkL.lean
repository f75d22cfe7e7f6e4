/- Proved: for whatever bytes the drawn step is StepOk by the program just where it is by the model, then also among one place more, and its registers are registers; the card ties the table to the program's text. -/
import Derived.Test.YtebcocehdjoafaaDoorRows
import Derived.Test.YtebcocehdjoafaaDoorMaLaid
import Derived.Test.YtebcocehdjoafaaDoorTie
import Derived.Test.YtebcocehdjoafaaDoorCards
import Derived.SevenTiedAt
import Derived.Test.YtebcocehdjoafaaDoorStDrawV
import Derived.Test.YtebcocehdjoafaaDoorMaSt
import Derived.Test.YtebcocehdjoafaaDoorMaOk
import Derived.WalkKit
import Derived.ProofKit
import Derived.OpenShut
import Derived.ShutString
import Derived.ChangeOld
import Derived.Below
namespace Go.Proofs.YtebcocehdjoafaaDoor.fnStepOk
open Go.ChangeShapes Go.WideShapes Go.ChangeAt Go.RowKit
open Go.ChangeMaps (open_string shut_string)
set_option linter.unusedVariables false

theorem laidOut : laidOutB Tryd.prog = true := by kernel_rfl

set_option maxHeartbeats 4000000 in
theorem walk (w : World) (a0 : Option Addr) (len0 cap0 : Nat) (z0 : List Int) (r0 : IsRow .u8 w a0 len0 cap0 z0) (hT : FTab w) :
    Calls Tryd.prog 3 #[.slice a0 len0 cap0] w fun e w' => e = .returned (.bool true) ∧ Below w.heap.size w w' := by
  have HT : Hid (FTab w) := hT
  have HR : Hid (IsRow .u8 w a0 len0 cap0 z0) := r0
  clear hT r0
  go_enter Tryd.func3, Tryd.ntmps3
  go_wp2_with fail
  refine (big_anyS a0 len0 cap0 _).mono ?_
  rintro e w1 ⟨q, rfl, rfl⟩
  cases q with
  | true =>
    go_wp2_with fail
    go_ret
    exact ⟨rfl, Below.refl _ _⟩
  | false =>
    go_wp2_with fail
    refine (drawStepOk_any a0 len0 cap0 z0 _ HR.out).mono ?_
    rintro e w2 ⟨op, d, a, b, n, rfl, ho, b2⟩
    have HO : Hid (-9223372036854775808 ≤ op ∧ op ≤ 9223372036854775807) := ho
    have HB2 : Hid (Below w1.heap.size w1 w2) := b2
    obtain ⟨r, HRR⟩ : ∃ r, Hid (stepOkB ⟨op, d, a, b, n⟩ 9 = r) := ⟨_, rfl⟩
    clear ho b2
    go_wp2_with fail
    have HBA : Hid (Below w1.heap.size w1 (w2.alloc (.cells #[.int .i64 op, .int .i64 d, .int .i64 a, .int .i64 b, .int .i64 n] 25))) := Bel.after HB2.out (Bel.alloc _ _)
    refine (impl_stepOk op d a b n 9 _ HO.out (HT.out.keep HBA.out)).mono ?_
    rintro e w3 ⟨rfl, b3⟩
    rw [HRR.out]
    obtain ⟨c0, c1, c2, c3, c4⟩ := (insBox_new w2 _ op d a b n).keep b3
    have HB3 : Hid (Below w1.heap.size w1 w3) := Bel.after HBA.out b3
    clear b3 HBA HB2
    obtain ⟨XB, HXB⟩ : ∃ q, Hid (w2.heap.size = q) := ⟨_, rfl⟩
    rw [HXB.out] at c0 c1 c2 c3 c4 ⊢
    go_wp2_with fail
    refine (spec_stepOk op d a b n 9 _ HO.out).mono ?_
    rintro e w4 ⟨rfl, b4⟩
    rw [HRR.out]
    have HB4 : Hid (Below w1.heap.size w1 w4) := Bel.after HB3.out b4
    replace c0 := Bel.keeps b4 c0
    replace c1 := Bel.keeps b4 c1
    replace c2 := Bel.keeps b4 c2
    replace c3 := Bel.keeps b4 c3
    replace c4 := Bel.keeps b4 c4
    clear b4 HB3
    have hne : (r != r) = false := by simp
    cases r with
    | false =>
      go_wp2_with fail
      go_ret
      exact ⟨rfl, HB4.out⟩
    | true =>
      have HM : Hid (stepOkB ⟨op, d, a, b, n⟩ 10 = true) := stepOkB_more HRR.out (by omega)
      obtain ⟨⟨d0, d1⟩, ⟨a1, a2⟩, ⟨b0, b1⟩⟩ := stepOkB_regs HRR.out
      replace d1 : d < 8 := by simp at d1; omega
      replace a2 : a < 8 := by simp at a2; omega
      replace b1 : b < 8 := by simp at b1; omega
      replace d0 : 0 ≤ d := d0
      replace a1 : 0 ≤ a := a1
      replace b0 : 0 ≤ b := b0
      go_wp2_with fail
      refine (impl_stepOk op d a b n 10 _ HO.out (HT.out.keep HB4.out)).mono ?_
      rintro e w5 ⟨rfl, b5⟩
      rw [HM.out]
      have HB5 : Hid (Below w1.heap.size w1 w5) := Bel.after HB4.out b5
      replace c0 := Bel.keeps b5 c0
      replace c1 := Bel.keeps b5 c1
      replace c2 := Bel.keeps b5 c2
      replace c3 := Bel.keeps b5 c3
      replace c4 := Bel.keeps b5 c4
      clear b5 HB4
      go_wp2_with fail
      go_ret
      exact ⟨by simp [*], HB5.out⟩

set_option maxRecDepth 100000 in
theorem lifted (os : Os) (started : os.Started) (H : Type) (enc : TypeId × Value → H) :
    ReturnsInHanded {} Tryd.checked os 3 .any (fun w args => (Rows.fnStepOkSpec.pre enc Tryd.prog Tryd.f3 [] false w args ∧ laidMetH Tryd.prog Rows.fnStepOkRow.laid w) ∧ sizedMet enc Tryd.prog Tryd.f3 (OpenSpec.ofChange Rows.fnStepOkSpec) false w args)
      (Rows.fnStepOkSpec.post enc Tryd.prog Tryd.f3 false true false false) := by
  refine returnsInHanded_of_change_and (C := Tryd.checked) (X := fun w _ => laidMetH Tryd.prog Rows.fnStepOkRow.laid w) (fun _ _ _ hh h => h.of_heap hh) own started (by kernel_rfl) Tryd.func3
    (ChangeSpec.witness_shaped (enc := enc) (C := Tryd.checked) (os := os) (X := fun w _ => laidMetH Tryd.prog Rows.fnStepOkRow.laid w) false (World.doorLaid Tryd.prog 400 os) #[.slice none 0 0] 8 rfl (World.shaped_of_RefB (by kernel_rfl) (by kernel_rfl)) (by kernel_rfl) (by kernel_rfl) (by kernel_rfl) (door_met os _)) ?_
  intro W base args ds gs before hval0 hW _ _ hL _
  have hval : ∀ (j : Nat) t v, Tryd.f3.params[j]? = some t → args[j]? = some v → Value.okWide Tryd.prog W .any base t v := hval0
  have hW' := hW
  obtain ⟨p, q, hA0, hV0, rfl, hfz, hnd⟩ := hW
  have hA : DataW.TrodAll enc Tryd.prog W 0 (fun _ => true) true Tryd.f3.params.toList args.toList ds p := hA0
  rw [Tryd.params3] at hA hval
  obtain ⟨v0, vs0, d0, ds0, p0, q0, hargs, rfl, rfl, h0, r0x⟩ := trodAll_cons hA
  obtain ⟨rfl, rfl, rfl⟩ := trodAll_nil r0x
  obtain rfl : args = #[v0] := by cases args; simp_all
  have hV : DataW.TrodVars enc Tryd.prog W (fun _ => true) [tabName] gs q := hV0
  obtain ⟨g, t, cs, fuel, dv, pv, rfl, hg, ht, hvar, hd, rfl⟩ := trodVars_one hV
  obtain rfl := Option.some.inj (gTab.symm.trans hg)
  obtain rfl := Option.some.inj (tTab.symm.trans ht)
  have hT := of_laid hL
  have hlt0 : 0 < W.heap.size := World.block_lt_of_cell? W _ (hT 0 (by omega)).1
  have hltv : ∀ x ∈ pv, x.block < W.heap.size := fun x hx => hW'.lt x (List.mem_append_right _ (List.mem_append_right _ hx))
  have k0 := h0
  have lt0 : ∀ x ∈ p0, x.block < W.heap.size := by obtain ⟨m, hm⟩ := k0; exact DataW.trod_lt m _ _ _ hm
  obtain ⟨a0, len0, cap0, rfl⟩ := okWide_slice Tryd.underlying22 (hval 0 22 v0 rfl rfl)
  obtain ⟨z0, r0⟩ : ∃ zs, IsRow .u8 W a0 len0 cap0 zs := by
    obtain ⟨fuel, hf⟩ := h0
    rcases open_ints Tryd.underlying22 Tryd.underlying5 (by kernel_rfl) hf with ⟨hcs, _⟩ | ⟨x, l, c, zs, hcs, _, hl, hm, hz, _, hcell, hwz⟩
    · simp [Value.cells] at hcs
      obtain ⟨rfl, rfl, rfl⟩ := hcs
      exact ⟨[], .inl ⟨rfl, rfl, rfl, rfl⟩⟩
    · simp [Value.cells] at hcs
      obtain ⟨rfl, rfl, rfl⟩ := hcs
      exact ⟨zs, .inr ⟨_, rfl, hl, hm, by simpa using hz, hcell, hwz⟩⟩
  clear hA0 hV0 hval0
  refine (walk W a0 len0 cap0 z0 r0 hT).mono fun e W' ⟨he, bel⟩ => ?_
  subst he
  exact ⟨_, rfl, _, _, _, [], _, (MemPlace.row ⟨0, 0, none⟩ cs.size ++ pv), hW', trodAll_mk1 (shut_bool Tryd.underlying4 _), (trodAll_cons_mk (Below.trod laidOut (by kernel_rfl) (of_decide_eq_true (by kernel_rfl)) k0 bel lt0) trodAll_mk0), vars_again hvar hd hltv hlt0 bel, bel.frame _, fun h => by cases h⟩

theorem over : Rows.fnStepOkRow.holds Tryd.pinned (OpenSpec.ofChange Rows.fnStepOkSpec) :=
  OpenClaim.holds_of_wide 3 Tryd.f3 rfl rfl rfl rfl rfl rfl rfl ⟨rfl, rfl, rfl, rfl, rfl⟩ rfl rfl rfl rfl rfl (by kernel_rfl) Tryd.func3 (by kernel_rfl)
    (of_decide_eq_true (by kernel_rfl)) (by unfold Func.isWrapper; first | (rw [if_pos (by decide +kernel)]; kernel_rfl) | (rw [if_neg (by decide +kernel)]; exact ⟨rfl, rfl⟩))
    (fun os started H enc _ => lifted os started H enc)

/-- The card: the row, its listed variable tied to the program's text. -/
theorem proved : Rows.FnStepOkCardSaid :=
  Claim7.holds_tied_plain_at .later [] [.data] true Rows.fnStepOkCard.stood.harness Rows.fnStepOkCard.stood.looks
    over (fun _ h => by cases h) (by kernel_rfl) (fun _ h => by cases h) fnStepOk_row_tie rfl ⟨rfl, rfl⟩ (by kernel_rfl) rfl
    (fun f fn hf hfn => by
      obtain rfl : f = 3 := Option.some.inj ((show Tryd.prog.funcNamed Rows.fnStepOkRow.func = some 3 by kernel_rfl).symm.trans hf) |>.symm
      obtain rfl : fn = Tryd.f3 := (Option.some.inj (Tryd.func3.symm.trans hfn)).symm
      exact ⟨by kernel_rfl, fun j t ht => by
        rw [Tryd.params3] at ht
        have hm : t ∈ [22] := by simpa using Array.mem_of_getElem? ht
        have hall : ([22].all fun u => !Tryd.prog.wantsStandIn u) = true := by kernel_rfl
        exact (show Tryd.prog.wantsStandIn t = false by simpa using List.all_eq_true.1 hall t hm)⟩)
    (by kernel_rfl)
#print axioms proved
end Go.Proofs.YtebcocehdjoafaaDoor.fnStepOk
