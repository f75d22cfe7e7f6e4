/- Proved: for every step and every number the law FnExactStepOk returns true (the program's StepOk answers as the model's) and its arguments and the program's table of forms read afterwards as before; the card ties the table to the program's text. -/
import Derived.Test.YtebcocehdjoafaaDoorRows
import Derived.Test.YtebcocehdjoafaaDoorMaLaid
import Derived.Test.YtebcocehdjoafaaDoorTie
import Derived.Test.YtebcocehdjoafaaDoorCards
import Derived.SevenTiedAt
import Derived.Test.YtebcocehdjoafaaDoorMaOpen
import Derived.WalkKit
import Derived.ProofKit
import Derived.OpenShut
import Derived.ShutString
import Derived.ChangeOld
import Derived.Below
namespace Go.Proofs.YtebcocehdjoafaaDoor.fnExactStepOk
open Go.ChangeShapes Go.WideShapes Go.ChangeAt Go.RowKit
open Go.ChangeMaps (open_string shut_string)
set_option linter.unusedVariables false

theorem laidOut : laidOutB Tryd.prog = true := by kernel_rfl

set_option maxHeartbeats 4000000 in
theorem walk (w : World) (a0p a0q a0r a0s a0t : Int) (wf0 : -9223372036854775808 ≤ a0p ∧ a0p ≤ 9223372036854775807) (a1 : Int) (wf1 : (Lit.int .i64 a1).wf = true) (hT : FTab w) :
    Calls Tryd.prog 4 #[.agg #[.int .i64 a0p, .int .i64 a0q, .int .i64 a0r, .int .i64 a0s, .int .i64 a0t], .int .i64 a1] w fun e w' => e = .returned (.bool true) ∧ Below w.heap.size w w' := by
  have HT : Hid (FTab w) := hT
  have HO : Hid (-9223372036854775808 ≤ a0p ∧ a0p ≤ 9223372036854775807) := wf0
  clear hT wf0
  obtain ⟨r, HR⟩ : ∃ r, Hid (stepOkB ⟨a0p, a0q, a0r, a0s, a0t⟩ a1 = r) := ⟨_, rfl⟩
  go_enter Tryd.func4, Tryd.ntmps4
  go_wp2_with fail
  refine (toStep_fz a0p a0q a0r a0s a0t _).mono ?_
  rintro e w1 ⟨rfl, b1, z1⟩
  obtain ⟨c0, c1, c2, c3, c4⟩ := (insBox_new w _ a0p a0q a0r a0s a0t).keep b1
  have HB1 : Hid (Below w.heap.size w w1) := Bel.after (Bel.alloc _ _) b1
  clear b1 z1
  go_wp2_with fail
  refine (spec_stepOk a0p a0q a0r a0s a0t a1 _ HO.out).mono ?_
  rintro e w2 ⟨rfl, b2⟩
  rw [HR.out]
  have HB2 : Hid (Below w.heap.size w w2) := Bel.after HB1.out b2
  replace c0 := Bel.keeps b2 c0
  replace c1 := Bel.keeps b2 c1
  replace c2 := Bel.keeps b2 c2
  replace c3 := Bel.keeps b2 c3
  replace c4 := Bel.keeps b2 c4
  clear b2
  go_wp2_with fail
  refine (toStep_fz a0p a0q a0r a0s a0t _).mono ?_
  rintro e w3 ⟨rfl, b3, z3⟩
  have HB3 : Hid (Below w.heap.size w w3) := Bel.after HB2.out b3
  clear b3 z3 c0 c1 c2 c3 c4
  go_wp2_with fail
  refine (impl_stepOk a0p a0q a0r a0s a0t a1 _ HO.out (HT.out.keep HB3.out)).mono ?_
  rintro e w4 ⟨rfl, b4⟩
  rw [HR.out]
  have HB4 : Hid (Below w.heap.size w w4) := Bel.after HB3.out b4
  clear b4
  have hne : (r != r) = false := by simp
  go_wp2
  go_ret
  exact ⟨rfl, HB4.out⟩

set_option maxRecDepth 100000 in
theorem lifted (os : Os) (started : os.Started) (H : Type) (enc : TypeId × Value → H) :
    ReturnsInHanded {} Tryd.checked os 4 .any (fun w args => (Rows.fnExactStepOkSpec.pre enc Tryd.prog Tryd.f4 [] false w args ∧ laidMetH Tryd.prog Rows.fnExactStepOkRow.laid w) ∧ sizedMet enc Tryd.prog Tryd.f4 (OpenSpec.ofChange Rows.fnExactStepOkSpec) false w args)
      (Rows.fnExactStepOkSpec.post enc Tryd.prog Tryd.f4 false true false false) := by
  refine returnsInHanded_of_change_and (C := Tryd.checked) (X := fun w _ => laidMetH Tryd.prog Rows.fnExactStepOkRow.laid w) (fun _ _ _ hh h => h.of_heap hh) own started (by kernel_rfl) Tryd.func4
    (ChangeSpec.witness_shaped (enc := enc) (C := Tryd.checked) (os := os) (X := fun w _ => laidMetH Tryd.prog Rows.fnExactStepOkRow.laid w) false (World.doorLaid Tryd.prog 400 os) #[.agg #[.int .i64 0, .int .i64 0, .int .i64 0, .int .i64 0, .int .i64 0], .int .i64 0] 8 rfl (World.shaped_of_RefB (by kernel_rfl) (by kernel_rfl)) (by kernel_rfl) (by kernel_rfl) (by kernel_rfl) (door_met os _)) ?_
  intro W base args ds gs before hval0 hW _ _ hL _
  have hval : ∀ (j : Nat) t v, Tryd.f4.params[j]? = some t → args[j]? = some v → Value.okWide Tryd.prog W .any base t v := hval0
  have hW' := hW
  obtain ⟨p, q, hA0, hV0, rfl, hfz, hnd⟩ := hW
  have hA : DataW.TrodAll enc Tryd.prog W 0 (fun _ => true) true Tryd.f4.params.toList args.toList ds p := hA0
  rw [Tryd.params4] at hA hval
  obtain ⟨v0, vs0, d0, ds0, p0, q0, hargs, rfl, rfl, h0, r0x⟩ := trodAll_cons hA
  obtain ⟨v1, vs1, d1, ds1, p1, q1, rfl, rfl, rfl, h1, r1x⟩ := trodAll_cons r0x
  obtain ⟨rfl, rfl, rfl⟩ := trodAll_nil r1x
  obtain rfl : args = #[v0, v1] := by cases args; simp_all
  have hV : DataW.TrodVars enc Tryd.prog W (fun _ => true) [tabName] gs q := hV0
  obtain ⟨g, t, cs, fuel, dv, pv, rfl, hg, ht, hvar, hd, rfl⟩ := trodVars_one hV
  obtain rfl := Option.some.inj (gTab.symm.trans hg)
  obtain rfl := Option.some.inj (tTab.symm.trans ht)
  have hT := of_laid hL
  have hlt0 : 0 < W.heap.size := World.block_lt_of_cell? W _ (hT 0 (by omega)).1
  have hltv : ∀ x ∈ pv, x.block < W.heap.size := fun x hx => hW'.lt x (List.mem_append_right _ (List.mem_append_right _ hx))
  have k0 := h0
  have lt0 : ∀ x ∈ p0, x.block < W.heap.size := by obtain ⟨m, hm⟩ := k0; exact DataW.trod_lt m _ _ _ hm
  have k1 := h1
  have lt1 : ∀ x ∈ p1, x.block < W.heap.size := by obtain ⟨m, hm⟩ := k1; exact DataW.trod_lt m _ _ _ hm
  obtain ⟨a0p, a0q, a0r, a0s, a0t, rfl, wf0⟩ := openStepR (hval 0 29 v0 rfl rfl) h0
  obtain ⟨a1, rfl, _, _, wf1⟩ := open_int Tryd.underlying3 (hval 1 3 v1 rfl rfl) h1
  clear hA0 hV0 hval0
  refine (walk W a0p a0q a0r a0s a0t wf0 a1 wf1 hT).mono fun e W' ⟨he, bel⟩ => ?_
  subst he
  exact ⟨_, rfl, _, _, _, [], _, (MemPlace.row ⟨0, 0, none⟩ cs.size ++ pv), hW', trodAll_mk1 (shut_bool Tryd.underlying4 _), (trodAll_cons_mk (Below.trod laidOut (by kernel_rfl) (of_decide_eq_true (by kernel_rfl)) k0 bel lt0) (trodAll_cons_mk (Below.trod laidOut (by kernel_rfl) (of_decide_eq_true (by kernel_rfl)) k1 bel lt1) trodAll_mk0)), vars_again hvar hd hltv hlt0 bel, bel.frame _, fun h => by cases h⟩

theorem over : Rows.fnExactStepOkRow.holds Tryd.pinned (OpenSpec.ofChange Rows.fnExactStepOkSpec) :=
  OpenClaim.holds_of_wide 4 Tryd.f4 rfl rfl rfl rfl rfl rfl rfl ⟨rfl, rfl, rfl, rfl, rfl⟩ rfl rfl rfl rfl rfl (by kernel_rfl) Tryd.func4 (by kernel_rfl)
    (of_decide_eq_true (by kernel_rfl)) (by unfold Func.isWrapper; first | (rw [if_pos (by decide +kernel)]; kernel_rfl) | (rw [if_neg (by decide +kernel)]; exact ⟨rfl, rfl⟩))
    (fun os started H enc _ => lifted os started H enc)

/-- The card: the row, its listed variable tied to the program's text. -/
theorem proved : Rows.FnExactStepOkCardSaid :=
  Claim7.holds_tied_plain_at .later [] [.data] true Rows.fnExactStepOkCard.stood.harness Rows.fnExactStepOkCard.stood.looks
    over (fun _ h => by cases h) (by kernel_rfl) (fun _ h => by cases h) fnExactStepOk_row_tie rfl ⟨rfl, rfl⟩ (by kernel_rfl) rfl
    (fun f fn hf hfn => by
      obtain rfl : f = 4 := Option.some.inj ((show Tryd.prog.funcNamed Rows.fnExactStepOkRow.func = some 4 by kernel_rfl).symm.trans hf) |>.symm
      obtain rfl : fn = Tryd.f4 := (Option.some.inj (Tryd.func4.symm.trans hfn)).symm
      exact ⟨by kernel_rfl, fun j t ht => by
        rw [Tryd.params4] at ht
        have hm : t ∈ [29, 3] := by simpa using Array.mem_of_getElem? ht
        have hall : ([29, 3].all fun u => !Tryd.prog.wantsStandIn u) = true := by kernel_rfl
        exact (show Tryd.prog.wantsStandIn t = false by simpa using List.all_eq_true.1 hall t hm)⟩)
    (by kernel_rfl)
#print axioms proved
end Go.Proofs.YtebcocehdjoafaaDoor.fnExactStepOk
