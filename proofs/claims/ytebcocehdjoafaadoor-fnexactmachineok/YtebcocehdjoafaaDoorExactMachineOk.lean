/- Proved: for every list of steps the law FnExactMachineOk returns true (the program's MachineOk answers as the model's and writes into no argument) and its argument and the program's table of forms read afterwards as before; the card ties the table to the program's text. -/
import Derived.Test.YtebcocehdjoafaaDoorRows
import Derived.Test.YtebcocehdjoafaaDoorMaLaid
import Derived.Test.YtebcocehdjoafaaDoorTie
import Derived.Test.YtebcocehdjoafaaDoorCards
import Derived.SevenTiedAt
import Derived.Test.YtebcocehdjoafaaDoorMaOpen
import Derived.WalkKit
import Derived.ProofKit
import Derived.OpenShut
import Derived.ShutString
import Derived.ChangeOld
import Derived.Below
namespace Go.Proofs.YtebcocehdjoafaaDoor.fnExactMachineOk
open Go.ChangeShapes Go.WideShapes Go.ChangeAt Go.RowKit
open Go.ChangeMaps (open_string shut_string)
set_option linter.unusedVariables false

theorem laidOut : laidOutB Tryd.prog = true := by kernel_rfl

set_option maxHeartbeats 4000000 in
theorem walk (w : World) (a0 : Option Addr) (len0 cap0 : Nat) (l0 : List InsD) (r0 : StepsAt w (.slice a0 len0 cap0) l0) (o0 : OpsIn l0) (hT : FTab w) :
    Calls Tryd.prog 5 #[.slice a0 len0 cap0] w fun e w' => e = .returned (.bool true) ∧ Below w.heap.size w w' := by
  have HL : Hid (StepsAt w (.slice a0 len0 cap0) l0) := r0
  have HO : Hid (OpsIn l0) := o0
  have HT : Hid (FTab w) := hT
  clear r0 o0 hT
  obtain ⟨r, HR⟩ : ∃ r, Hid (machineOkB l0 = r) := ⟨_, rfl⟩
  have hne : (r != r) = false := by simp
  go_enter Tryd.func5, Tryd.ntmps5
  go_wp2_with fail
  refine (szStepS_any _ l0 1048576 _ HL.out (by omega) (by omega)).mono ?_
  rintro e w0 ⟨sz, rfl, hs1, hs2, hs3, b0⟩
  have B0 : Hid (Below w.heap.size w w0) := b0
  have HS : Hid (0 ≤ sz → l0.length ≤ 1048576) := hs3
  clear b0 hs3
  by_cases hsz : sz < 0
  · go_wp2
    go_ret
    exact ⟨rfl, B0.out⟩
  have HLS : Hid (l0.length ≤ 1048576) := HS.out (by omega)
  have L0 : Hid (StepsAt w0 (.slice a0 len0 cap0) l0) := places_keep HL.out (Keeps.of_below B0.out 0)
  go_wp2_with fail
  refine (toStepS_any _ l0 _ L0.out HLS.out).mono ?_
  rintro e w1 ⟨v1, rfl, s1, b1, _⟩
  have S1 : Hid (StepsAt w1 v1 l0) := s1.low (Nat.zero_le _) (fun _ _ _ h => h)
  have B1 : Hid (Below w.heap.size w w1) := Bel.after B0.out b1
  clear s1 b1
  obtain ⟨n0, HN⟩ : ∃ n, Hid (l0.length = n) := ⟨_, rfl⟩
  obtain ⟨p1, c1, hv1, _⟩ := id S1.out
  rw [HN.out] at hv1
  subst hv1
  go_wp2_with fail
  refine (spec_machineOk _ l0 _ S1.out HO.out).mono ?_
  rintro e w2 ⟨rfl, b2⟩
  rw [HR.out]
  have B2 : Hid (Below w.heap.size w w2) := Bel.after B1.out b2
  clear b2
  go_wp2_with fail
  refine (toStepS_any _ l0 _ (places_keep HL.out (Keeps.of_below B2.out 0)) HLS.out).mono ?_
  rintro e w3 ⟨v3, rfl, s3, b3, _⟩
  have S3 : Hid (StepsAt w3 v3 l0) := s3.low (Nat.zero_le _) (fun _ _ _ h => h)
  have B3 : Hid (Below w.heap.size w w3) := Bel.after B2.out b3
  clear s3 b3
  obtain ⟨p3, c3, hv3, _⟩ := id S3.out
  rw [HN.out] at hv3
  subst hv3
  go_wp2_with fail
  refine (impl_machineOk _ l0 _ S3.out HO.out (HT.out.keep B3.out)).mono ?_
  rintro e w4 ⟨rfl, b4⟩
  rw [HR.out]
  have B4 : Hid (Below w.heap.size w w4) := Bel.after B3.out b4
  have S4 : Hid (StepsAt w4 (.slice p3 n0 c3) l0) := places_keep S3.out (Keeps.of_below b4 0)
  clear b4
  go_wp2_with fail
  refine (toStepS_any _ l0 _ (places_keep HL.out (Keeps.of_below B4.out 0)) HLS.out).mono ?_
  rintro e w5 ⟨v5, rfl, s5, b5, _⟩
  have S5 : Hid (StepsAt w5 v5 l0) := s5.low (Nat.zero_le _) (fun _ _ _ h => h)
  have S45 : Hid (StepsAt w5 (.slice p3 n0 c3) l0) := places_keep S4.out (Keeps.of_below b5 0)
  have B5 : Hid (Below w.heap.size w w5) := Bel.after B4.out b5
  clear s5 b5
  obtain ⟨p5, c5, hv5, _⟩ := id S5.out
  rw [HN.out] at hv5
  subst hv5
  go_wp2_with fail
  refine (eqStepS_same _ _ l0 _ S45.out S5.out).mono ?_
  rintro e w6 ⟨rfl, b6⟩
  have B6 : Hid (Below w.heap.size w w6) := Bel.after B5.out b6
  clear b6
  go_wp2_with fail
  go_ret
  exact ⟨rfl, B6.out⟩

set_option maxRecDepth 100000 in
theorem lifted (os : Os) (started : os.Started) (H : Type) (enc : TypeId × Value → H) :
    ReturnsInHanded {} Tryd.checked os 5 .any (fun w args => (Rows.fnExactMachineOkSpec.pre enc Tryd.prog Tryd.f5 [] false w args ∧ laidMetH Tryd.prog Rows.fnExactMachineOkRow.laid w) ∧ sizedMet enc Tryd.prog Tryd.f5 (OpenSpec.ofChange Rows.fnExactMachineOkSpec) false w args)
      (Rows.fnExactMachineOkSpec.post enc Tryd.prog Tryd.f5 false true false false) := by
  refine returnsInHanded_of_change_and (C := Tryd.checked) (X := fun w _ => laidMetH Tryd.prog Rows.fnExactMachineOkRow.laid w) (fun _ _ _ hh h => h.of_heap hh) own started (by kernel_rfl) Tryd.func5
    (ChangeSpec.witness_shaped (enc := enc) (C := Tryd.checked) (os := os) (X := fun w _ => laidMetH Tryd.prog Rows.fnExactMachineOkRow.laid w) false (World.doorLaid Tryd.prog 400 os) #[.slice none 0 0] 8 rfl (World.shaped_of_RefB (by kernel_rfl) (by kernel_rfl)) (by kernel_rfl) (by kernel_rfl) (by kernel_rfl) (door_met os _)) ?_
  intro W base args ds gs before hval0 hW _ _ hL _
  have hval : ∀ (j : Nat) t v, Tryd.f5.params[j]? = some t → args[j]? = some v → Value.okWide Tryd.prog W .any base t v := hval0
  have hW' := hW
  obtain ⟨p, q, hA0, hV0, rfl, hfz, hnd⟩ := hW
  have hA : DataW.TrodAll enc Tryd.prog W 0 (fun _ => true) true Tryd.f5.params.toList args.toList ds p := hA0
  rw [Tryd.params5] at hA hval
  obtain ⟨v0, vs0, d0, ds0, p0, q0, hargs, rfl, rfl, h0, r0x⟩ := trodAll_cons hA
  obtain ⟨rfl, rfl, rfl⟩ := trodAll_nil r0x
  obtain rfl : args = #[v0] := by cases args; simp_all
  have hV : DataW.TrodVars enc Tryd.prog W (fun _ => true) [tabName] gs q := hV0
  obtain ⟨g, t, cs, fuel, dv, pv, rfl, hg, ht, hvar, hd, rfl⟩ := trodVars_one hV
  obtain rfl := Option.some.inj (gTab.symm.trans hg)
  obtain rfl := Option.some.inj (tTab.symm.trans ht)
  have hT := of_laid hL
  have hlt0 : 0 < W.heap.size := World.block_lt_of_cell? W _ (hT 0 (by omega)).1
  have hltv : ∀ x ∈ pv, x.block < W.heap.size := fun x hx => hW'.lt x (List.mem_append_right _ (List.mem_append_right _ hx))
  have k0 := h0
  have lt0 : ∀ x ∈ p0, x.block < W.heap.size := by obtain ⟨m, hm⟩ := k0; exact DataW.trod_lt m _ _ _ hm
  obtain ⟨a0, len0, cap0, rfl⟩ := okWide_slice Tryd.underlying32 (hval 0 32 v0 rfl rfl)
  obtain ⟨l0, r0, o0⟩ := openStepsR h0
  clear hA0 hV0 hval0
  refine (walk W a0 len0 cap0 l0 r0 o0 hT).mono fun e W' ⟨he, bel⟩ => ?_
  subst he
  exact ⟨_, rfl, _, _, _, [], _, (MemPlace.row ⟨0, 0, none⟩ cs.size ++ pv), hW', trodAll_mk1 (shut_bool Tryd.underlying4 _), (trodAll_cons_mk (Below.trod laidOut (by kernel_rfl) (of_decide_eq_true (by kernel_rfl)) k0 bel lt0) trodAll_mk0), vars_again hvar hd hltv hlt0 bel, bel.frame _, fun h => by cases h⟩

theorem over : Rows.fnExactMachineOkRow.holds Tryd.pinned (OpenSpec.ofChange Rows.fnExactMachineOkSpec) :=
  OpenClaim.holds_of_wide 5 Tryd.f5 rfl rfl rfl rfl rfl rfl rfl ⟨rfl, rfl, rfl, rfl, rfl⟩ rfl rfl rfl rfl rfl (by kernel_rfl) Tryd.func5 (by kernel_rfl)
    (of_decide_eq_true (by kernel_rfl)) (by unfold Func.isWrapper; first | (rw [if_pos (by decide +kernel)]; kernel_rfl) | (rw [if_neg (by decide +kernel)]; exact ⟨rfl, rfl⟩))
    (fun os started H enc _ => lifted os started H enc)

/-- The card: the row, its listed variable tied to the program's text. -/
theorem proved : Rows.FnExactMachineOkCardSaid :=
  Claim7.holds_tied_plain_at .later [] [.data] true Rows.fnExactMachineOkCard.stood.harness Rows.fnExactMachineOkCard.stood.looks
    over (fun _ h => by cases h) (by kernel_rfl) (fun _ h => by cases h) fnExactMachineOk_row_tie rfl ⟨rfl, rfl⟩ (by kernel_rfl) rfl
    (fun f fn hf hfn => by
      obtain rfl : f = 5 := Option.some.inj ((show Tryd.prog.funcNamed Rows.fnExactMachineOkRow.func = some 5 by kernel_rfl).symm.trans hf) |>.symm
      obtain rfl : fn = Tryd.f5 := (Option.some.inj (Tryd.func5.symm.trans hfn)).symm
      exact ⟨by kernel_rfl, fun j t ht => by
        rw [Tryd.params5] at ht
        have hm : t ∈ [32] := by simpa using Array.mem_of_getElem? ht
        have hall : ([32].all fun u => !Tryd.prog.wantsStandIn u) = true := by kernel_rfl
        exact (show Tryd.prog.wantsStandIn t = false by simpa using List.all_eq_true.1 hall t hm)⟩)
    (by kernel_rfl)
#print axioms proved
end Go.Proofs.YtebcocehdjoafaaDoor.fnExactMachineOk
