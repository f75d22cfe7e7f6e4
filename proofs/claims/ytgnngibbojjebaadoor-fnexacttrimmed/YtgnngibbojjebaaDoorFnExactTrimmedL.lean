/- Proved: at every list of steps Trimmed answers as the model, and writes into no argument. -/
import Derived.Test.YtgnngibbojjebaaDoorRows
import Derived.Test.YtgnngibbojjebaaDoorMaLaid
import Derived.Test.YtgnngibbojjebaaDoorTie
import Derived.Test.YtgnngibbojjebaaDoorCards
import Derived.SevenTiedAt
import Derived.Test.YtgnngibbojjebaaDoorTrL
import Derived.WalkKit
import Derived.ProofKit
import Derived.OpenShut
import Derived.ShutString
import Derived.ChangeOld
import Derived.Below
namespace Go.Proofs.YtgnngibbojjebaaDoor.fnExactTrimmed
open Go.ChangeShapes Go.WideShapes Go.ChangeAt Go.RowKit
open Go.ChangeMaps (open_string shut_string)
set_option linter.unusedVariables false

theorem laidOut : laidOutB Tryd.prog = true := by kernel_rfl

set_option maxHeartbeats 4000000 in
theorem walk (w : World) (a0 : Option Addr) (len0 cap0 : Nat) (l0 : List InsD) (r0 : StepsAt w (.slice a0 len0 cap0) l0) (o0 : OpsIn l0) (hT : FTab w) :
    Calls Tryd.prog 6 #[.slice a0 len0 cap0] w fun e w' => e = .returned (.bool true) ∧ Below w.heap.size w w' := by
  have HL : Hid (StepsAt w (.slice a0 len0 cap0) l0) := r0
  have HO : Hid (OpsIn l0) := o0
  have HT : Hid (FTab w) := hT
  clear r0 o0 hT
  obtain ⟨R, HR⟩ : ∃ R, Hid (trimmedOf l0 = R) := ⟨_, rfl⟩
  have hRR : (R != R) = false := by simp
  obtain ⟨n0, HN⟩ : ∃ n, Hid (l0.length = n) := ⟨_, rfl⟩
  go_enter Tryd.func6, Tryd.ntmps6
  go_wp2_with fail
  refine (szStepS_any _ l0 1048576 _ HL.out (by omega) (by omega)).mono ?_
  rintro e w0 ⟨sz, rfl, hs1, hs2, hs3, b0⟩
  have B0 : Hid (Below w.heap.size w w0) := b0
  have HS : Hid (0 ≤ sz → l0.length ≤ 1048576) := hs3
  clear b0 hs3
  by_cases hsz : sz < 0
  · go_wp2
    go_ret
    exact ⟨rfl, B0.out⟩
  have HLS : Hid (l0.length ≤ 1048576) := HS.out (by omega)
  go_wp2_with fail
  refine (toStepS_any _ l0 _ (places_keep HL.out (Keeps.of_below B0.out 0)) HLS.out).mono ?_
  rintro e w1 ⟨v1, rfl, s1, b1, _⟩
  have S1 : Hid (StepsAt w1 v1 l0) := s1.low (Nat.zero_le _) (fun _ _ _ h => h)
  have B1 : Hid (Below w.heap.size w w1) := Bel.after B0.out b1
  clear s1 b1
  obtain ⟨p1, c1, hv1, _⟩ := id S1.out
  rw [HN.out] at hv1
  subst hv1
  go_wp2_with fail
  refine (spec_trimmed _ l0 _ S1.out HO.out HLS.out).mono ?_
  rw [HR.out]
  rintro e w2 ⟨rfl, b2⟩
  have B2 : Hid (Below w.heap.size w w2) := Bel.after B1.out b2
  clear b2
  go_wp2_with fail
  refine (toStepS_any _ l0 _ (places_keep HL.out (Keeps.of_below B2.out 0)) HLS.out).mono ?_
  rintro e w3 ⟨v3, rfl, s3, b3, z3⟩
  have S3 : Hid (StepsAt w3 v3 l0) := s3.low (Nat.zero_le _) (fun _ _ _ h => h)
  have B3 : Hid (Below w.heap.size w w3) := Bel.after B2.out b3
  clear s3 b3 z3
  obtain ⟨p3, c3, hv3, _⟩ := id S3.out
  rw [HN.out] at hv3
  subst hv3
  go_wp2_with fail
  refine (impl_trimmed _ l0 _ S3.out HO.out (HT.out.keep B3.out) HLS.out).mono ?_
  rw [HR.out]
  rintro e w4 ⟨rfl, b4⟩
  have B4 : Hid (Below w.heap.size w w4) := Bel.after B3.out b4
  have S34 : Hid (StepsAt w4 (.slice p3 n0 c3) l0) := places_keep S3.out (Keeps.of_below b4 0)
  clear b4
  go_wp2_with fail
  refine (toStepS_any _ l0 _ (places_keep HL.out (Keeps.of_below B4.out 0)) HLS.out).mono ?_
  rintro e w6 ⟨v6, rfl, s6, b6, _⟩
  have S6 : Hid (StepsAt w6 v6 l0) := s6.low (Nat.zero_le _) (fun _ _ _ h => h)
  have S36 : Hid (StepsAt w6 (.slice p3 n0 c3) l0) := places_keep S34.out (Keeps.of_below b6 0)
  have B6 : Hid (Below w.heap.size w w6) := Bel.after B4.out b6
  clear s6 b6
  obtain ⟨p6, c6, hv6, _⟩ := id S6.out
  rw [HN.out] at hv6
  subst hv6
  go_wp2_with fail
  refine (eqStepS_same _ _ l0 _ S36.out S6.out).mono ?_
  rintro e w7 ⟨rfl, b7⟩
  have B7 : Hid (Below w.heap.size w w7) := Bel.after B6.out b7
  clear b7
  go_wp2_with fail
  go_ret
  exact ⟨rfl, B7.out⟩

set_option maxRecDepth 100000 in
theorem lifted (os : Os) (started : os.Started) (H : Type) (enc : TypeId × Value → H) :
    ReturnsInHanded {} Tryd.checked os 6 .any (fun w args => (Rows.fnExactTrimmedSpec.pre enc Tryd.prog Tryd.f6 [] false w args ∧ laidMetH Tryd.prog Rows.fnExactTrimmedRow.laid w) ∧ sizedMet enc Tryd.prog Tryd.f6 (OpenSpec.ofChange Rows.fnExactTrimmedSpec) false w args)
      (Rows.fnExactTrimmedSpec.post enc Tryd.prog Tryd.f6 false true false false) := by
  refine returnsInHanded_of_change_and (C := Tryd.checked) (X := fun w _ => laidMetH Tryd.prog Rows.fnExactTrimmedRow.laid w) (fun _ _ _ hh h => h.of_heap hh) own started (by kernel_rfl) Tryd.func6
    (ChangeSpec.witness_shaped (enc := enc) (C := Tryd.checked) (os := os) (X := fun w _ => laidMetH Tryd.prog Rows.fnExactTrimmedRow.laid w) false (World.doorLaid Tryd.prog 400 os) #[.slice none 0 0] 8 rfl (World.shaped_of_RefB (by kernel_rfl) (by kernel_rfl)) (by kernel_rfl) (by kernel_rfl) (by kernel_rfl) (door_met os _)) ?_
  intro W base args ds gs before hval0 hW _ _ hL _
  have hval : ∀ (j : Nat) t v, Tryd.f6.params[j]? = some t → args[j]? = some v → Value.okWide Tryd.prog W .any base t v := hval0
  have hW' := hW
  obtain ⟨p, q, hA0, hV0, rfl, hfz, hnd⟩ := hW
  have hA : DataW.TrodAll enc Tryd.prog W 0 (fun _ => true) true Tryd.f6.params.toList args.toList ds p := hA0
  rw [Tryd.params6] at hA hval
  obtain ⟨v0, vs0, d0, ds0, p0, q0, hargs, rfl, rfl, h0, r0x⟩ := trodAll_cons hA
  obtain ⟨rfl, rfl, rfl⟩ := trodAll_nil r0x
  obtain rfl : args = #[v0] := by cases args; simp_all
  have hV : DataW.TrodVars enc Tryd.prog W (fun _ => true) [tabName] gs q := hV0
  obtain ⟨g, t, cs, fuel, dv, pv, rfl, hg, ht, hvar, hd, rfl⟩ := trodVars_one hV
  obtain rfl := Option.some.inj (gTab.symm.trans hg)
  obtain rfl := Option.some.inj (tTab.symm.trans ht)
  have hT := of_laid hL
  have hlt0 : 0 < W.heap.size := World.block_lt_of_cell? W _ (hT 0 (by omega)).1
  have hltv : ∀ x ∈ pv, x.block < W.heap.size := fun x hx => hW'.lt x (List.mem_append_right _ (List.mem_append_right _ hx))
  have k0 := h0
  have lt0 : ∀ x ∈ p0, x.block < W.heap.size := by obtain ⟨m, hm⟩ := k0; exact DataW.trod_lt m _ _ _ hm
  obtain ⟨a0, len0, cap0, rfl⟩ := okWide_slice Tryd.underlying38 (hval 0 38 v0 rfl rfl)
  obtain ⟨l0, r0, o0⟩ := openStepsR h0
  clear hA0 hV0 hval0
  refine (walk W a0 len0 cap0 l0 r0 o0 hT).mono fun e W' ⟨he, bel⟩ => ?_
  subst he
  exact ⟨_, rfl, _, _, _, [], _, (MemPlace.row ⟨0, 0, none⟩ cs.size ++ pv), hW', trodAll_mk1 (shut_bool Tryd.underlying4 _), (trodAll_cons_mk (Below.trod laidOut (by kernel_rfl) (of_decide_eq_true (by kernel_rfl)) k0 bel lt0) trodAll_mk0), vars_again hvar hd hltv hlt0 bel, bel.frame _, fun h => by cases h⟩

theorem over : Rows.fnExactTrimmedRow.holds Tryd.pinned (OpenSpec.ofChange Rows.fnExactTrimmedSpec) :=
  OpenClaim.holds_of_wide 6 Tryd.f6 rfl rfl rfl rfl rfl rfl rfl ⟨rfl, rfl, rfl, rfl, rfl⟩ rfl rfl rfl rfl rfl (by kernel_rfl) Tryd.func6 (by kernel_rfl)
    (of_decide_eq_true (by kernel_rfl)) (by unfold Func.isWrapper; first | (rw [if_pos (by decide +kernel)]; kernel_rfl) | (rw [if_neg (by decide +kernel)]; exact ⟨rfl, rfl⟩))
    (fun os started H enc _ => lifted os started H enc)

/-- The card: the row, its listed variable tied to the program's text. -/
theorem proved : Rows.FnExactTrimmedCardSaid :=
  Claim7.holds_tied_plain_at .later [] [.data] true Rows.fnExactTrimmedCard.stood.harness Rows.fnExactTrimmedCard.stood.looks
    over (fun _ h => by cases h) (by kernel_rfl) (fun _ h => by cases h) fnExactTrimmed_row_tie rfl ⟨rfl, rfl⟩ (by kernel_rfl) rfl
    (fun f fn hf hfn => by
      obtain rfl : f = 6 := Option.some.inj ((show Tryd.prog.funcNamed Rows.fnExactTrimmedRow.func = some 6 by kernel_rfl).symm.trans hf) |>.symm
      obtain rfl : fn = Tryd.f6 := (Option.some.inj (Tryd.func6.symm.trans hfn)).symm
      exact ⟨by kernel_rfl, fun j t ht => by
        rw [Tryd.params6] at ht
        have hm : t ∈ [38] := by simpa using Array.mem_of_getElem? ht
        have hall : ([38].all fun u => !Tryd.prog.wantsStandIn u) = true := by kernel_rfl
        exact (show Tryd.prog.wantsStandIn t = false by simpa using List.all_eq_true.1 hall t hm)⟩)
    (by kernel_rfl)
#print axioms proved
end Go.Proofs.YtgnngibbojjebaaDoor.fnExactTrimmed
