/- Proved: for every list of numbers the program's SlotsOf answers as the model's, and writes into no argument; no condition. -/
import Derived.Test.YtnkiljhdkpgamaaRows
import Derived.Test.YtnkiljhdkpgamaaOpen
import Derived.Test.YtnkiljhdkpgamaaToIS
import Derived.Test.YtnkiljhdkpgamaaHmSlS
import Derived.WalkKit
import Derived.ProofKit
import Derived.OpenShut
import Derived.ShutString
import Derived.ChangeOld
import Derived.Below
namespace Go.Proofs.Ytnkiljhdkpgamaa.fnExactSlotsOf
open Go.ChangeShapes Go.WideShapes Go.ChangeAt Go.RowKit
open Go.ChangeMaps (open_string shut_string)
set_option linter.unusedVariables false

theorem own : ownKnob Try.prog.godebug = none := by kernel_rfl
theorem laidOut : laidOutB Try.prog = true := by kernel_rfl

set_option maxHeartbeats 4000000 in
theorem walk (w : World) (a0 : Option Addr) (len0 cap0 : Nat) (z0 : List Int) (r0 : IsRow .i64 w a0 len0 cap0 z0) :
    Calls Try.prog 3 #[.slice a0 len0 cap0] w fun e w' => e = .returned (.bool true) ∧ Below w.heap.size w w' := by
  have HRW : Hid (IsRow .i64 w a0 len0 cap0 z0) := r0
  clear r0
  obtain ⟨RD, HRD⟩ : ∃ L, Hid (z0.take len0 = L) := ⟨_, rfl⟩
  by_cases hbig : (1048576 : Int) < (len0 : Int)
  · go_enter Try.func3, Try.ntmps3
    go_wp2_with fail
    go_ret
    exact ⟨rfl, Below.refl _ _⟩
  have hlr : len0 ≤ 1048576 := by omega
  obtain ⟨r, HR⟩ : ∃ r, Hid (slotsOf RD = r) := ⟨_, rfl⟩
  have hd : (r != r) = false := by simp
  have hdr : decide (RD = RD) = true := by simp
  go_enter Try.func3, Try.ntmps3
  go_wp2_with fail
  refine (toIntS_any a0 len0 cap0 z0 _ HRW.out hlr).mono ?_
  rw [HRD.out]
  rintro e w1 ⟨v1, rfl, o1, b1⟩
  have I1 : Hid (IntsAt w1 v1 RD) := o1.at
  have B1 : Hid (Below w.heap.size w w1) := b1
  clear o1 b1
  obtain ⟨p1, c1, rfl⟩ := intsAt_form I1.out
  obtain ⟨n1, HN1⟩ : ∃ n, Hid (RD.length = n) := ⟨_, rfl⟩
  rw [HN1.out] at I1 ⊢
  go_wp2_with fail
  refine (spec_slotsOf p1 n1 c1 RD _ I1.out).mono ?_
  rw [HR.out]
  rintro e w1' ⟨rfl, hw1⟩
  subst hw1
  go_wp2_with fail
  refine (toIntS_any a0 len0 cap0 z0 _ (HRW.out.after B1.out) hlr).mono ?_
  rw [HRD.out]
  rintro e w2 ⟨v2, rfl, o2, b2⟩
  have I2 : Hid (IntsAt w2 v2 RD) := o2.at
  have B2 : Hid (Below w.heap.size w w2) := Bel.after B1.out b2
  clear o2 b2
  obtain ⟨p2, c2, rfl⟩ := intsAt_form I2.out
  rw [HN1.out] at I2 ⊢
  go_wp2_with fail
  refine (impl_slotsOf p2 n1 c2 RD _ I2.out).mono ?_
  rw [HR.out]
  rintro e w2' ⟨rfl, hw2⟩
  subst hw2
  go_wp2_with fail
  refine (toIntS_any a0 len0 cap0 z0 _ (HRW.out.after B2.out) hlr).mono ?_
  rw [HRD.out]
  rintro e w3 ⟨v3, rfl, o3, b3⟩
  have I3 : Hid (IntsAt w3 v3 RD) := o3.at
  have I23 : Hid (IntsAt w3 (.slice p2 n1 c2) RD) := I2.out.keep b3
  have B3 : Hid (Below w.heap.size w w3) := Bel.after B2.out b3
  clear o3 b3
  go_wp2_with fail
  refine (eqIntS_any _ v3 _ _ _ I23.out I3.out).mono ?_
  rintro e w4 ⟨rfl, b4⟩
  have B4 : Hid (Below w.heap.size w w4) := Bel.after B3.out b4
  clear b4
  go_wp2_with fail
  go_ret
  exact ⟨rfl, B4.out⟩

set_option maxRecDepth 100000 in
theorem lifted (os : Os) (started : os.Started) (H : Type) (enc : TypeId × Value → H) :
    ReturnsInHanded {} Try.checked os 3 .any (Rows.fnExactSlotsOfSpec.pre6 enc Try.prog Try.f3 Rows.fnExactSlotsOfRow.domain false) (Rows.fnExactSlotsOfSpec.post enc Try.prog Try.f3 false true false false) := by
  refine returnsInHanded_of_change (C := Try.checked) own started (by kernel_rfl) Try.func3
    (ChangeSpec.witness6 (enc := enc) (C := Try.checked) false ⟨#[], #[.slice none 0 0], []⟩ 8 (by kernel_rfl) (by kernel_rfl) (by kernel_rfl) (by kernel_rfl)) ?_
  intro W base args ds gs before hval0 hW hcnd _
  have hval : ∀ (j : Nat) t v, Try.f3.params[j]? = some t → args[j]? = some v → Value.okWide Try.prog W .any base t v := hval0
  have hW' := hW
  obtain ⟨p, q, hA0, hV, rfl, hfz, hnd⟩ := hW
  have hA : DataW.TrodAll enc Try.prog W 0 (fun _ => true) true Try.f3.params.toList args.toList ds p := hA0
  rw [Try.params3] at hA hval
  obtain ⟨v0, vs0, d0, ds0, p0, q0, hargs, rfl, rfl, h0, r0x⟩ := trodAll_cons hA
  obtain ⟨rfl, rfl, rfl⟩ := trodAll_nil r0x
  obtain rfl : args = #[v0] := by cases args; simp_all
  obtain ⟨rfl, rfl⟩ := trodVars_none hV
  have k0 := h0
  have lt0 : ∀ x ∈ p0, x.block < W.heap.size := by obtain ⟨m, hm⟩ := k0; exact DataW.trod_lt m _ _ _ hm
  obtain ⟨a0, len0, cap0, rfl⟩ := okWide_slice Try.underlying22 (hval 0 22 v0 rfl rfl)
  obtain ⟨z0, r0⟩ : ∃ zs, IsRow .i64 W a0 len0 cap0 zs := by
    obtain ⟨fuel, hf⟩ := h0
    rcases open_ints Try.underlying22 Try.underlying3 (by kernel_rfl) hf with ⟨hcs, _⟩ | ⟨x, l, c, zs, hcs, _, hl, hm, hz, _, hcell, hwz⟩
    · simp [Value.cells] at hcs
      obtain ⟨rfl, rfl, rfl⟩ := hcs
      exact ⟨[], .inl ⟨rfl, rfl, rfl, rfl⟩⟩
    · simp [Value.cells] at hcs
      obtain ⟨rfl, rfl, rfl⟩ := hcs
      exact ⟨zs, .inr ⟨_, rfl, hl, hm, by simpa using hz, hcell, hwz⟩⟩
  clear hA0 hval0
  refine (walk W a0 len0 cap0 z0 r0).mono fun e W' ⟨he, bel⟩ => ?_
  subst he
  exact ⟨_, rfl, _, _, _, [], _, [], hW', trodAll_mk1 (shut_bool Try.underlying4 _), (trodAll_cons_mk (Below.trod laidOut (by kernel_rfl) (of_decide_eq_true (by kernel_rfl)) k0 bel lt0) trodAll_mk0), rfl, bel.frame _, fun h => by cases h⟩

theorem over : Rows.fnExactSlotsOfRow.holds Try.pinned (OpenSpec.ofChange Rows.fnExactSlotsOfSpec) :=
  OpenClaim.holds_of_wide 3 Try.f3 rfl rfl rfl rfl rfl rfl rfl ⟨rfl, rfl, rfl, rfl, rfl⟩ rfl rfl rfl rfl rfl (by kernel_rfl) Try.func3 (by kernel_rfl)
    (of_decide_eq_true (by kernel_rfl)) (by unfold Func.isWrapper; first | (rw [if_pos (by decide +kernel)]; kernel_rfl) | (rw [if_neg (by decide +kernel)]; exact ⟨rfl, rfl⟩))
    (fun os started H enc _ => lifted os started H enc)

/-- The statement. -/
theorem proved : Rows.FnExactSlotsOfSaid := over
#print axioms proved
end Go.Proofs.Ytnkiljhdkpgamaa.fnExactSlotsOf
