/- Proved: for every place the law FnExactInsDef returns true (the program's InsDef answers as the model's) and its argument reads afterwards as before. No condition. -/
import Derived.Test.YthkcflicgkppkaaRows
import Derived.Test.YthkcflicgkppkaaIns
import Derived.Test.YthkcflicgkppkaaOpen
import Derived.WalkKit
import Derived.ProofKit
import Derived.OpenShut
import Derived.ShutString
import Derived.ChangeOld
import Derived.Below
namespace Go.Proofs.Ythkcflicgkppkaa.fnExactInsDef
open Go.ChangeShapes Go.WideShapes Go.ChangeAt Go.RowKit
open Go.ChangeMaps (open_string shut_string)
set_option linter.unusedVariables false

theorem own : ownKnob Try.prog.godebug = none := by kernel_rfl
theorem laidOut : laidOutB Try.prog = true := by kernel_rfl

theorem walk (w : World) (a0p a0q a0r a0s a0t : Int) :
    Calls Try.prog 4 #[.agg #[.int .i64 a0p, .int .i64 a0q, .int .i64 a0r, .int .i64 a0s, .int .i64 a0t]] w fun e w' => e = .returned (.bool true) ∧ Below w.heap.size w w' := by
  go_enter Try.func4, Try.ntmps4
  go_wp2_with fail
  refine (toIns_any a0p a0q a0r a0s a0t _).mono ?_
  rintro e w1 ⟨rfl, b1⟩
  go_wp2_with fail
  refine (spec_insDef a0p a0q a0r a0s a0t _).mono ?_
  rintro e w2 ⟨rfl, b2⟩
  have b3 := Bel.after b1 b2
  have b4 := Bel.after (Bel.alloc _ _) b3
  have c0 := box_cell b3 0
  have c1 := box_cell b3 1
  have c2 := box_cell b3 2
  have c3 := box_cell b3 3
  have c4 := box_cell b3 4
  simp at c0 c1 c2 c3 c4
  clear b1 b2 b3
  have B4 : Hid (Below w.heap.size w w2) := b4
  clear b4
  go_wp2_with fail
  refine (toIns_any a0p a0q a0r a0s a0t _).mono ?_
  rintro e w3 ⟨rfl, b5⟩
  go_wp2_with fail
  refine (impl_insDef a0p a0q a0r a0s a0t _).mono ?_
  rintro e w4 ⟨rfl, b6⟩
  go_wp2
  go_ret
  exact ⟨rfl, Bel.after (Bel.after B4.out b5) b6⟩

set_option maxRecDepth 100000 in
theorem lifted (os : Os) (started : os.Started) (H : Type) (enc : TypeId × Value → H) :
    ReturnsInHanded {} Try.checked os 4 .any (Rows.fnExactInsDefSpec.pre6 enc Try.prog Try.f4 Rows.fnExactInsDefRow.domain false) (Rows.fnExactInsDefSpec.post enc Try.prog Try.f4 false true false false) := by
  refine returnsInHanded_of_change (C := Try.checked) own started (by kernel_rfl) Try.func4
    (ChangeSpec.witness6 (enc := enc) (C := Try.checked) false ⟨#[], #[.agg #[.int .i64 0, .int .i64 0, .int .i64 0, .int .i64 0, .int .i64 0]], []⟩ 8 (by kernel_rfl) (by kernel_rfl) (by kernel_rfl) (by kernel_rfl)) ?_
  intro W base args ds gs before hval0 hW hcnd _
  have hval : ∀ (j : Nat) t v, Try.f4.params[j]? = some t → args[j]? = some v → Value.okWide Try.prog W .any base t v := hval0
  have hW' := hW
  obtain ⟨p, q, hA0, hV, rfl, hfz, hnd⟩ := hW
  have hA : DataW.TrodAll enc Try.prog W 0 (fun _ => true) true Try.f4.params.toList args.toList ds p := hA0
  rw [Try.params4] at hA hval
  obtain ⟨v0, vs0, d0, ds0, p0, q0, hargs, rfl, rfl, h0, r0x⟩ := trodAll_cons hA
  obtain ⟨rfl, rfl, rfl⟩ := trodAll_nil r0x
  obtain rfl : args = #[v0] := by cases args; simp_all
  obtain ⟨rfl, rfl⟩ := trodVars_none hV
  have k0 := h0
  have lt0 : ∀ x ∈ p0, x.block < W.heap.size := by obtain ⟨m, hm⟩ := k0; exact DataW.trod_lt m _ _ _ hm
  obtain ⟨a0p, a0q, a0r, a0s, a0t, rfl⟩ := openIns (hval 0 35 v0 rfl rfl) h0
  clear hA0 hval0
  refine (walk W a0p a0q a0r a0s a0t).mono fun e W' ⟨he, bel⟩ => ?_
  subst he
  exact ⟨_, rfl, _, _, _, [], _, [], hW', trodAll_mk1 (shut_bool Try.underlying4 _), (trodAll_cons_mk (Below.trod laidOut (by kernel_rfl) (of_decide_eq_true (by kernel_rfl)) k0 bel lt0) trodAll_mk0), rfl, bel.frame _, fun h => by cases h⟩

theorem over : Rows.fnExactInsDefRow.holds Try.pinned (OpenSpec.ofChange Rows.fnExactInsDefSpec) :=
  OpenClaim.holds_of_wide 4 Try.f4 rfl rfl rfl rfl rfl rfl rfl ⟨rfl, rfl, rfl, rfl, rfl⟩ rfl rfl rfl rfl rfl (by kernel_rfl) Try.func4 (by kernel_rfl)
    (of_decide_eq_true (by kernel_rfl)) (by unfold Func.isWrapper; first | (rw [if_pos (by decide +kernel)]; kernel_rfl) | (rw [if_neg (by decide +kernel)]; exact ⟨rfl, rfl⟩))
    (fun os started H enc _ => lifted os started H enc)

/-- The statement. -/
theorem proved : Rows.FnExactInsDefSaid := over
#print axioms proved
end Go.Proofs.Ythkcflicgkppkaa.fnExactInsDef
