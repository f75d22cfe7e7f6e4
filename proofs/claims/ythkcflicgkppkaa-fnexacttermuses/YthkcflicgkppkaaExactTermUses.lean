/- Proved: for every end the law FnExactTermUses returns true (the program's TermUses answers as the model's, in new memory, twice alike) and its argument reads afterwards as before. No condition. -/
import Derived.Test.YthkcflicgkppkaaRows
import Derived.Test.YthkcflicgkppkaaIns
import Derived.Test.YthkcflicgkppkaaOpen
import Derived.Test.YthkcflicgkppkaaInts
import Derived.Test.YthkcflicgkppkaaUses
import Derived.WalkKit
import Derived.ProofKit
import Derived.OpenShut
import Derived.ShutString
import Derived.ChangeOld
import Derived.Below
namespace Go.Proofs.Ythkcflicgkppkaa.fnExactTermUses
open Go.ChangeShapes Go.WideShapes Go.ChangeAt Go.RowKit
open Go.ChangeMaps (open_string shut_string)
set_option linter.unusedVariables false

theorem own : ownKnob Try.prog.godebug = none := by kernel_rfl
theorem laidOut : laidOutB Try.prog = true := by kernel_rfl

theorem walk (w : World) (a0p a0q a0r a0s : Int) :
    Calls Try.prog 6 #[.agg #[.int .i64 a0p, .int .i64 a0q, .int .i64 a0r, .int .i64 a0s]] w fun e w' => e = .returned (.bool true) ∧ Below w.heap.size w w' := by
  go_enter Try.func6, Try.ntmps6
  go_wp2_with fail
  refine (toTerm_any a0p a0q a0r a0s _).mono ?_
  rintro e w1 ⟨rfl, b1⟩
  go_wp2_with fail
  refine (spec_termUses a0p a0q a0r a0s _).mono ?_
  rintro e w2 ⟨v0, k0, rfl, hk0, r0, b2⟩
  have B2 : Hid (Below (w.alloc (.cells #[.int .i64 a0p, .int .i64 a0q, .int .i64 a0r, .int .i64 a0s] 39)).heap.size (w.alloc (.cells #[.int .i64 a0p, .int .i64 a0q, .int .i64 a0r, .int .i64 a0s] 39)) w2) := Bel.after b1 b2
  have HK0 : Hid (w.heap.size < k0) := by have h1 := b1.size; simp at h1; show w.heap.size < k0; omega
  have R0 : Hid (RowNew w2 k0 v0 (endsV a0p a0q)) := r0
  clear b1 b2 r0 hk0
  have c0 := box_cell B2.out 0
  have c1 := box_cell B2.out 1
  have c2 := box_cell B2.out 2
  have c3 := box_cell B2.out 3
  simp at c0 c1 c2 c3
  go_wp2_with fail
  refine (toTerm_any a0p a0q a0r a0s _).mono ?_
  rintro e w3 ⟨rfl, b3⟩
  go_wp2_with fail
  refine (impl_termUses a0p a0q a0r a0s _).mono ?_
  rintro e w4 ⟨v1, k1, rfl, hk1, r1, b4⟩
  have B4 : Hid (Below w2.heap.size w2 w4) := Bel.after b3 b4
  have HK1 : Hid (k0 < k1) := by have h1 := b3.size; have h2 := R0.out.2.2.1; show k0 < k1; omega
  have R1 : Hid (RowNew w4 k1 v1 (endsV a0p a0q)) := r1
  have R04 : Hid (RowNew w4 k0 v0 (endsV a0p a0q)) := R0.out.keep B4.out
  clear b3 b4 r1 hk1
  go_wp2_with fail
  refine (eqIntS_any v1 v0 _ _ _ R1.out.at R04.out.at).mono ?_
  rintro e w5 ⟨rfl, b5⟩
  have B5 : Hid (Below w4.heap.size w4 w5) := b5
  have R15 : Hid (RowNew w5 k1 v1 (endsV a0p a0q)) := R1.out.keep b5
  have R05 : Hid (RowNew w5 k0 v0 (endsV a0p a0q)) := R04.out.keep b5
  clear b5
  have hd : decide (endsV a0p a0q = endsV a0p a0q) = true := by simp
  obtain ⟨n, HN⟩ : ∃ n, Hid ((endsV a0p a0q).length = n) := ⟨_, rfl⟩
  have hn : n ≤ 2 := by rw [← HN.out]; unfold endsV; split <;> simp
  go_wp2_with fail
  refine (markIntS_any k1 v1 _ 1 _ R15.out (by omega) (by rw [HN.out]; omega)).mono ?_
  rintro e w6 ⟨rfl, f6, r6⟩
  rw [HN.out] at r6 ⊢
  have F6 : Hid (FrB k1 w5 w6) := f6
  have R6 : Hid (RowNew w6 k1 v1 (marks 1 n)) := r6
  have R06 : Hid (RowNew w6 k0 v0 (endsV a0p a0q)) := R05.out.aside f6 (by have := HK1.out; omega)
  clear f6 r6
  go_wp2_with fail
  refine (heldIntS_any v1 n 1 _ R6.out.at (by omega) (by omega)).mono ?_
  rintro e w6' ⟨rfl, hw6⟩
  subst hw6
  have B25 : Hid (Below w2.heap.size w2 w5) := Bel.after B4.out B5.out
  have d0 : w6'.cell? ⟨w.heap.size, 0, none⟩ = some (.int .i64 a0p) := by
    rw [F6.out.cell (x := ⟨w.heap.size, 0, none⟩) (World.block_lt_of_cell? _ _ (Bel.keeps B25.out c0)) (by have := HK0.out; have := HK1.out; show w.heap.size ≠ k1; omega)]
    exact Bel.keeps B25.out c0
  have d1 : w6'.cell? ⟨w.heap.size, 1, none⟩ = some (.int .i64 a0q) := by
    rw [F6.out.cell (x := ⟨w.heap.size, 1, none⟩) (World.block_lt_of_cell? _ _ (Bel.keeps B25.out c1)) (by have := HK0.out; have := HK1.out; show w.heap.size ≠ k1; omega)]
    exact Bel.keeps B25.out c1
  have d2 : w6'.cell? ⟨w.heap.size, 2, none⟩ = some (.int .i64 a0r) := by
    rw [F6.out.cell (x := ⟨w.heap.size, 2, none⟩) (World.block_lt_of_cell? _ _ (Bel.keeps B25.out c2)) (by have := HK0.out; have := HK1.out; show w.heap.size ≠ k1; omega)]
    exact Bel.keeps B25.out c2
  have d3 : w6'.cell? ⟨w.heap.size, 3, none⟩ = some (.int .i64 a0s) := by
    rw [F6.out.cell (x := ⟨w.heap.size, 3, none⟩) (World.block_lt_of_cell? _ _ (Bel.keeps B25.out c3)) (by have := HK0.out; have := HK1.out; show w.heap.size ≠ k1; omega)]
    exact Bel.keeps B25.out c3
  clear c0 c1 c2 c3
  go_wp2_with fail
  refine (toTerm_any a0p a0q a0r a0s _).mono ?_
  rintro e w7 ⟨rfl, b7⟩
  go_wp2_with fail
  refine (impl_termUses a0p a0q a0r a0s _).mono ?_
  rintro e w8 ⟨v2, k2, rfl, hk2, r2, b8⟩
  have B8 : Hid (Below w6'.heap.size w6' w8) := Bel.after b7 b8
  have R2 : Hid (RowNew w8 k2 v2 (endsV a0p a0q)) := r2
  have R18 : Hid (RowNew w8 k1 v1 (marks 1 n)) := R6.out.keep B8.out
  have R08 : Hid (RowNew w8 k0 v0 (endsV a0p a0q)) := R06.out.keep B8.out
  clear b7 b8 r2 hk2
  go_wp2_with fail
  refine (eqIntS_any v2 v0 _ _ _ R2.out.at R08.out.at).mono ?_
  rintro e w9 ⟨rfl, b9⟩
  have B9 : Hid (Below w8.heap.size w8 w9) := b9
  clear b9
  go_wp2_with fail
  refine (heldIntS_any v1 n 1 _ (R18.out.keep B9.out).at (by omega) (by omega)).mono ?_
  rintro e w9' ⟨rfl, hw9⟩
  subst hw9
  go_wp2
  go_ret
  refine ⟨rfl, ?_⟩
  have a1 : Below w.heap.size w w5 := Bel.after (Bel.alloc w _) (Bel.after B2.out B25.out)
  have a2 : Below w.heap.size w5 w6' := F6.out.below (by have := HK0.out; have := HK1.out; omega) a1.size
  have a3 : Below w.heap.size w w6' := a1.trans a2
  exact Bel.after a3 (Bel.after B8.out B9.out)

set_option maxRecDepth 100000 in
theorem lifted (os : Os) (started : os.Started) (H : Type) (enc : TypeId × Value → H) :
    ReturnsInHanded {} Try.checked os 6 .any (Rows.fnExactTermUsesSpec.pre6 enc Try.prog Try.f6 Rows.fnExactTermUsesRow.domain false) (Rows.fnExactTermUsesSpec.post enc Try.prog Try.f6 false true false false) := by
  refine returnsInHanded_of_change (C := Try.checked) own started (by kernel_rfl) Try.func6
    (ChangeSpec.witness6 (enc := enc) (C := Try.checked) false ⟨#[], #[.agg #[.int .i64 0, .int .i64 0, .int .i64 0, .int .i64 0]], []⟩ 8 (by kernel_rfl) (by kernel_rfl) (by kernel_rfl) (by kernel_rfl)) ?_
  intro W base args ds gs before hval0 hW hcnd _
  have hval : ∀ (j : Nat) t v, Try.f6.params[j]? = some t → args[j]? = some v → Value.okWide Try.prog W .any base t v := hval0
  have hW' := hW
  obtain ⟨p, q, hA0, hV, rfl, hfz, hnd⟩ := hW
  have hA : DataW.TrodAll enc Try.prog W 0 (fun _ => true) true Try.f6.params.toList args.toList ds p := hA0
  rw [Try.params6] at hA hval
  obtain ⟨v0, vs0, d0, ds0, p0, q0, hargs, rfl, rfl, h0, r0x⟩ := trodAll_cons hA
  obtain ⟨rfl, rfl, rfl⟩ := trodAll_nil r0x
  obtain rfl : args = #[v0] := by cases args; simp_all
  obtain ⟨rfl, rfl⟩ := trodVars_none hV
  have k0 := h0
  have lt0 : ∀ x ∈ p0, x.block < W.heap.size := by obtain ⟨m, hm⟩ := k0; exact DataW.trod_lt m _ _ _ hm
  obtain ⟨a0p, a0q, a0r, a0s, rfl⟩ := openTerm (hval 0 39 v0 rfl rfl) h0
  clear hA0 hval0
  refine (walk W a0p a0q a0r a0s).mono fun e W' ⟨he, bel⟩ => ?_
  subst he
  exact ⟨_, rfl, _, _, _, [], _, [], hW', trodAll_mk1 (shut_bool Try.underlying4 _), (trodAll_cons_mk (Below.trod laidOut (by kernel_rfl) (of_decide_eq_true (by kernel_rfl)) k0 bel lt0) trodAll_mk0), rfl, bel.frame _, fun h => by cases h⟩

theorem over : Rows.fnExactTermUsesRow.holds Try.pinned (OpenSpec.ofChange Rows.fnExactTermUsesSpec) :=
  OpenClaim.holds_of_wide 6 Try.f6 rfl rfl rfl rfl rfl rfl rfl ⟨rfl, rfl, rfl, rfl, rfl⟩ rfl rfl rfl rfl rfl (by kernel_rfl) Try.func6 (by kernel_rfl)
    (of_decide_eq_true (by kernel_rfl)) (by unfold Func.isWrapper; first | (rw [if_pos (by decide +kernel)]; kernel_rfl) | (rw [if_neg (by decide +kernel)]; exact ⟨rfl, rfl⟩))
    (fun os started H enc _ => lifted os started H enc)

/-- The statement. -/
theorem proved : Rows.FnExactTermUsesSaid := over
#print axioms proved
end Go.Proofs.Ythkcflicgkppkaa.fnExactTermUses
