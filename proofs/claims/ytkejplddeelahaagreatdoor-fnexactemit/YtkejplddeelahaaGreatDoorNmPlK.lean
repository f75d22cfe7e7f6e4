/- Does an op name a place? -/
import Derived.Test.YtkejplddeelahaaGreatDoorKMa
namespace Go.Proofs.YtkejplddeelahaaGreatDoor
open Go.ChangeShapes Go.WideShapes Go.ChangeAt Go.RowKit
set_option linter.unusedVariables false

theorem names_jump (op : Int) : (formOk op && decide ((formV op).n = 3)) = decide (op = 9 ∨ op = 10) := by
  rcases op_kinds op with rfl | rfl | rfl | rfl | rfl | rfl | rfl | rfl | rfl | rfl | rfl | ⟨h1, h2⟩ | h
  all_goals first | rfl | skip
  · rw [formV_word h1 h2]
    simp
    omega
  · rw [formOk_no h]
    simp
    omega

theorem namesPlace_any (op : Int) (w : World) (hr : -9223372036854775808 ≤ op ∧ op ≤ 9223372036854775807) (hT : FTab w) :
    Calls Tryz.prog 97 #[.int .i64 op] w fun e w' => AnsB w (decide (op = 9 ∨ op = 10)) e w' := by
  rw [← names_jump]
  obtain ⟨f, HF⟩ : ∃ f, Hid (formV op = f) := ⟨_, rfl⟩
  obtain ⟨q, HQ⟩ : ∃ q, Hid (formOk op = q) := ⟨_, rfl⟩
  rw [HF.out, HQ.out]
  obtain ⟨f0, f1, f2, f3⟩ := f
  dsimp only
  go_enter Tryz.func97, Tryz.ntmps97
  go_wp2_with fail
  refine (formOf_any op _ hr hT).mono ?_
  rintro e w1 ⟨rfl, b1⟩
  rw [HF.out, HQ.out]
  dsimp only
  cases q with
  | false =>
    go_wp2
    go_ret
    exact ⟨rfl, by first | exact b1 | exact Bel.after b1 (by repeat (first | exact Below.refl _ _ | apply Below.drew | refine Below.alloc ?_ (by simp <;> omega) _ | refine Below.setCell ?_ (by simp <;> omega) _))⟩
  | true =>
    go_wp2
    go_ret
    exact ⟨retB (by rw [Bool.eq_iff_iff]; simp), by first | exact b1 | exact Bel.after b1 (by repeat (first | exact Below.refl _ _ | apply Below.drew | refine Below.alloc ?_ (by simp <;> omega) _ | refine Below.setCell ?_ (by simp <;> omega) _))⟩

theorem FTab.under {lo : Nat} {w w' : World} (h : FTab w) (hb : Below lo w w') (h0 : 0 < lo) : FTab w' := fun i hi => by
  obtain ⟨a, b, c, d⟩ := h i hi
  exact ⟨(hb.cell (p := ⟨0, i * 4, none⟩) h0).trans a, (hb.cell (p := ⟨0, i * 4 + 1, none⟩) h0).trans b, (hb.cell (p := ⟨0, i * 4 + 2, none⟩) h0).trans c, (hb.cell (p := ⟨0, i * 4 + 3, none⟩) h0).trans d⟩
end Go.Proofs.YtkejplddeelahaaGreatDoor
