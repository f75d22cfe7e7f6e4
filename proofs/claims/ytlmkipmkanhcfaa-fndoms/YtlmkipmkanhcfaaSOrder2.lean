/- The model's Order, for every program. -/
import Derived.Test.YtlmkipmkanhcfaaSOrder
import Derived.Test.YtlmkipmkanhcfaaShape8
namespace Go.Proofs.Ytlmkipmkanhcfaa
open Go.ChangeShapes Go.WideShapes Go.ChangeAt Go.RowKit Go.Shelf
set_option linter.unusedVariables false

set_option maxHeartbeats 2000000 in
theorem spec_order (v : Value) (F : FnD) (w : World) (hF : FnAt w v F) :
    Calls Try.prog 20 #[v] w fun e w' => GivesOwn w (orderOf F) e w' := by
  have HF : Hid (FnAt w v F) := hF
  obtain ⟨n, HN⟩ : ∃ n, Hid (F.blocks.length = n) := ⟨_, rfl⟩
  obtain ⟨vals, HV⟩ : ∃ x, Hid (F.values = x) := ⟨_, rfl⟩
  obtain ⟨ba, bcap, rfl⟩ := hF.out HN.out HV.out
  clear hF
  go_enter Try.func20, Try.ntmps20
  go_wp2_with fail
  refine (spec_shapeOk _ F _ (HF.out.later (by repeat (first | exact Below.refl _ _ | apply Below.drew | refine Below.alloc ?_ (by simp <;> omega) _ | refine Below.setCell ?_ (by simp <;> omega) _)))).mono ?_
  rintro e w1 ⟨s1, rfl, hs1, b1⟩
  have S1 : Hid (s1 = true ↔ FnShape F) := hs1
  have B1 : Hid (Below w.heap.size w w1) := Bel.after (by repeat (first | exact Below.refl _ _ | apply Below.drew | refine Below.alloc ?_ (by simp <;> omega) _ | refine Below.setCell ?_ (by simp <;> omega) _)) b1
  have c0 : w1.cell? ⟨w.heap.size, 0, none⟩ = some (.slice ba n bcap) := Bel.keeps b1 (by simp [go_sem])
  have c1 : w1.cell? ⟨w.heap.size, 1, none⟩ = some (.int .i64 vals) := Bel.keeps b1 (by simp [go_sem])
  clear b1 hs1
  cases s1 with
  | false =>
    have HE : Hid (orderOf F = []) := orderOf_no (fun h => by have := S1.out.2 h; cases this)
    go_wp2_with fail
    go_ret
    rw [HE.out]
    exact ⟨_, rfl, ownInts_nil rfl B1.out.size, Bel.after B1.out (by repeat (first | exact Below.refl _ _ | apply Below.drew | refine Below.alloc ?_ (by simp <;> omega) _ | refine Below.setCell ?_ (by simp <;> omega) _))⟩
  | true =>
    have hyes : Hid (FnShape F) := S1.out.1 rfl
    have HE : Hid (orderOf F = (wayOf F).2.reverse) := orderOf_yes hyes.out
    go_wp2_with fail
    refine (l3Order_any _ F _ (HF.out.later B1.out) hyes.out).mono ?_
    rintro e w2 ⟨v2, rfl, o2, b2⟩
    go_wp2_with fail
    go_ret
    rw [HE.out]
    exact ⟨_, rfl, o2.low B1.out.size, Bel.after B1.out b2⟩
end Go.Proofs.Ytlmkipmkanhcfaa
