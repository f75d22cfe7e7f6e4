/- Regions that draw their order, taken one operation at a time. -/
import Derived.Test.YtgjojajodkagbaaLast
import Derived.Deep.RegionHeld3
namespace Go.Proofs.Ytgjojajodkagbaa
open Go.ChangeShapes Go.WideShapes Go.ChangeAt Go.RowKit
set_option linter.unusedVariables false

section
variable {P : Program} {ops : Array Oper} {Q : Exit → Act → World → Prop} {md : Region.Mode} {S : World → Prop}
theorem ckAnyH_oneK {i : Nat} {o : Oper} {fuel : Nat} {li : Array Bool} {a : Act} {w : World} (ho : ops[i]? = some o) (hg : o.guard = none) (hr : Region.ready md ops li = [i])
    (h : ∀ K : Act → World → Prop, (∀ a' w', (S w' ∧ wpAnyH P md ops Q S fuel (li.setIfInBounds i true) a' w') → K a' w') → o.wp P a w K Q) : wpAnyH P md ops Q S (fuel + 1) li a w := by
  refine wpAnyH_all hr (by simp) (fun j hj => ?_)
  have e : j = i := by simpa using hj
  subst e
  unfold wpOp
  simp only [ho]
  rw [if_pos (by simp [Region.wanted, hg])]
  exact .inl (h _ (fun _ _ h => h))
theorem ckAnyH_oneG {i : Nat} {o : Oper} {fuel : Nat} {li : Array Bool} {a : Act} {w : World} (ho : ops[i]? = some o) (hg : Region.wanted o (yielded ops a.tmps) = true) (hr : Region.ready md ops li = [i])
    (h : ∀ K : Act → World → Prop, (∀ a' w', (S w' ∧ wpAnyH P md ops Q S fuel (li.setIfInBounds i true) a' w') → K a' w') → o.wp P a w K Q) : wpAnyH P md ops Q S (fuel + 1) li a w := by
  refine wpAnyH_all hr (by simp) (fun j hj => ?_)
  have e : j = i := by simpa using hj
  subst e
  unfold wpOp
  simp only [ho]
  rw [if_pos hg]
  exact .inl (h _ (fun _ _ h => h))
theorem ckAnyH_twoK {i i2 : Nat} {o o2 : Oper} {fuel : Nat} {li : Array Bool} {a : Act} {w : World} (ho : ops[i]? = some o) (ho2 : ops[i2]? = some o2) (hg : o.guard = none) (hg2 : o2.guard = none) (hr : Region.ready md ops li = [i, i2])
    (h : ∀ K : Act → World → Prop, (∀ a' w', (S w' ∧ wpAnyH P md ops Q S fuel (li.setIfInBounds i true) a' w') → K a' w') → o.wp P a w K Q)
    (h2 : ∀ K : Act → World → Prop, (∀ a' w', (S w' ∧ wpAnyH P md ops Q S fuel (li.setIfInBounds i2 true) a' w') → K a' w') → o2.wp P a w K Q) : wpAnyH P md ops Q S (fuel + 1) li a w := by
  refine wpAnyH_all hr (by simp) (fun j hj => ?_)
  have e : j = i ∨ j = i2 := by simpa using hj
  rcases e with e | e
  · subst e
    unfold wpOp
    simp only [ho]
    rw [if_pos (by simp [Region.wanted, hg])]
    exact .inl (h _ (fun _ _ h => h))
  · subst e
    unfold wpOp
    simp only [ho2]
    rw [if_pos (by simp [Region.wanted, hg2])]
    exact .inl (h2 _ (fun _ _ h => h))
theorem wp_value {o : Oper} {a : Act} {w w' : World} {K : Act → World → Prop} {v : Value} (h : (execOp a.eval o).run P w = .ok (.value v) w') (hk : K (a.put o.dst v) w') : o.wp P a w K Q := by
  unfold Oper.wp
  rw [h]
  exact hk
theorem exec_build {ρ : Operand → Value} {o : Oper} {t : TypeId} {parts : Array (Nat × Operand)} {w w' : World} {v : Value} (ho : o.op = .build t parts) (h : (Instr.build t (parts.map fun (i, x) => (i, ρ x))).run P w = .ok v w') : (execOp ρ o).run P w = .ok (.value v) w' := by
  simp only [execOp, ho, Sem.run_bind, h]
  rfl
theorem exec_box {ρ : Operand → Value} {o : Oper} {t : TypeId} {x : Operand} {w w' : World} {v : Value} (ho : o.op = .box t x) (h : (Instr.box t (ρ x)).run P w = .ok v w') : (execOp ρ o).run P w = .ok (.value v) w' := by
  simp only [execOp, ho, Sem.run_bind, h]
  rfl
/-- Nothing but what comes to its end. -/
def noThrow (Q : Exit → Act → World → Prop) : Exit → Act → World → Prop
  | .normal, a, w => Q .normal a w
  | _, _, _ => False
theorem wp_noThrow {c : Code} {a : Act} {w : World} (h : c.wp P (noThrow Q) a w) : c.wp P Q a w := Code.wp_mono (fun e a w h => by cases e <;> first | exact h | exact h.elim) h
end
end Go.Proofs.Ytgjojajodkagbaa
