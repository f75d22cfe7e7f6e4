/- One operation of a region that draws, where it alone may come. -/
import Derived.Test.YtgjojajodkagbaaLast
import Derived.OrdersHeld
import Derived.Shelf.Abstract
import Derived.Shelf.RegionOpen
namespace Go.Proofs.Ytgjojajodkagbaa
open Go.ChangeShapes Go.WideShapes Go.ChangeAt Go.RowKit Go.Shelf
set_option linter.unusedVariables false

section
variable {P : Program} {ops : Array Oper} {Q : Exit → Act → World → Prop} {md : Region.Mode} {S : World → Prop} {m : Nat}

theorem runCallL {o : Oper} {a : Act} {f : FuncId} {x y : Operand} {ts : Array TypeId} (ho : o.op = Op.call { callee := Callee.value (Operand.func f), args := #[x, y], argTypes := ts }) {u v : Value} (hx : a.eval x = u) (hy : a.eval y = v) (he : ∀ args w, (callFunc f args).run P w = .ok (.enter f args) w) (w : World) : (execOp a.eval o).run P w = .ok (.enter f #[u, v]) w := by
  simp [execOp, ho, resolve, invoke, Act.eval, go_sem, he]
  simp [Act.eval] at hx hy
  simp [hx, hy]
theorem ckAnyH_threeK {i i2 i3 : Nat} {o o2 o3 : Oper} {fuel : Nat} {li : Array Bool} {a : Act} {w : World} (ho : ops[i]? = some o) (ho2 : ops[i2]? = some o2) (ho3 : ops[i3]? = some o3) (hg : o.guard = none) (hg2 : o2.guard = none) (hg3 : o3.guard = none) (hr : Region.ready md ops li = [i, i2, i3])
    (h : ∀ K : Act → World → Prop, (∀ a' w', (S w' ∧ wpAnyH P md ops Q S fuel (li.setIfInBounds i true) a' w') → K a' w') → o.wp P a w K Q)
    (h2 : ∀ K : Act → World → Prop, (∀ a' w', (S w' ∧ wpAnyH P md ops Q S fuel (li.setIfInBounds i2 true) a' w') → K a' w') → o2.wp P a w K Q)
    (h3 : ∀ K : Act → World → Prop, (∀ a' w', (S w' ∧ wpAnyH P md ops Q S fuel (li.setIfInBounds i3 true) a' w') → K a' w') → o3.wp P a w K Q) : wpAnyH P md ops Q S (fuel + 1) li a w := by
  refine wpAnyH_all hr (by simp) (fun j hj => ?_)
  have e : j = i ∨ j = i2 ∨ j = i3 := by simpa using hj
  rcases e with e | e | e
  · subst e
    unfold wpOp
    simp only [ho]
    rw [if_pos (by simp [Region.wanted, hg])]
    exact .inl (h _ (fun _ _ h => h))
  · subst e
    unfold wpOp
    simp only [ho2]
    rw [if_pos (by simp [Region.wanted, hg2])]
    exact .inl (h2 _ (fun _ _ h => h))
  · subst e
    unfold wpOp
    simp only [ho3]
    rw [if_pos (by simp [Region.wanted, hg3])]
    exact .inl (h3 _ (fun _ _ h => h))
theorem run_makeL {o : Oper} {a : Act} {x y : Operand} {t : TypeId} (ho : o.op = .makeSlice t x y) {p q v : Value} (hx : a.eval x = p) (hy : a.eval y = q) {w w' : World} (h : (Instr.makeSlice t p q).run P w = .ok v w') : (execOp a.eval o).run P w = .ok (.value v) w' := by
  simp [execOp, ho, hx, hy, h]
theorem cmAnyM_oneK {i : Nat} {o : Oper} {fuel : Nat} {li : Array Bool} {a : Act} {w : World} (ho : ops[i]? = some o) (hg : o.guard = none) (hr : Region.ready md ops li = [i])
    (h : ∀ K : Act → World → Prop, (∀ a' w', ((i ≠ m → S w') ∧ wpAnyM P md ops Q m S fuel (li.setIfInBounds i true) a' w') → K a' w') → o.wp P a w K Q) : wpAnyM P md ops Q m S (fuel + 1) li a w :=
  wpAnyM_one ho hg hr (h _ (fun _ _ h => h))
end
end Go.Proofs.Ytgjojajodkagbaa
