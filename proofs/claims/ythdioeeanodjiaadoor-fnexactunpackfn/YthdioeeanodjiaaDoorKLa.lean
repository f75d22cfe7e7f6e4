/- A region that draws its order, one operation of which waits for all others: what others read need not hold behind that one. Regions that draw their order, taken one operation at a time. One operation of a region that draws, where it alone may come. -/
import Derived.Test.YthdioeeanodjiaaDoorKBa
import Derived.OrdersHeld
import Derived.Deep.RegionHeld3
import Derived.Shelf.Abstract
import Derived.Shelf.RegionOpen
namespace Go.Proofs.YthdioeeanodjiaaDoor
open Go.ChangeShapes Go.WideShapes Go.ChangeAt Go.RowKit
set_option linter.unusedVariables false

section
variable {P : Program} {ops : Array Oper} {Q : Exit → Act → World → Prop} {md : Region.Mode} {S : World → Prop} {m : Nat}

/-- In whatever order; S holds behind each operation but number m. -/
def wpAnyM (P : Program) (md : Region.Mode) (ops : Array Oper) (Q : Exit → Act → World → Prop) (m : Nat) (S : World → Prop) : Nat → Array Bool → Act → World → Prop
  | 0, li, a, w => Region.ready md ops li = [] ∧ Q .normal a w
  | fuel + 1, li, a, w => (Region.ready md ops li = [] → Q .normal a w) ∧ ∀ i ∈ Region.ready md ops li, wpOp P ops Q i (fun a' w' => (i ≠ m → S w') ∧ wpAnyM P md ops Q m S fuel (li.setIfInBounds i true) a' w') a w
theorem wpAnyM.any : ∀ (fuel : Nat) (li : Array Bool) (a : Act) (w : World), wpAnyM P md ops Q m S fuel li a w → wpAny P md ops Q fuel li a w
  | 0, _, _, _, h => h
  | fuel + 1, _, _, _, h => ⟨h.1, fun i hi => wpOp_mono (fun a' w' h' => wpAnyM.any fuel _ a' w' h'.2) (h.2 i hi)⟩

/-- Number m waits for number i. -/
def waitsFor (md : Region.Mode) (ops : Array Oper) (m i : Nat) : Bool := match ops[m]? with | some o => o.after.any (fun e => Region.binds md e && e.on == i) | none => true
theorem waitsFor_spec {i : Nat} {o : Oper} (h : waitsFor md ops m i = true) (ho : ops[m]? = some o) : ∃ e ∈ o.after, Region.binds md e = true ∧ e.on = i := by
  simp only [waitsFor, ho, Array.any_eq_true'] at h
  obtain ⟨e, he, hb⟩ := h
  simp at hb
  exact ⟨e, he, hb⟩

theorem wpAnyM_first {i : Nat} {oi : Oper} {v : Value} (hi : ops[i]? = some oi) (hsel : ∀ (j : Nat) (o : Oper) cs b, ops[j]? = some o → o.op ≠ .select cs b)
    (hQ : ∀ c a w, Q (.panic c) (a.put oi.dst v) w → Q (.panic c) a w) (hm : waitsFor md ops m i = true) : ∀ (fuel : Nat) (li : Array Bool) (a : Act) (w : World),
      (∀ j oj, ops[j]? = some oj → j ≠ i → li.getD j true = false → (∀ e ∈ oj.after, Region.binds md e = true → e.on ≠ i) → oi.apart ops oj = true) →
      i ∈ Region.ready md ops li → YieldsIf P ops S oi v a → S w →
      wpAnyM P md ops Q m S fuel (li.setIfInBounds i true) (a.put oi.dst v) w → wpAnyM P md ops Q m S (fuel + 1) li a w
  | fuel, li, a, w, hfree, hr, hy, hS, H => by
    refine ⟨fun h => (by rw [h] at hr; simp at hr), fun j hj => ?_⟩
    by_cases hji : j = i
    · subst hji
      exact hy.wpOp hi hS ⟨fun _ => hS, H⟩
    · have hj2 := ready_mono hj hji
      cases fuel with
      | zero =>
        rw [H.1] at hj2
        simp at hj2
      | succ fuel =>
        obtain ⟨hjun, oj, hoj, hall⟩ := mem_ready.1 hj
        have hnot : ∀ e ∈ oj.after, Region.binds md e = true → e.on ≠ i := fun e he hb heq => by
          have h1 := hall e he hb
          have h0 := (mem_ready.1 hr).1
          rw [heq] at h1
          rcases Nat.lt_or_ge i li.size with h' | h'
          · simp [h'] at h0 h1
            rw [h0] at h1
            simp at h1
          · simp [Array.getElem?_eq_none h'] at h1
        have hjm : j ≠ m := fun e => by
          subst e
          obtain ⟨e, he, hb, ho⟩ := waitsFor_spec hm hoj
          exact hnot e he hb ho
        have h2 := wpOp_putIf hoj (hfree j oj hoj hji hjun hnot) (fun cs b => hsel i oi cs b hi) (fun cs b => hsel j oj cs b hoj) hQ hy (H.2 j hj2)
        refine wpOp_mono (fun a' w' h3 => ⟨fun _ => h3.2.1 hjm, ?_⟩) h2
        refine wpAnyM_first hi hsel hQ hm fuel (li.setIfInBounds j true) a' w' (fun k ok hk hki hun hno => hfree k ok hk hki ?_ hno) (ready_mono hr (Ne.symm hji)) h3.1 (h3.2.1 hjm) ?_
        · by_cases hjk : j = k
          · subst hjk; exact hjun
          · rw [getD_set_ne true hjk] at hun; exact hun
        · rw [Array.setIfInBounds_comm _ _ hji]
          exact h3.2.2
theorem wpAnyM_take {i : Nat} {oi : Oper} {v : Value} {fuel : Nat} {li : Array Bool} {a : Act} {w : World} (hi : ops[i]? = some oi)
    (hs : Region.noSelect ops = true) (hf : Region.free md ops li i = true) (hr : (Region.ready md ops li).contains i = true) (hm : waitsFor md ops m i = true)
    (hQ : ∀ c a w, Q (.panic c) (a.put oi.dst v) w → Q (.panic c) a w) (hy : YieldsIf P ops S oi v a) (hS : S w)
    (h : wpAnyM P md ops Q m S fuel (li.setIfInBounds i true) (a.put oi.dst v) w) : wpAnyM P md ops Q m S (fuel + 1) li a w :=
  wpAnyM_first hi (Region.noSelect_spec hs) hQ hm fuel li a w (Region.free_spec hi hf) (by simpa using hr) hy hS h
/-- Just one may come up, and it is carried out. -/
theorem wpAnyM_one {i : Nat} {o : Oper} {fuel : Nat} {li : Array Bool} {a : Act} {w : World} (ho : ops[i]? = some o) (hg : o.guard = none) (hr : Region.ready md ops li = [i])
    (h : o.wp P a w (fun a' w' => (i ≠ m → S w') ∧ wpAnyM P md ops Q m S fuel (li.setIfInBounds i true) a' w') Q) : wpAnyM P md ops Q m S (fuel + 1) li a w := by
  refine ⟨fun h0 => (by rw [hr] at h0; simp at h0), fun j hj => ?_⟩
  rw [hr] at hj
  have : j = i := by simpa using hj
  subst this
  unfold wpOp
  simp only [ho]
  have hw : Region.wanted o (yielded ops a.tmps) = true := by simp [Region.wanted, hg]
  rw [if_pos hw]
  exact .inl h
theorem wpAnyM_done {li : Array Bool} {a : Act} {w : World} (hr : Region.ready md ops li = []) (h : Q .normal a w) : ∀ fuel, wpAnyM P md ops Q m S fuel li a w
  | 0 => ⟨hr, h⟩
  | _ + 1 => ⟨fun _ => h, by rw [hr]; simp⟩
theorem region_M (m : Nat) (S : World → Prop) {id : Nat} {a : Act} {w : World} (hm : P.follows .mixedOrders = true)
    (h : wpAnyM P .any ops Q m S ops.size (Array.replicate ops.size false) a w.drew) : (Code.region id ops true).wp P Q a w :=
  wp_region_any hm (wpAnyM.any _ _ _ _ h)
/-- A call of a function by its name. -/
theorem wp_call_of {o : Oper} {a : Act} {w : World} {K : Act → World → Prop} {f : FuncId} {args : Array Value} {R : Ending → World → Prop} (he : (execOp a.eval o).run P w = .ok (.enter f args) w) (h : Calls P f args w R)
    (hR : ∀ e w', R e w' → ∃ v, e = .returned v ∧ K (a.put o.dst v) w') : o.wp P a w K Q := by
  unfold Oper.wp
  rw [he]
  refine Calls.mono h (fun e w' hr => ?_)
  obtain ⟨v, rfl, hk⟩ := hR e w' hr
  exact hk
/-- Operations that do nothing but leave a value. -/
theorem yields_move {o : Oper} {v : Value} {a : Act} {x : Operand} (hg : o.guard = none) (ho : o.op = .move x) (hx : a.eval x = v) : YieldsIf P ops S o v a :=
  .inl ⟨by simp [Region.wanted, hg], fun W _ => by simp [execOp, ho, hx]⟩
theorem yields_load {o : Oper} {v : Value} {a : Act} {x : Operand} {t : TypeId} (hg : o.guard = none) (ho : o.op = .load t x) {p : Value} (hx : a.eval x = p) (hl : ∀ W, S W → (Instr.loadAt t p).run P W = .ok v W) : YieldsIf P ops S o v a :=
  .inl ⟨by simp [Region.wanted, hg], fun W hW => by simp [execOp, ho, hx, hl W hW]⟩
theorem yields_index {o : Oper} {v : Value} {a : Act} {x y : Operand} {t : TypeId} (hg : o.guard = none) (ho : o.op = .indexAddr t x y) {p i : Value} (hx : a.eval x = p) (hy : a.eval y = i) (hl : ∀ W, S W → (Instr.indexAt t p i).run P W = .ok v W) : YieldsIf P ops S o v a :=
  .inl ⟨by simp [Region.wanted, hg], fun W hW => by simp [execOp, ho, hx, hy, hl W hW]⟩
/-- A slot that was put; another one. -/
theorem put_ne {a : Act} {d t : Nat} {v : Value} (h : d ≠ t) : (a.put (some d) v).eval (.tmp t) = a.eval (.tmp t) := by
  unfold Act.put Act.eval
  simp only [Array.getD_eq_getD_getElem?, Array.getElem?_setIfInBounds_ne h]
theorem put_eq {a : Act} {d : Nat} {v : Value} (h : d < a.tmps.size) : (a.put (some d) v).eval (.tmp d) = v := by
  simp [Act.put, Act.eval, Array.getD, h]
theorem put_size {a : Act} {d : Nat} {v : Value} : (a.put (some d) v).tmps.size = a.tmps.size := by simp [Act.put]
end
end Go.Proofs.YthdioeeanodjiaaDoor

namespace Go.Proofs.YthdioeeanodjiaaDoor
open Go.ChangeShapes Go.WideShapes Go.ChangeAt Go.RowKit
set_option linter.unusedVariables false

section
variable {P : Program} {ops : Array Oper} {Q : Exit → Act → World → Prop} {md : Region.Mode} {S : World → Prop}
theorem ckAnyH_oneK {i : Nat} {o : Oper} {fuel : Nat} {li : Array Bool} {a : Act} {w : World} (ho : ops[i]? = some o) (hg : o.guard = none) (hr : Region.ready md ops li = [i])
    (h : ∀ K : Act → World → Prop, (∀ a' w', (S w' ∧ wpAnyH P md ops Q S fuel (li.setIfInBounds i true) a' w') → K a' w') → o.wp P a w K Q) : wpAnyH P md ops Q S (fuel + 1) li a w := by
  refine wpAnyH_all hr (by simp) (fun j hj => ?_)
  have e : j = i := by simpa using hj
  subst e
  unfold wpOp
  simp only [ho]
  rw [if_pos (by simp [Region.wanted, hg])]
  exact .inl (h _ (fun _ _ h => h))
theorem ckAnyH_oneG {i : Nat} {o : Oper} {fuel : Nat} {li : Array Bool} {a : Act} {w : World} (ho : ops[i]? = some o) (hg : Region.wanted o (yielded ops a.tmps) = true) (hr : Region.ready md ops li = [i])
    (h : ∀ K : Act → World → Prop, (∀ a' w', (S w' ∧ wpAnyH P md ops Q S fuel (li.setIfInBounds i true) a' w') → K a' w') → o.wp P a w K Q) : wpAnyH P md ops Q S (fuel + 1) li a w := by
  refine wpAnyH_all hr (by simp) (fun j hj => ?_)
  have e : j = i := by simpa using hj
  subst e
  unfold wpOp
  simp only [ho]
  rw [if_pos hg]
  exact .inl (h _ (fun _ _ h => h))
theorem ckAnyH_twoK {i i2 : Nat} {o o2 : Oper} {fuel : Nat} {li : Array Bool} {a : Act} {w : World} (ho : ops[i]? = some o) (ho2 : ops[i2]? = some o2) (hg : o.guard = none) (hg2 : o2.guard = none) (hr : Region.ready md ops li = [i, i2])
    (h : ∀ K : Act → World → Prop, (∀ a' w', (S w' ∧ wpAnyH P md ops Q S fuel (li.setIfInBounds i true) a' w') → K a' w') → o.wp P a w K Q)
    (h2 : ∀ K : Act → World → Prop, (∀ a' w', (S w' ∧ wpAnyH P md ops Q S fuel (li.setIfInBounds i2 true) a' w') → K a' w') → o2.wp P a w K Q) : wpAnyH P md ops Q S (fuel + 1) li a w := by
  refine wpAnyH_all hr (by simp) (fun j hj => ?_)
  have e : j = i ∨ j = i2 := by simpa using hj
  rcases e with e | e
  · subst e
    unfold wpOp
    simp only [ho]
    rw [if_pos (by simp [Region.wanted, hg])]
    exact .inl (h _ (fun _ _ h => h))
  · subst e
    unfold wpOp
    simp only [ho2]
    rw [if_pos (by simp [Region.wanted, hg2])]
    exact .inl (h2 _ (fun _ _ h => h))
theorem wp_value {o : Oper} {a : Act} {w w' : World} {K : Act → World → Prop} {v : Value} (h : (execOp a.eval o).run P w = .ok (.value v) w') (hk : K (a.put o.dst v) w') : o.wp P a w K Q := by
  unfold Oper.wp
  rw [h]
  exact hk
theorem exec_build {ρ : Operand → Value} {o : Oper} {t : TypeId} {parts : Array (Nat × Operand)} {w w' : World} {v : Value} (ho : o.op = .build t parts) (h : (Instr.build t (parts.map fun (i, x) => (i, ρ x))).run P w = .ok v w') : (execOp ρ o).run P w = .ok (.value v) w' := by
  simp only [execOp, ho, Sem.run_bind, h]
  rfl
theorem exec_box {ρ : Operand → Value} {o : Oper} {t : TypeId} {x : Operand} {w w' : World} {v : Value} (ho : o.op = .box t x) (h : (Instr.box t (ρ x)).run P w = .ok v w') : (execOp ρ o).run P w = .ok (.value v) w' := by
  simp only [execOp, ho, Sem.run_bind, h]
  rfl
/-- Nothing but what comes to its end. -/
def noThrow (Q : Exit → Act → World → Prop) : Exit → Act → World → Prop
  | .normal, a, w => Q .normal a w
  | _, _, _ => False
theorem wp_noThrow {c : Code} {a : Act} {w : World} (h : c.wp P (noThrow Q) a w) : c.wp P Q a w := Code.wp_mono (fun e a w h => by cases e <;> first | exact h | exact h.elim) h
end
end Go.Proofs.YthdioeeanodjiaaDoor

namespace Go.Proofs.YthdioeeanodjiaaDoor
open Go.ChangeShapes Go.WideShapes Go.ChangeAt Go.RowKit Go.Shelf
set_option linter.unusedVariables false

section
variable {P : Program} {ops : Array Oper} {Q : Exit → Act → World → Prop} {md : Region.Mode} {S : World → Prop} {m : Nat}

theorem runCallL {o : Oper} {a : Act} {f : FuncId} {x y : Operand} {ts : Array TypeId} (ho : o.op = Op.call { callee := Callee.value (Operand.func f), args := #[x, y], argTypes := ts }) {u v : Value} (hx : a.eval x = u) (hy : a.eval y = v) (he : ∀ args w, (callFunc f args).run P w = .ok (.enter f args) w) (w : World) : (execOp a.eval o).run P w = .ok (.enter f #[u, v]) w := by
  simp [execOp, ho, resolve, invoke, Act.eval, go_sem, he]
  simp [Act.eval] at hx hy
  simp [hx, hy]
theorem ckAnyH_threeK {i i2 i3 : Nat} {o o2 o3 : Oper} {fuel : Nat} {li : Array Bool} {a : Act} {w : World} (ho : ops[i]? = some o) (ho2 : ops[i2]? = some o2) (ho3 : ops[i3]? = some o3) (hg : o.guard = none) (hg2 : o2.guard = none) (hg3 : o3.guard = none) (hr : Region.ready md ops li = [i, i2, i3])
    (h : ∀ K : Act → World → Prop, (∀ a' w', (S w' ∧ wpAnyH P md ops Q S fuel (li.setIfInBounds i true) a' w') → K a' w') → o.wp P a w K Q)
    (h2 : ∀ K : Act → World → Prop, (∀ a' w', (S w' ∧ wpAnyH P md ops Q S fuel (li.setIfInBounds i2 true) a' w') → K a' w') → o2.wp P a w K Q)
    (h3 : ∀ K : Act → World → Prop, (∀ a' w', (S w' ∧ wpAnyH P md ops Q S fuel (li.setIfInBounds i3 true) a' w') → K a' w') → o3.wp P a w K Q) : wpAnyH P md ops Q S (fuel + 1) li a w := by
  refine wpAnyH_all hr (by simp) (fun j hj => ?_)
  have e : j = i ∨ j = i2 ∨ j = i3 := by simpa using hj
  rcases e with e | e | e
  · subst e
    unfold wpOp
    simp only [ho]
    rw [if_pos (by simp [Region.wanted, hg])]
    exact .inl (h _ (fun _ _ h => h))
  · subst e
    unfold wpOp
    simp only [ho2]
    rw [if_pos (by simp [Region.wanted, hg2])]
    exact .inl (h2 _ (fun _ _ h => h))
  · subst e
    unfold wpOp
    simp only [ho3]
    rw [if_pos (by simp [Region.wanted, hg3])]
    exact .inl (h3 _ (fun _ _ h => h))
theorem run_makeL {o : Oper} {a : Act} {x y : Operand} {t : TypeId} (ho : o.op = .makeSlice t x y) {p q v : Value} (hx : a.eval x = p) (hy : a.eval y = q) {w w' : World} (h : (Instr.makeSlice t p q).run P w = .ok v w') : (execOp a.eval o).run P w = .ok (.value v) w' := by
  simp [execOp, ho, hx, hy, h]
theorem cmAnyM_oneK {i : Nat} {o : Oper} {fuel : Nat} {li : Array Bool} {a : Act} {w : World} (ho : ops[i]? = some o) (hg : o.guard = none) (hr : Region.ready md ops li = [i])
    (h : ∀ K : Act → World → Prop, (∀ a' w', ((i ≠ m → S w') ∧ wpAnyM P md ops Q m S fuel (li.setIfInBounds i true) a' w') → K a' w') → o.wp P a w K Q) : wpAnyM P md ops Q m S (fuel + 1) li a w :=
  wpAnyM_one ho hg hr (h _ (fun _ _ h => h))
end
end Go.Proofs.YthdioeeanodjiaaDoor
