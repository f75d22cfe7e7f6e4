/- A run of the model begins: l6New. -/
import Derived.Test.YtebcocehdjoafaaDoorSpecMem
import Derived.Test.YtebcocehdjoafaaDoorRegI
import Derived.Deep.OwnRows
import Derived.ArgAppend
namespace Go.Proofs.YtebcocehdjoafaaDoor
open Go.ChangeShapes Go.WideShapes Go.ChangeAt Go.RowKit Go.Shelf
set_option linter.unusedVariables false

section
variable {P : Program} {Q : Exit → Act → World → Prop} {o : Oper} {a : Act} {K : Act → World → Prop} {w : World}
theorem wp_moveN {x : Operand} {v : Value} (ho : o.op = .move x) (hx : a.eval x = v) (h : K (a.put o.dst v) w) : o.wp P a w K Q := wp_value_of (by simp [execOp, ho, hx]) h
theorem run_makeOp {x y : Operand} {t : TypeId} {p q v : Value} {w' : World} (ho : o.op = .makeSlice t x y) (hx : a.eval x = p) (hy : a.eval y = q) (h : (Instr.makeSlice t p q).run P w = .ok v w') : (execOp a.eval o).run P w = .ok (.value v) w' := by
  simp [execOp, ho, hx, hy, h]
theorem run_boxOp {x : Operand} {t : TypeId} {p v : Value} {w' : World} (ho : o.op = .box t x) (hx : a.eval x = p) (h : (Instr.box t p).run P w = .ok v w') : (execOp a.eval o).run P w = .ok (.value v) w' := by
  simp [execOp, ho, hx, h]
theorem run_appendOp {x y : Operand} {t : TypeId} {p q v : Value} {w' : World} (ho : o.op = Op.call { callee := Callee.builtin Builtin.append, args := #[x, y], argTypes := #[t, t] }) (hx : a.eval x = p) (hy : a.eval y = q) (h : (Builtin.append_ #[t, t] o.type #[p, q]).run P w = .ok v w') : (execOp a.eval o).run P w = .ok (.value v) w' := by
  simp [execOp, ho, resolve, invoke, builtin, hx, hy, h]
theorem run_build6 {x0 x1 x2 x3 x4 x5 : Operand} {t : TypeId} {v0 v1 v2 v3 v4 v5 v : Value} {w' : World} (ho : o.op = .build t #[(0, x0), (1, x1), (2, x2), (3, x3), (4, x4), (5, x5)]) (h0 : a.eval x0 = v0) (h1 : a.eval x1 = v1) (h2 : a.eval x2 = v2) (h3 : a.eval x3 = v3) (h4 : a.eval x4 = v4) (h5 : a.eval x5 = v5) (h : (Instr.build t #[(0, v0), (1, v1), (2, v2), (3, v3), (4, v4), (5, v5)]).run P w = .ok v w') : (execOp a.eval o).run P w = .ok (.value v) w' := by
  simp [execOp, ho, h0, h1, h2, h3, h4, h5, h]
theorem run_assignOp {x : Operand} {v : Value} (ho : o.op = .assign x) (hx : a.eval x = v) : (execOp a.eval o).run P w = .ok (.value v) w := by
  simp [execOp, ho, hx]
theorem wp_call_of2 {f : FuncId} {args : Array Value} {post : Ending → World → Prop} (he : (execOp a.eval o).run P w = .ok (.enter f args) w) (hc : Calls P f args w post) (h : ∀ e w', post e w' → ∃ v, e = .returned v ∧ K (a.put o.dst v) w') : o.wp P a w K Q := wp_call_of he hc h
end
theorem run_empty {o : Oper} {a : Act} (ho : o.op = .buildSlice 39 0 #[]) (w : World) : (execOp a.eval o).run Tryd.prog w = .ok (.value (.slice (some ⟨w.heap.size, 0, none⟩) 0 0)) (w.alloc (.cells #[] 3)) := by
  simp [execOp, ho, Instr.buildSlice, go_sem]
theorem build_state (vb vn vc cb cc rb rn rc tb pb : Nat) (z : Nat) (fq : Int) (w : World) : (Instr.build 69 #[(0, .slice (some ⟨vb, 0, none⟩) vn vc), (1, .slice (some ⟨cb, 0, none⟩) 8 cc), (2, .slice (some ⟨rb, 0, none⟩) rn rc), (3, .slice (some ⟨tb, 0, none⟩) z z), (4, .slice (some ⟨pb, 0, none⟩) z z), (5, .int .i64 fq)]).run Tryd.prog w = .ok (.agg #[.slice (some ⟨vb, 0, none⟩) vn vc, .slice (some ⟨cb, 0, none⟩) 8 cc, .slice (some ⟨rb, 0, none⟩) rn rc, .slice (some ⟨tb, 0, none⟩) z z, .slice (some ⟨pb, 0, none⟩) z z, .int .i64 fq]) w := by kernel_rfl
theorem box_state (vb vn vc cb cc rb rn rc tb pb : Nat) (z : Nat) (fq : Int) (w : World) : (Instr.box 69 (.agg #[.slice (some ⟨vb, 0, none⟩) vn vc, .slice (some ⟨cb, 0, none⟩) 8 cc, .slice (some ⟨rb, 0, none⟩) rn rc, .slice (some ⟨tb, 0, none⟩) z z, .slice (some ⟨pb, 0, none⟩) z z, .int .i64 fq])).run Tryd.prog w = .ok (.pointer (some ⟨w.heap.size, 0, none⟩)) (w.alloc (.cells #[.slice (some ⟨vb, 0, none⟩) vn vc, .slice (some ⟨cb, 0, none⟩) 8 cc, .slice (some ⟨rb, 0, none⟩) rn rc, .slice (some ⟨tb, 0, none⟩) z z, .slice (some ⟨pb, 0, none⟩) z z, .int .i64 fq] 69)) := by
  simp [Instr.box, go_sem]
theorem min_5000 (fuel : Int) (w : World) : Calls Tryd.prog 38 #[.int .i64 fuel, .int .i64 5000] w fun e w' => e = .returned (.int .i64 (min fuel 5000)) ∧ w' = w := by
  by_cases h : fuel < 5000
  · have e : min fuel 5000 = fuel := by omega
    rw [e]
    go_enter Tryd.func38, Tryd.ntmps38
    go_wp2
    go_ret
    exact ⟨rfl, rfl⟩
  · have e : min fuel 5000 = 5000 := by omega
    rw [e]
    go_enter Tryd.func38, Tryd.ntmps38
    go_wp2
    go_ret
    exact ⟨rfl, rfl⟩
theorem ReadsIn.later {w w' : World} {lo rb : Nat} {rv : Value} {l : List Int} (h : ReadsIn w lo rv rb l) (hb : Below w.heap.size w w') : ReadsIn w' lo rv rb l := by
  have h2 := h
  obtain ⟨_, _, _, _, _, _, ⟨c, hc⟩, _⟩ := h2
  exact h.moved (hb.block _ (Array.getElem?_eq_some_iff.1 hc).1)
theorem ReadsAt.keep2 {W0 w : World} {v : Value} {l : List Int} (h : ReadsAt W0 v l) (hb : Below W0.heap.size W0 w) : ReadsAt w v l := h.keep hb
/-- The parts of a run that begins. -/
structure NewParts (W0 w : World) (vn rn : Nat) (reads : List Int) (vb cb rb rc tb pb : Nat) : Prop where
  vals : OwnInts w W0.heap.size (.slice (some ⟨vb, 0, none⟩) vn vn) (listN vn (fun _ => 0))
  cells : OwnInts w W0.heap.size (.slice (some ⟨cb, 0, none⟩) 8 8) (listN 8 (fun _ => 0))
  reads : ReadsIn w W0.heap.size (.slice (some ⟨rb, 0, none⟩) rn rc) rb reads
  told : OwnInts w W0.heap.size (.slice (some ⟨tb, 0, none⟩) 0 0) []
  path : OwnInts w W0.heap.size (.slice (some ⟨pb, 0, none⟩) 0 0) []
  d1 : vb ≠ cb
  d2 : vb ≠ rb
  d3 : vb ≠ tb
  d4 : vb ≠ pb
  d5 : cb ≠ rb
  d6 : cb ≠ tb
  d7 : cb ≠ pb
  d8 : rb ≠ tb
  d9 : rb ≠ pb
  d10 : tb ≠ pb
theorem NewParts.later {W0 w w' : World} {vn rn : Nat} {reads : List Int} {vb cb rb rc tb pb : Nat} (h : NewParts W0 w vn rn reads vb cb rb rc tb pb) (hb : Below w.heap.size w w') : NewParts W0 w' vn rn reads vb cb rb rc tb pb :=
  ⟨h.vals.keep hb, h.cells.keep hb, h.reads.later hb, h.told.keep hb, h.path.keep hb, h.d1, h.d2, h.d3, h.d4, h.d5, h.d6, h.d7, h.d8, h.d9, h.d10⟩
theorem NewParts.begins {W0 w : World} {vn rn fq : Nat} {reads : List Int} {vb cb rb rc tb pb : Nat} (h : NewParts W0 w vn rn reads vb cb rb rc tb pb) (hS : Below W0.heap.size W0 w) (hrn : reads.length = rn) :
    SIs W0 (w.alloc (.cells #[.slice (some ⟨vb, 0, none⟩) vn vn, .slice (some ⟨cb, 0, none⟩) 8 8, .slice (some ⟨rb, 0, none⟩) rn rc, .slice (some ⟨tb, 0, none⟩) 0 0, .slice (some ⟨pb, 0, none⟩) 0 0, .int .i64 (fq : Int)] 69)) w.heap.size vn ⟨fun _ => 0, fun _ => 0, reads, [], [], fq⟩ := by
  have hb := Bel.alloc w (.cells #[.slice (some ⟨vb, 0, none⟩) vn vn, .slice (some ⟨cb, 0, none⟩) 8 8, .slice (some ⟨rb, 0, none⟩) rn rc, .slice (some ⟨tb, 0, none⟩) 0 0, .slice (some ⟨pb, 0, none⟩) 0 0, .int .i64 (fq : Int)] 69)
  have h2 := h.later hb
  exact ⟨vb, vn, cb, 8, .slice (some ⟨rb, 0, none⟩) rn rc, rb, tb, 0, pb, 0, World.alloc_heap_new w _, h2.vals, h2.cells, h2.reads, h2.told, h2.path, h.d1, h.d2, h.d3, h.d4, h.d5, h.d6, h.d7, h.d8, h.d9, h.d10, Bel.after hS hb, hS.size⟩
/-- What is left to read is copied. -/
theorem append_reads {W0 w : World} {g rn rcap : Nat} {ra : Option Addr} {reads : List Int} (hg : OwnInts w W0.heap.size (.slice (some ⟨g, 0, none⟩) 0 0) []) (hr : ReadsAt w (.slice ra rn rcap) reads) (hlo : W0.heap.size ≤ w.heap.size) (hrn : reads.length = rn) (hrl : rn ≤ 2000000) (wq : World) (hwq : wq = w) {ty : TypeId} :
    ∃ v w2, (Builtin.append_ #[39, 39] ty #[.slice (some ⟨g, 0, none⟩) 0 0, .slice ra rn rcap]).run Tryd.prog wq = .ok v w2 ∧ Below w.heap.size w w2 ∧ ∃ g2 cap2, v = .slice (some ⟨g2, 0, none⟩) rn cap2 ∧ ReadsIn w2 W0.heap.size (.slice (some ⟨g2, 0, none⟩) rn cap2) g2 reads ∧ (g2 = g ∨ w.heap.size ≤ g2) := by
  subst hwq
  obtain ⟨i0, hi, hz0, hz1, hz2⟩ := info_parts info_int
  by_cases h0 : rn = 0
  · subst h0
    have hnil : reads = [] := List.eq_nil_of_length_eq_zero hrn
    subst hnil
    refine ⟨_, wq, ?_, Below.refl _ _, g, 0, rfl, ⟨0, 0, rfl, by simp, by omega, own_lo hg, hg.heapOf, fun i hi => by simp at hi⟩, .inl rfl⟩
    cases ra with
    | none => simp [Builtin.append_, run_underlying Tryd.underlying39, sizeOf, typeInfo, hi, Builtin.lenOf, Builtin.firstCells, go_sem]
    | some ad => simp [Builtin.append_, run_underlying Tryd.underlying39, sizeOf, typeInfo, hi, Builtin.lenOf, Builtin.firstCells, go_sem]
  · obtain ⟨a, cap, e, h1, h2, h3⟩ := hr
    rw [hrn] at e h3
    obtain ⟨b, off, rfl, hc⟩ := h3 (by omega)
    simp at e
    obtain ⟨rfl, rfl⟩ := e
    have hmx : 100000000 ≤ maxLen := by decide
    have hmm : maxLen ≤ 9223372036854775807 := by decide
    obtain ⟨v', w', hrun, hown, hgr⟩ := run_append_arg_grows (P := Tryd.prog) wq 39 ty 3 i0 (.int .i64 0) 1 8 Tryd.underlying39 hi hz0 hz1 hz2 rfl (by decide) ⟨g, 0, none⟩ 0 0 [] rfl (fun j u h => by simp at h) ⟨b, off, none⟩ rn rcap (reads.map (fun x => Value.int .i64 x)) (by simp [hrn]) (fun j u hj => by
      have hjl : j < rn := by
        have := (List.getElem?_eq_some_iff.1 hj).1
        simpa [hrn] using this
      have e : (⟨b, off, none⟩ : Addr).add j = ⟨b, off + j, none⟩ := by unfold Addr.add; split <;> simp_all
      rw [e, hc j hjl]
      have hjr : j < reads.length := by omega
      rw [List.getElem?_map] at hj
      simp [List.getD, hjr] at hj ⊢
      exact hj) (by omega) (by omega) (by omega)
    rcases hown.2 with ⟨hv, hz⟩ | ⟨g2, cap2, cur, hv, hl2, hh, hc1, hc2, hc3, hc4⟩
    · simp at hz
      omega
    · have hb : Below wq.heap.size wq w' := (Below.refl wq.heap.size wq).grown hgr (Nat.le_refl _) (fun j ej => by cases ej)
      subst hv
      refine ⟨_, w', hrun, hb, g2, cap2, by rw [Nat.zero_add], ⟨0, cap2, by rw [hrn], by omega, by omega, by omega, ⟨_, hh⟩, fun i hi => ?_⟩, .inr hl2⟩
      have hown2 : OwnInts w' wq.heap.size (.slice (some ⟨g2, 0, none⟩) rn cap2) reads := by
        unfold OwnInts
        rw [hrn]
        rw [Nat.zero_add, List.nil_append] at hown
        exact hown
      rw [Nat.zero_add]
      exact hown2.cellAt (by omega)

def pairOk (i k : Nat) : Bool := (i == 1 || i == 2 || i == 3 || i == 5 || i == 6 || i == 7) && (k == 1 || k == 2 || k == 3 || k == 5 || k == 6 || k == 7) && !((i == 3 && k == 5) || (i == 5 && k == 3))
def DN (i : Nat) (v : Value) (k : Nat) (u : Value) : Prop := pairOk i k = true → v.ownBlock ≠ u.ownBlock
def ops_l6New : Array Oper := #[{ dst := some 7, op := Op.move (Operand.tmp 0), type := 3, pos := "l06_run.go:93", after := #[], guard := none }, { dst := some 8, op := Op.makeSlice 39 (Operand.tmp 7) (Operand.tmp 7), type := 39, pos := "l06_run.go:93", after := #[{ on := 0, ground := Ground.data }, { on := 0, ground := Ground.data }], guard := none }, { dst := some 9, op := Op.makeSlice 39 (Operand.const (Value.int IntKind.i64 8)) (Operand.const (Value.int IntKind.i64 8)), type := 39, pos := "l06_run.go:93", after := #[], guard := none }, { dst := some 10, op := Op.buildSlice 39 0 #[], type := 39, pos := "l06_run.go:93", after := #[], guard := none }, { dst := some 11, op := Op.move (Operand.tmp 1), type := 39, pos := "l06_run.go:93", after := #[], guard := none }, { dst := some 12, op := Op.call { callee := Callee.builtin Builtin.append, args := #[Operand.tmp 10, Operand.tmp 11], argTypes := #[39, 39] }, type := 39, pos := "l06_run.go:93", after := #[{ on := 3, ground := Ground.data }, { on := 4, ground := Ground.data }], guard := none }, { dst := some 13, op := Op.buildSlice 39 0 #[], type := 39, pos := "l06_run.go:93", after := #[], guard := none }, { dst := some 14, op := Op.buildSlice 39 0 #[], type := 39, pos := "l06_run.go:93", after := #[], guard := none }, { dst := some 15, op := Op.move (Operand.tmp 2), type := 3, pos := "l06_run.go:93", after := #[], guard := none }, { dst := some 16, op := Op.call { callee := Callee.value (Operand.func 38), args := #[Operand.tmp 15, Operand.const (Value.int IntKind.i64 5000)], argTypes := #[3, 3] }, type := 3, pos := "l06_run.go:93", after := #[{ on := 8, ground := Ground.data }, { on := 5, ground := Ground.chain }], guard := none }, { dst := some 17, op := Op.build 69 #[(0, Operand.tmp 8), (1, Operand.tmp 9), (2, Operand.tmp 12), (3, Operand.tmp 13), (4, Operand.tmp 14), (5, Operand.tmp 16)], type := 69, pos := "l06_run.go:93", after := #[{ on := 1, ground := Ground.data }, { on := 2, ground := Ground.data }, { on := 5, ground := Ground.data }, { on := 6, ground := Ground.data }, { on := 7, ground := Ground.data }, { on := 9, ground := Ground.data }], guard := none }, { dst := some 18, op := Op.box 69 (Operand.tmp 17), type := 63, pos := "l06_run.go:93", after := #[{ on := 10, ground := Ground.data }], guard := none }, { dst := some 6, op := Op.assign (Operand.tmp 18), type := 63, pos := "l06_run.go:93", after := #[{ on := 11, ground := Ground.data }, { on := 9, ground := Ground.chain }, { on := 0, ground := Ground.phase }, { on := 1, ground := Ground.phase }, { on := 2, ground := Ground.phase }, { on := 3, ground := Ground.phase }, { on := 4, ground := Ground.phase }, { on := 5, ground := Ground.phase }, { on := 6, ground := Ground.phase }, { on := 7, ground := Ground.phase }, { on := 8, ground := Ground.phase }, { on := 9, ground := Ground.phase }, { on := 10, ground := Ground.phase }, { on := 11, ground := Ground.phase }], guard := none }]
def TL_new (W0 : World) (vn rn fq : Nat) (reads : List Int) (ra : Option Addr) (rcap : Nat) (fuel : Int) : List (Value → World → Prop) := [(fun v w => v = .int .i64 (vn : Int)), (fun v w => ∃ g, v = .slice (some ⟨g, 0, none⟩) vn vn ∧ OwnInts w W0.heap.size (.slice (some ⟨g, 0, none⟩) vn vn) (listN vn (fun _ => 0))), (fun v w => ∃ g, v = .slice (some ⟨g, 0, none⟩) 8 8 ∧ OwnInts w W0.heap.size (.slice (some ⟨g, 0, none⟩) 8 8) (listN 8 (fun _ => 0))), (fun v w => ∃ g, v = .slice (some ⟨g, 0, none⟩) 0 0 ∧ OwnInts w W0.heap.size (.slice (some ⟨g, 0, none⟩) 0 0) []), (fun v w => v = .slice ra rn rcap), (fun v w => ∃ g cap, v = .slice (some ⟨g, 0, none⟩) rn cap ∧ ReadsIn w W0.heap.size (.slice (some ⟨g, 0, none⟩) rn cap) g reads), (fun v w => ∃ g, v = .slice (some ⟨g, 0, none⟩) 0 0 ∧ OwnInts w W0.heap.size (.slice (some ⟨g, 0, none⟩) 0 0) []), (fun v w => ∃ g, v = .slice (some ⟨g, 0, none⟩) 0 0 ∧ OwnInts w W0.heap.size (.slice (some ⟨g, 0, none⟩) 0 0) []), (fun v w => v = .int .i64 fuel), (fun v w => v = .int .i64 (fq : Int)), (fun v w => ∃ vb cb rb rc tb pb, v = .agg #[.slice (some ⟨vb, 0, none⟩) vn vn, .slice (some ⟨cb, 0, none⟩) 8 8, .slice (some ⟨rb, 0, none⟩) rn rc, .slice (some ⟨tb, 0, none⟩) 0 0, .slice (some ⟨pb, 0, none⟩) 0 0, .int .i64 (fq : Int)] ∧ NewParts W0 w vn rn reads vb cb rb rc tb pb), (fun v w => ∃ P, v = .pointer (some ⟨P, 0, none⟩) ∧ SIs W0 w P vn ⟨fun _ => 0, fun _ => 0, reads, [], [], fq⟩)]
def TN (W0 : World) (vn rn fq : Nat) (reads : List Int) (ra : Option Addr) (rcap : Nat) (fuel : Int) (j : Nat) (v : Value) (w : World) : Prop := ((TL_new W0 vn rn fq reads ra rcap fuel).getD j (fun _ _ => True)) v w
theorem TN_stab (W0 : World) (vn rn fq : Nat) (reads : List Int) (ra : Option Addr) (rcap : Nat) (fuel : Int) : ∀ j v w w', TN W0 vn rn fq reads ra rcap fuel j v w → Below w.heap.size w w' → TN W0 vn rn fq reads ra rcap fuel j v w' := by
  intro j v w w' h hf
  by_cases hj : j < 12
  · have hj' : j = 0 ∨ j = 1 ∨ j = 2 ∨ j = 3 ∨ j = 4 ∨ j = 5 ∨ j = 6 ∨ j = 7 ∨ j = 8 ∨ j = 9 ∨ j = 10 ∨ j = 11 := by omega
    rcases hj' with rfl | rfl | rfl | rfl | rfl | rfl | rfl | rfl | rfl | rfl | rfl | rfl
    · exact h
    · obtain ⟨g, h1, h2⟩ := h
      exact ⟨g, h1, h2.keep hf⟩
    · obtain ⟨g, h1, h2⟩ := h
      exact ⟨g, h1, h2.keep hf⟩
    · obtain ⟨g, h1, h2⟩ := h
      exact ⟨g, h1, h2.keep hf⟩
    · exact h
    · obtain ⟨g, c, h1, h2⟩ := h
      exact ⟨g, c, h1, h2.later hf⟩
    · obtain ⟨g, h1, h2⟩ := h
      exact ⟨g, h1, h2.keep hf⟩
    · obtain ⟨g, h1, h2⟩ := h
      exact ⟨g, h1, h2.keep hf⟩
    · exact h
    · exact h
    · obtain ⟨vb, cb, rb, rc, tb, pb, h1, h2⟩ := h
      exact ⟨vb, cb, rb, rc, tb, pb, h1, h2.later hf⟩
    · obtain ⟨P, h1, h2⟩ := h
      exact ⟨P, h1, h2.later hf⟩
  · unfold TN at h ⊢
    have hlen : (TL_new W0 vn rn fq reads ra rcap fuel).length = 12 := rfl
    rw [List.getD_eq_getElem?_getD, List.getElem?_eq_none (by omega)]
    trivial
theorem ob_of {g g' n n' c c' : Nat} (h : (Value.slice (some ⟨g, 0, none⟩) n c).ownBlock ≠ (Value.slice (some ⟨g', 0, none⟩) n' c').ownBlock) : g ≠ g' := fun e => h (by rw [e]; rfl)
theorem pair_left {i k : Nat} (h : pairOk i k = true) : (i = 1 ∨ i = 2 ∨ i = 3 ∨ i = 5 ∨ i = 6 ∨ i = 7) ∧ (k = 1 ∨ k = 2 ∨ k = 3 ∨ k = 5 ∨ k = 6 ∨ k = 7) := by
  simp [pairOk] at h
  omega
section
variable {W0 : World} {vn rn fq : Nat} {reads : List Int} {ra : Option Addr} {rcap : Nat} {fuel : Int}
theorem TN_lt {k : Nat} {u : Value} {w : World} (hk : k = 1 ∨ k = 2 ∨ k = 3 ∨ k = 5 ∨ k = 6 ∨ k = 7) (h : TN W0 vn rn fq reads ra rcap fuel k u w) : ∃ g, u.ownBlock = some g ∧ g < w.heap.size := by
  rcases hk with rfl | rfl | rfl | rfl | rfl | rfl
  · obtain ⟨g, rfl, h⟩ := h
    exact ⟨g, rfl, (World.ownsRow.lt h g rfl).2⟩
  · obtain ⟨g, rfl, h⟩ := h
    exact ⟨g, rfl, (World.ownsRow.lt h g rfl).2⟩
  · obtain ⟨g, rfl, h⟩ := h
    exact ⟨g, rfl, (World.ownsRow.lt h g rfl).2⟩
  · obtain ⟨g, c, rfl, h⟩ := h
    obtain ⟨_, _, _, _, _, _, ⟨c, hc⟩, _⟩ := h
    exact ⟨g, rfl, (Array.getElem?_eq_some_iff.1 hc).1⟩
  · obtain ⟨g, rfl, h⟩ := h
    exact ⟨g, rfl, (World.ownsRow.lt h g rfl).2⟩
  · obtain ⟨g, rfl, h⟩ := h
    exact ⟨g, rfl, (World.ownsRow.lt h g rfl).2⟩
theorem dNew {j g0 : Nat} {v : Value} {w : World} {X : Nat → Value → Prop} (hv : v.ownBlock = some g0) (hg0 : w.heap.size ≤ g0) : ∀ k u, k < 12 → k ≠ j → TN W0 vn rn fq reads ra rcap fuel k u w → X k u → DN j v k u ∧ DN k u j v := by
  intro k u _ _ hT _
  refine ⟨fun h => ?_, fun h => ?_⟩
  · obtain ⟨g, e, hl⟩ := TN_lt (pair_left h).2 hT
    rw [hv, e]
    intro e2
    cases e2
    omega
  · obtain ⟨g, e, hl⟩ := TN_lt (pair_left h).1 hT
    rw [hv, e]
    intro e2
    cases e2
    omega
theorem dNone {j : Nat} {v : Value} {w : World} {X : Nat → Value → Prop} (hj : (j == 1 || j == 2 || j == 3 || j == 5 || j == 6 || j == 7) = false) : ∀ k u, k < 12 → k ≠ j → TN W0 vn rn fq reads ra rcap fuel k u w → X k u → DN j v k u ∧ DN k u j v := by
  intro k u _ _ _ _
  simp at hj
  refine ⟨fun h => ?_, fun h => ?_⟩
  · have := (pair_left h).1
    omega
  · have := (pair_left h).2
    omega
theorem dFive {g n c k : Nat} {u x : Value} (hk5 : k ≠ 5) (hx : x = .slice (some ⟨g, 0, none⟩) 0 0) (h : 3 ≠ k → DN 3 x k u) : DN 5 (.slice (some ⟨g, 0, none⟩) n c) k u ∧ DN k u 5 (.slice (some ⟨g, 0, none⟩) n c) := by
  subst hx
  refine ⟨fun hp => ?_, fun hp => ?_⟩
  · have h1 := (pair_left hp).2
    have hk : k ≠ 3 := fun e => by subst e; simp [pairOk] at hp
    exact h (fun e => hk e.symm) (by simp [pairOk]; omega)
  · have h1 := (pair_left hp).1
    have hk : k ≠ 3 := fun e => by subst e; simp [pairOk] at hp
    exact fun e => h (fun e => hk e.symm) (by simp [pairOk]; omega) e.symm
end

theorem ops_l6New_acyc : ∀ (i : Nat) (o : Oper), ops_l6New[i]? = some o → ∀ e ∈ o.after, e.on < i := by
  have h : (List.range 13).all (fun i => match ops_l6New[i]? with | some o => o.after.all (fun e => decide (e.on < i)) | none => true) = true := by kernel_rfl
  intro i o ho e he
  have hi : i < 13 := (Array.getElem?_eq_some_iff.1 ho).1
  have := List.all_eq_true.1 h i (List.mem_range.2 hi)
  rw [ho] at this
  simp only [Array.all_eq_true'] at this
  simpa using this e he
theorem ops_l6New_plain : ∀ (i : Nat) (o : Oper), ops_l6New[i]? = some o → o.guard = none := by
  have h : (List.range 13).all (fun i => match ops_l6New[i]? with | some o => o.guard.isNone | none => true) = true := by kernel_rfl
  intro i o ho
  have hi : i < 13 := (Array.getElem?_eq_some_iff.1 ho).1
  have := List.all_eq_true.1 h i (List.mem_range.2 hi)
  rw [ho] at this
  simpa using this
theorem ops_l6New_all : ∀ li : Array Bool, Closed .any ops_l6New li → (∀ o, ops_l6New[12]? = some o → ∀ e ∈ o.after, Region.binds .any e = true → li.getD e.on false = true) → ∀ j, j < 12 → li.getD j false = true := by
  intro li hc hl
  have hlast : ∀ i, waitsFor .any ops_l6New 12 i = true → li.getD i false = true := fun i hi => by
    obtain ⟨e, he, hb, h2⟩ := waitsFor_spec hi (Array.getElem?_eq_getElem (by decide : 12 < ops_l6New.size))
    rw [← h2]
    exact hl _ (Array.getElem?_eq_getElem (by decide : 12 < ops_l6New.size)) e he hb
  have hback : ∀ j i, j < 12 → li.getD j false = true → waitsFor .any ops_l6New j i = true → li.getD i false = true := fun j i hj hjl hi => by
    have hjs : j < ops_l6New.size := by show j < 13; omega
    obtain ⟨e, he, hb, h2⟩ := waitsFor_spec hi (Array.getElem?_eq_getElem hjs)
    rw [← h2]
    exact hc j _ (Array.getElem?_eq_getElem hjs) hjl e he hb
  have l11 := hlast 11 (by kernel_rfl)
  have l10 := hback 11 10 (by omega) l11 (by kernel_rfl)
  have l1 := hback 10 1 (by omega) l10 (by kernel_rfl)
  have l2 := hback 10 2 (by omega) l10 (by kernel_rfl)
  have l5 := hback 10 5 (by omega) l10 (by kernel_rfl)
  have l6 := hback 10 6 (by omega) l10 (by kernel_rfl)
  have l7 := hback 10 7 (by omega) l10 (by kernel_rfl)
  have l9 := hback 10 9 (by omega) l10 (by kernel_rfl)
  have l0 := hback 1 0 (by omega) l1 (by kernel_rfl)
  have l3 := hback 5 3 (by omega) l5 (by kernel_rfl)
  have l4 := hback 5 4 (by omega) l5 (by kernel_rfl)
  have l8 := hback 9 8 (by omega) l9 (by kernel_rfl)
  intro j hj
  have hj' : j = 0 ∨ j = 1 ∨ j = 2 ∨ j = 3 ∨ j = 4 ∨ j = 5 ∨ j = 6 ∨ j = 7 ∨ j = 8 ∨ j = 9 ∨ j = 10 ∨ j = 11 := by omega
  rcases hj' with rfl | rfl | rfl | rfl | rfl | rfl | rfl | rfl | rfl | rfl | rfl | rfl <;> assumption

set_option maxRecDepth 100000 in
set_option maxHeartbeats 16000000 in
theorem region_l6New (W0 : World) (vn rn fq : Nat) (reads : List Int) (ra : Option Addr) (rcap : Nat) (fuel : Int) (hvn : vn ≤ 80) (hrn : reads.length = rn) (hrl : rn ≤ 2000000) (hfq : min fuel 5000 = (fq : Int)) (hrd : ReadsAt W0 (.slice ra rn rcap) reads) (a0 : Act) (hsz : a0.tmps.size = 19) (h0 : a0.eval (.tmp 0) = .int .i64 (vn : Int)) (h1 : a0.eval (.tmp 1) = .slice ra rn rcap) (h2 : a0.eval (.tmp 2) = .int .i64 fuel) (w0 : World) (hw0 : Below W0.heap.size W0 w0)
    (Q : Exit → Act → World → Prop) (hQ : ∀ (a : Act) (W' : World), a.defers = a0.defers → (∃ P, a.eval (.tmp 6) = .pointer (some ⟨P, 0, none⟩) ∧ SIs W0 W' P vn ⟨fun _ => 0, fun _ => 0, reads, [], [], fq⟩) → Q .normal a W') :
    wpAny Tryd.prog .any ops_l6New Q 13 (Array.replicate 13 false) a0 w0 := by
  refine wpAny_invD (N := 12) (s0 := 7) (d := 6) (a0 := a0) (S := fun w => Below W0.heap.size W0 w) (R := fun w w' => Below w.heap.size w w') (T := TN W0 vn rn fq reads ra rcap fuel) (D := DN) (Post := fun v w => ∃ P, v = .pointer (some ⟨P, 0, none⟩) ∧ SIs W0 w P vn ⟨fun _ => 0, fun _ => 0, reads, [], [], fq⟩)
    rfl (by omega) (by omega) ops_l6New_acyc ops_l6New_plain ops_l6New_all (TN_stab W0 vn rn fq reads ra rcap fuel) ?hop ?hlast ?hQ 13 _ a0 w0 (by simp) ⟨by simp, fun j o ho hj => ?cl, rfl, rfl, fun _ _ _ => rfl, .inl ⟨by simp, hw0, fun j hj hjl => ?nt, fun i k hi hk hik hil hkl => ?np⟩⟩
  case cl =>
    have : (Array.replicate 13 false).getD j false = false := by simp [Array.getD]
    rw [this] at hj
    cases hj
  case nt =>
    have : (Array.replicate 13 false).getD j false = false := by simp [Array.getD]
    rw [this] at hjl
    cases hjl
  case np =>
    have : (Array.replicate 13 false).getD i false = false := by simp [Array.getD]
    rw [this] at hil
    cases hil
  case hQ =>
    intro a w e1 e2 e3 hP
    exact hQ a w e2 hP
  case hlast =>
    intro o ho a w es eo hS hT K hK
    obtain ⟨_, rfl⟩ := Array.getElem?_eq_some_iff.1 ho
    obtain ⟨P, d0, hs⟩ := hT 11 (by omega)
    exact wp_value_of (v := .pointer (some ⟨P, 0, none⟩)) (w' := w) (run_assignOp rfl d0) (hK _ _ ⟨P, rfl, hs⟩)
  case hop =>
    intro j hj o ho a w es eo hS hT hDD K hK
    have ev : ∀ t : Nat, t ≠ 6 → t < 7 → a.eval (.tmp t) = a0.eval (.tmp t) := fun t ht6 ht => by
      show a.tmps.getD t undef = a0.tmps.getD t undef
      rw [Array.getD_eq_getD_getElem?, Array.getD_eq_getD_getElem?, eo t ht6 (.inl ht)]
    have hj' : j = 0 ∨ j = 1 ∨ j = 2 ∨ j = 3 ∨ j = 4 ∨ j = 5 ∨ j = 6 ∨ j = 7 ∨ j = 8 ∨ j = 9 ∨ j = 10 ∨ j = 11 := by omega
    rcases hj' with rfl | rfl | rfl | rfl | rfl | rfl | rfl | rfl | rfl | rfl | rfl | rfl
    · obtain ⟨_, rfl⟩ := Array.getElem?_eq_some_iff.1 ho
      exact wp_moveN rfl ((ev 0 (by omega) (by omega)).trans h0) (hK _ _ (Below.refl _ _) hS rfl (dNone rfl))
    · obtain ⟨_, rfl⟩ := Array.getElem?_eq_some_iff.1 ho
      have d0 := hT 0 (by omega) (by kernel_rfl)
      exact wp_value_of (run_makeOp rfl d0 d0 (make_ints vn (by omega) w)) (hK _ _ (Bel.alloc w _) (Bel.after hS (Bel.alloc w _)) ⟨w.heap.size, rfl, own_made vn (by omega) hS.size⟩ (dNew rfl (Nat.le_refl _)))
    · obtain ⟨_, rfl⟩ := Array.getElem?_eq_some_iff.1 ho
      exact wp_value_of (run_makeOp rfl rfl rfl (make_ints 8 (by omega) w)) (hK _ _ (Bel.alloc w _) (Bel.after hS (Bel.alloc w _)) ⟨w.heap.size, rfl, own_made 8 (by omega) hS.size⟩ (dNew rfl (Nat.le_refl _)))
    · obtain ⟨_, rfl⟩ := Array.getElem?_eq_some_iff.1 ho
      exact wp_value_of (run_empty rfl w) (hK _ _ (Bel.alloc w _) (Bel.after hS (Bel.alloc w _)) ⟨w.heap.size, rfl, ownInts_nil (by simp) hS.size⟩ (dNew rfl (Nat.le_refl _)))
    · obtain ⟨_, rfl⟩ := Array.getElem?_eq_some_iff.1 ho
      exact wp_moveN rfl ((ev 1 (by omega) (by omega)).trans h1) (hK _ _ (Below.refl _ _) hS rfl (dNone rfl))
    · obtain ⟨_, rfl⟩ := Array.getElem?_eq_some_iff.1 ho
      obtain ⟨g, d0, hg⟩ := hT 3 (by omega) (by kernel_rfl)
      have d1 := hT 4 (by omega) (by kernel_rfl)
      obtain ⟨v, w2, hrun, hb2, g2, cap2, rfl, hrd, hat⟩ := append_reads hg (hrd.keep2 hS) hS.size hrn hrl w rfl
      refine wp_value_of (run_appendOp rfl d0 d1 hrun) (hK _ _ hb2 (Bel.after hS hb2) ⟨g2, cap2, rfl, hrd⟩ ?_)
      intro k u hk hkj hTk hdep
      rcases hat with rfl | hat
      · exact dFive hkj d0 (hdep 3 (by omega) (by kernel_rfl))
      · exact dNew (X := fun _ _ => True) rfl hat k u hk hkj hTk trivial
    · obtain ⟨_, rfl⟩ := Array.getElem?_eq_some_iff.1 ho
      exact wp_value_of (run_empty rfl w) (hK _ _ (Bel.alloc w _) (Bel.after hS (Bel.alloc w _)) ⟨w.heap.size, rfl, ownInts_nil (by simp) hS.size⟩ (dNew rfl (Nat.le_refl _)))
    · obtain ⟨_, rfl⟩ := Array.getElem?_eq_some_iff.1 ho
      exact wp_value_of (run_empty rfl w) (hK _ _ (Bel.alloc w _) (Bel.after hS (Bel.alloc w _)) ⟨w.heap.size, rfl, ownInts_nil (by simp) hS.size⟩ (dNew rfl (Nat.le_refl _)))
    · obtain ⟨_, rfl⟩ := Array.getElem?_eq_some_iff.1 ho
      exact wp_moveN rfl ((ev 2 (by omega) (by omega)).trans h2) (hK _ _ (Below.refl _ _) hS rfl (dNone rfl))
    · obtain ⟨_, rfl⟩ := Array.getElem?_eq_some_iff.1 ho
      have d0 := hT 8 (by omega) (by kernel_rfl)
      refine wp_call_of (f := 38) (args := #[.int .i64 fuel, .int .i64 5000]) (runCall2 (y := .const (.int .i64 5000)) rfl d0 rfl (enters_of Tryd.func38 (by kernel_rfl) rfl) _) (min_5000 fuel w) ?_
      rintro e w2 ⟨rfl, rfl⟩
      rw [hfq]
      exact ⟨_, rfl, hK _ _ (Below.refl _ _) hS rfl (dNone rfl)⟩
    · obtain ⟨_, rfl⟩ := Array.getElem?_eq_some_iff.1 ho
      obtain ⟨vb, d1, o1⟩ := hT 1 (by omega) (by kernel_rfl)
      obtain ⟨cb, d2, o2⟩ := hT 2 (by omega) (by kernel_rfl)
      obtain ⟨rb, rc, d5, o5⟩ := hT 5 (by omega) (by kernel_rfl)
      obtain ⟨tb, d6, o6⟩ := hT 6 (by omega) (by kernel_rfl)
      obtain ⟨pb, d7, o7⟩ := hT 7 (by omega) (by kernel_rfl)
      have d9 := hT 9 (by omega) (by kernel_rfl)
      have hne : ∀ i k, i < 12 → k < 12 → i ≠ k → pairOk i k = true → depOn .any ops_l6New 10 i = true → depOn .any ops_l6New 10 k = true → (a.eval (.tmp (7 + i))).ownBlock ≠ (a.eval (.tmp (7 + k))).ownBlock := fun i k a1 a2 a3 a4 a5 a6 => hDD i k a1 a2 a3 a5 a6 a4
      have q12 := hne 1 2 (by omega) (by omega) (by omega) rfl (by kernel_rfl) (by kernel_rfl)
      have q15 := hne 1 5 (by omega) (by omega) (by omega) rfl (by kernel_rfl) (by kernel_rfl)
      have q16 := hne 1 6 (by omega) (by omega) (by omega) rfl (by kernel_rfl) (by kernel_rfl)
      have q17 := hne 1 7 (by omega) (by omega) (by omega) rfl (by kernel_rfl) (by kernel_rfl)
      have q25 := hne 2 5 (by omega) (by omega) (by omega) rfl (by kernel_rfl) (by kernel_rfl)
      have q26 := hne 2 6 (by omega) (by omega) (by omega) rfl (by kernel_rfl) (by kernel_rfl)
      have q27 := hne 2 7 (by omega) (by omega) (by omega) rfl (by kernel_rfl) (by kernel_rfl)
      have q56 := hne 5 6 (by omega) (by omega) (by omega) rfl (by kernel_rfl) (by kernel_rfl)
      have q57 := hne 5 7 (by omega) (by omega) (by omega) rfl (by kernel_rfl) (by kernel_rfl)
      have q67 := hne 6 7 (by omega) (by omega) (by omega) rfl (by kernel_rfl) (by kernel_rfl)
      rw [d1, d2] at q12
      rw [d1, d5] at q15
      rw [d1, d6] at q16
      rw [d1, d7] at q17
      rw [d2, d5] at q25
      rw [d2, d6] at q26
      rw [d2, d7] at q27
      rw [d5, d6] at q56
      rw [d5, d7] at q57
      rw [d6, d7] at q67
      exact wp_value_of (run_build6 rfl d1 d2 d5 d6 d7 d9 (build_state _ _ _ _ _ _ _ _ _ _ _ _ w)) (hK _ _ (Below.refl _ _) hS ⟨vb, cb, rb, rc, tb, pb, rfl, o1, o2, o5, o6, o7, ob_of q12, ob_of q15, ob_of q16, ob_of q17, ob_of q25, ob_of q26, ob_of q27, ob_of q56, ob_of q57, ob_of q67⟩ (dNone rfl))
    · obtain ⟨_, rfl⟩ := Array.getElem?_eq_some_iff.1 ho
      obtain ⟨vb, cb, rb, rc, tb, pb, d0, hn⟩ := hT 10 (by omega) (by kernel_rfl)
      exact wp_value_of (run_boxOp rfl d0 (box_state _ _ _ _ _ _ _ _ _ _ _ _ w)) (hK _ _ (Bel.alloc w _) (Bel.after hS (Bel.alloc w _)) ⟨w.heap.size, rfl, hn.begins hS hrn⟩ (dNone rfl))

/-- A run of the model is given. -/
def GivesS (w : World) (vn : Nat) (s : RunS) (e : Ending) (w' : World) : Prop := ∃ P, e = .returned (.pointer (some ⟨P, 0, none⟩)) ∧ SIs w w' P vn s

set_option maxRecDepth 100000 in
set_option maxHeartbeats 4000000 in
theorem l6New_any (vn : Nat) (hvn : vn ≤ 80) (rv : Value) (reads : List Int) (fuel : Int) (hf : 0 ≤ fuel) (hrl : reads.length ≤ 2000000) (w : World) (hr : ReadsAt w rv reads) :
    Calls Tryd.prog 37 #[.int .i64 (vn : Int), rv, .int .i64 fuel] w fun e w' => GivesS w vn (startDo reads fuel) e w' := by
  obtain ⟨ra, rcap, rfl, hr1, hr2, hr3⟩ := id hr
  obtain ⟨rn, HRN⟩ : ∃ n, Hid (reads.length = n) := ⟨_, rfl⟩
  rw [HRN.out] at hr hrl ⊢
  have HRD : Hid (ReadsAt w (.slice ra rn rcap) reads) := hr
  obtain ⟨fq, HFQ⟩ : ∃ fq : Nat, Hid ((min fuel 5000).toNat = fq) := ⟨_, rfl⟩
  have HST : Hid (startDo reads fuel = ⟨fun _ => 0, fun _ => 0, reads, [], [], fq⟩) := by
    show startDo reads fuel = _
    unfold startDo
    rw [HFQ.out]
  rw [HST.out]
  have HFE : Hid (min fuel 5000 = (fq : Int)) := by have := HFQ.out; show min fuel 5000 = (fq : Int); omega
  clear hr hr1 hr2 hr3
  go_enter Tryd.func37, Tryd.ntmps37
  go_wp2_with fail
  refine wp_region_any (by kernel_rfl) ?_
  refine region_l6New w vn rn fq reads ra rcap fuel hvn HRN.out hrl HFE.out HRD.out _ ?_ ?_ ?_ ?_ _ ?_ _ ?_
  · rfl
  · rfl
  · rfl
  · rfl
  · first | exact (Below.refl _ _).drew | exact Below.refl _ _
  · rintro a W' hdf ⟨P, hP, hs⟩
    rename_i Q9 K9 hK9
    simp only [Exit.then]
    refine hK9 _ _ (wp_ret ?_)
    show bodyPost _ _ _ _ _ _
    refine bodyPost_ret (v := .pointer (some ⟨P, 0, none⟩)) ?_ hdf ⟨P, rfl, hs⟩
    rw [← hP]
    exact results_tmp rfl _ _ _
end Go.Proofs.YtebcocehdjoafaaDoor
