/- The body of one round: a set is made smaller by that of a block ahead. -/
import Derived.Test.YtlmkipmkanhcfaaTab
import Derived.Test.YtlmkipmkanhcfaaLast
import Derived.RangeFuncBox
namespace Go.Proofs.Ytlmkipmkanhcfaa
open Go.ChangeShapes Go.WideShapes Go.ChangeAt Go.RowKit Go.Shelf
set_option linter.unusedVariables false

/-- Nothing that lay turned but block X. -/
structure FrX (X : Nat) (w w' : World) : Prop where
  size : w.heap.size ≤ w'.heap.size
  block : ∀ k, k < w.heap.size → k ≠ X → w'.heap[k]? = w.heap[k]?
theorem FrX.refl (X : Nat) (w : World) : FrX X w w := ⟨Nat.le_refl _, fun _ _ _ => rfl⟩
theorem FrX.trans {X : Nat} {a b c : World} (h : FrX X a b) (k : FrX X b c) : FrX X a c := ⟨Nat.le_trans h.size k.size, fun i hi hx => (k.block i (Nat.lt_of_lt_of_le hi h.size) hx).trans (h.block i hi hx)⟩
theorem FrX.ofBelow {X : Nat} {a b : World} (h : Below a.heap.size a b) : FrX X a b := ⟨h.size, fun i hi _ => h.block i hi⟩
theorem FrX.set (X : Nat) (w : World) (c : Array Value) : FrX X w (w.setRow X c) := ⟨by simp, fun i _ hx => setRow_other w X i c hx⟩

def opsR : Array Oper := #[{ dst := some 24, op := Op.move (Operand.tmp 9), type := 3, pos := "l04_dom.go:75", after := #[], guard := none }, { dst := some 25, op := Op.move (Operand.tmp 9), type := 3, pos := "l04_dom.go:75", after := #[], guard := none }, { dst := some 26, op := Op.indexAddr 83 (Operand.tmp 5) (Operand.tmp 25), type := 0, pos := "l04_dom.go:75", after := #[{ on := 1, ground := Ground.data }], guard := none }, { dst := some 27, op := Op.load 81 (Operand.tmp 26), type := 81, pos := "l04_dom.go:75", after := #[{ on := 2, ground := Ground.data }], guard := none }, { dst := some 28, op := Op.load 3 (Operand.tmp 8), type := 3, pos := "l04_dom.go:75", after := #[], guard := none }, { dst := some 29, op := Op.indexAddr 83 (Operand.tmp 5) (Operand.tmp 28), type := 0, pos := "l04_dom.go:75", after := #[{ on := 4, ground := Ground.data }], guard := none }, { dst := some 30, op := Op.load 81 (Operand.tmp 29), type := 81, pos := "l04_dom.go:75", after := #[{ on := 5, ground := Ground.data }], guard := none }, { dst := some 31, op := Op.move (Operand.tmp 9), type := 3, pos := "l04_dom.go:75", after := #[], guard := none }, { dst := some 32, op := Op.call { callee := Callee.value (Operand.func 90), args := #[Operand.tmp 30, Operand.tmp 31], argTypes := #[81, 3] }, type := 81, pos := "l04_dom.go:75", after := #[{ on := 6, ground := Ground.data }, { on := 7, ground := Ground.data }], guard := none }, { dst := some 33, op := Op.call { callee := Callee.value (Operand.func 91), args := #[Operand.tmp 27, Operand.tmp 32], argTypes := #[81, 81] }, type := 81, pos := "l04_dom.go:75", after := #[{ on := 3, ground := Ground.data }, { on := 8, ground := Ground.data }, { on := 8, ground := Ground.chain }], guard := none }, { dst := some 34, op := Op.indexAddr 83 (Operand.tmp 5) (Operand.tmp 24), type := 0, pos := "l04_dom.go:75", after := #[{ on := 0, ground := Ground.data }, { on := 0, ground := Ground.phase }, { on := 1, ground := Ground.phase }, { on := 2, ground := Ground.phase }, { on := 3, ground := Ground.phase }, { on := 4, ground := Ground.phase }, { on := 5, ground := Ground.phase }, { on := 6, ground := Ground.phase }, { on := 7, ground := Ground.phase }, { on := 8, ground := Ground.phase }, { on := 9, ground := Ground.phase }], guard := none }, { dst := none, op := Op.store 81 (Operand.tmp 34) (Operand.tmp 33), type := 0, pos := "l04_dom.go:75", after := #[{ on := 10, ground := Ground.data }, { on := 9, ground := Ground.data }, { on := 9, ground := Ground.chain }, { on := 0, ground := Ground.phase }, { on := 1, ground := Ground.phase }, { on := 2, ground := Ground.phase }, { on := 3, ground := Ground.phase }, { on := 4, ground := Ground.phase }, { on := 5, ground := Ground.phase }, { on := 6, ground := Ground.phase }, { on := 7, ground := Ground.phase }, { on := 8, ground := Ground.phase }, { on := 9, ground := Ground.phase }], guard := none }]

theorem run_indexAt_tab {TB sn : Nat} (hs : sn < 16) (W : World) : (Instr.indexAt 83 (.pointer (some ⟨TB, 0, none⟩)) (.int .i64 (sn : Int))).run Try.prog W = .ok (.pointer (some ⟨TB, sn * 16, none⟩)) W := by
  simp [Instr.indexAt, asIntOf, Sem.run_bind, run_underlying Try.underlying83, Instr.sureAddr, Try.sizeOf81, hs, Addr.add]
  intro h; omega
theorem run_call2 {P : Program} {o : Oper} {a : Act} {f : FuncId} {x y : Operand} {ts : Array TypeId} (ho : o.op = Op.call { callee := Callee.value (Operand.func f), args := #[x, y], argTypes := ts }) {u v : Value} (hx : a.eval x = u) (hy : a.eval y = v) (he : ∀ args w, (callFunc f args).run P w = .ok (.enter f args) w) (w : World) : (execOp a.eval o).run P w = .ok (.enter f #[u, v]) w := by
  simp [execOp, ho, resolve, invoke, Act.eval, go_sem, he]
  simp [Act.eval] at hx hy
  simp [hx, hy]
theorem run_loadAt_row {w : World} {B : Nat} {T : Tab} (h : TabAt w B T) {b : Nat} (hb : b < 16) : (Instr.loadAt 81 (.pointer (some ⟨B, b * 16, none⟩))).run Try.prog w = .ok (setV (T b)) w := by
  simp only [Instr.loadAt, Instr.sureAddr, Sem.run_bind, Sem.run_pure, Result.andThen_ok]
  exact run_loadVar_mid w B (b * 16) 81 (rowC (T b)) _ (h.row hb) Try.underlying81 rfl (by rw [rowC_len]; exact info_set)
theorem run_loadAt_int {w : World} {B : Nat} {x : Int} (h : Boxed w B 3 (.int .i64 x)) : (Instr.loadAt 3 (.pointer (some ⟨B, 0, none⟩))).run Try.prog w = .ok (.int .i64 x) w := by
  have := h.cell
  simp [Instr.loadAt, Instr.sureAddr, go_sem, this]
theorem wp_put_row {o : Oper} {a : Act} {w : World} {K : Act → World → Prop} {Q : Exit → Act → World → Prop} (x y : Operand) (ho : o.op = .store 81 x y)
    (B b : Nat) (T : Tab) (f : Nat → Bool) (hb : b < 16) (hx : a.eval x = .pointer (some ⟨B, b * 16, none⟩)) (hy : a.eval y = setV f) (hc : TabAt w B T)
    (h : K (a.put o.dst undef) (w.setRow B (tabC (putT T b f)).toArray)) : o.wp Try.prog a w K Q := by
  have hst := run_storeCells_at (P := Try.prog) B (b * 16) 83 (rowC f) 0 (tabC T).toArray w hc (by rw [rowC_len, List.size_toArray, tabC_len]; omega) (rowC_one f)
  simp only [Nat.add_zero] at hst
  have hsv : (storeVar 81 ⟨B, b * 16, none⟩ (.agg (rowC f).toArray)).run Try.prog w = .ok () (w.setRow B (tabC (putT T b f)).toArray) := by
    have hi := info_set
    cases hq : Try.prog.info? 81 with
    | none => simp [hq] at hi
    | some i =>
      have hs : (rowC f).length = i.size := by simp [hq] at hi; rw [rowC_len]; omega
      have hput := tabC_put T hb f
      simp [storeVar, sizeOf, typeInfo, hq, Value.cells, hs, hst]
      rw [← hs, rowC_len, ← hput]
      simp
  unfold Oper.wp execOp
  simp only [ho, hx, hy, setV, Instr.storeAt, Instr.sureAddr, Sem.run_bind, Sem.run_pure, Result.andThen_ok, hsv]
  exact h

set_option maxRecDepth 100000 in
set_option maxHeartbeats 4000000 in
theorem domBody (TB bB : Nat) (T : Tab) (bn sn : Nat) (hb : bn < 16) (hs : sn < 16) (a : Act) (hsz : a.tmps.size = 37) (h5 : a.eval (.tmp 5) = .pointer (some ⟨TB, 0, none⟩)) (h8 : a.eval (.tmp 8) = .pointer (some ⟨bB, 0, none⟩)) (h9 : a.eval (.tmp 9) = .int .i64 (sn : Int)) (w : World)
    (hT : TabAt w TB T) (hbx : Boxed w bB 3 (.int .i64 (bn : Int))) (Q : Exit → Act → World → Prop) (hQp : ∀ c a w, ¬ Q (.panic c) a w)
    (hQ : ∀ a' W', FrX TB w W' → Below TB w W' → TabAt W' TB (rstep T (bn, sn)) → Q .normal a' W') :
    wpAnyM Try.prog .any opsR Q 11 (fun W => TabAt W TB T ∧ Boxed W bB 3 (.int .i64 (bn : Int))) 12 (Array.replicate 12 false) a w := by
  have hS : TabAt w TB T ∧ Boxed w bB 3 (.int .i64 (bn : Int)) := ⟨hT, hbx⟩
  have hp : ∀ (o : Option Tmp) (v : Value) c a w, Q (.panic c) (a.put o v) w → Q (.panic c) a w := fun o v c a w h => absurd h (hQp _ _ _)
  refine wpAnyM_take (i := 0) (v := .int .i64 (sn : Int)) rfl (by kernel_rfl) (by kernel_rfl) (by kernel_rfl) (by kernel_rfl) (hp _ _) (yields_move rfl rfl h9) hS ?_
  obtain ⟨a1, e1⟩ : ∃ x, a.put opsR[0].dst (.int .i64 (sn : Int)) = x := ⟨_, rfl⟩
  have z1 : a1.tmps.size = 37 := by rw [← e1]; exact put_size.trans hsz
  have g1_5 : a1.eval (.tmp 5) = .pointer (some ⟨TB, 0, none⟩) := by rw [← e1]; exact (put_ne (by decide)).trans h5
  have g1_8 : a1.eval (.tmp 8) = .pointer (some ⟨bB, 0, none⟩) := by rw [← e1]; exact (put_ne (by decide)).trans h8
  have g1_9 : a1.eval (.tmp 9) = .int .i64 (sn : Int) := by rw [← e1]; exact (put_ne (by decide)).trans h9
  have g1_24 : a1.eval (.tmp 24) = .int .i64 (sn : Int) := by rw [← e1]; exact put_eq (by rw [hsz]; decide)
  rw [e1]
  clear e1 hsz h5 h8 h9
  refine wpAnyM_take (i := 1) (v := .int .i64 (sn : Int)) rfl (by kernel_rfl) (by kernel_rfl) (by kernel_rfl) (by kernel_rfl) (hp _ _) (yields_move rfl rfl g1_9) hS ?_
  obtain ⟨a2, e2⟩ : ∃ x, a1.put opsR[1].dst (.int .i64 (sn : Int)) = x := ⟨_, rfl⟩
  have z2 : a2.tmps.size = 37 := by rw [← e2]; exact put_size.trans z1
  have g2_5 : a2.eval (.tmp 5) = .pointer (some ⟨TB, 0, none⟩) := by rw [← e2]; exact (put_ne (by decide)).trans g1_5
  have g2_8 : a2.eval (.tmp 8) = .pointer (some ⟨bB, 0, none⟩) := by rw [← e2]; exact (put_ne (by decide)).trans g1_8
  have g2_9 : a2.eval (.tmp 9) = .int .i64 (sn : Int) := by rw [← e2]; exact (put_ne (by decide)).trans g1_9
  have g2_24 : a2.eval (.tmp 24) = .int .i64 (sn : Int) := by rw [← e2]; exact (put_ne (by decide)).trans g1_24
  have g2_25 : a2.eval (.tmp 25) = .int .i64 (sn : Int) := by rw [← e2]; exact put_eq (by rw [z1]; decide)
  rw [e2]
  clear e2 z1 g1_5 g1_8 g1_9 g1_24
  refine wpAnyM_take (i := 7) (v := .int .i64 (sn : Int)) rfl (by kernel_rfl) (by kernel_rfl) (by kernel_rfl) (by kernel_rfl) (hp _ _) (yields_move rfl rfl g2_9) hS ?_
  obtain ⟨a3, e3⟩ : ∃ x, a2.put opsR[7].dst (.int .i64 (sn : Int)) = x := ⟨_, rfl⟩
  have z3 : a3.tmps.size = 37 := by rw [← e3]; exact put_size.trans z2
  have g3_5 : a3.eval (.tmp 5) = .pointer (some ⟨TB, 0, none⟩) := by rw [← e3]; exact (put_ne (by decide)).trans g2_5
  have g3_8 : a3.eval (.tmp 8) = .pointer (some ⟨bB, 0, none⟩) := by rw [← e3]; exact (put_ne (by decide)).trans g2_8
  have g3_9 : a3.eval (.tmp 9) = .int .i64 (sn : Int) := by rw [← e3]; exact (put_ne (by decide)).trans g2_9
  have g3_24 : a3.eval (.tmp 24) = .int .i64 (sn : Int) := by rw [← e3]; exact (put_ne (by decide)).trans g2_24
  have g3_25 : a3.eval (.tmp 25) = .int .i64 (sn : Int) := by rw [← e3]; exact (put_ne (by decide)).trans g2_25
  have g3_31 : a3.eval (.tmp 31) = .int .i64 (sn : Int) := by rw [← e3]; exact put_eq (by rw [z2]; decide)
  rw [e3]
  clear e3 z2 g2_5 g2_8 g2_9 g2_24 g2_25
  refine wpAnyM_take (i := 4) (v := .int .i64 (bn : Int)) rfl (by kernel_rfl) (by kernel_rfl) (by kernel_rfl) (by kernel_rfl) (hp _ _) (yields_load rfl rfl g3_8 (fun W hW => run_loadAt_int hW.2)) hS ?_
  obtain ⟨a4, e4⟩ : ∃ x, a3.put opsR[4].dst (.int .i64 (bn : Int)) = x := ⟨_, rfl⟩
  have z4 : a4.tmps.size = 37 := by rw [← e4]; exact put_size.trans z3
  have g4_5 : a4.eval (.tmp 5) = .pointer (some ⟨TB, 0, none⟩) := by rw [← e4]; exact (put_ne (by decide)).trans g3_5
  have g4_8 : a4.eval (.tmp 8) = .pointer (some ⟨bB, 0, none⟩) := by rw [← e4]; exact (put_ne (by decide)).trans g3_8
  have g4_9 : a4.eval (.tmp 9) = .int .i64 (sn : Int) := by rw [← e4]; exact (put_ne (by decide)).trans g3_9
  have g4_24 : a4.eval (.tmp 24) = .int .i64 (sn : Int) := by rw [← e4]; exact (put_ne (by decide)).trans g3_24
  have g4_25 : a4.eval (.tmp 25) = .int .i64 (sn : Int) := by rw [← e4]; exact (put_ne (by decide)).trans g3_25
  have g4_31 : a4.eval (.tmp 31) = .int .i64 (sn : Int) := by rw [← e4]; exact (put_ne (by decide)).trans g3_31
  have g4_28 : a4.eval (.tmp 28) = .int .i64 (bn : Int) := by rw [← e4]; exact put_eq (by rw [z3]; decide)
  rw [e4]
  clear e4 z3 g3_5 g3_8 g3_9 g3_24 g3_25 g3_31
  refine wpAnyM_take (i := 2) (v := .pointer (some ⟨TB, sn * 16, none⟩)) rfl (by kernel_rfl) (by kernel_rfl) (by kernel_rfl) (by kernel_rfl) (hp _ _) (yields_index rfl rfl g4_5 g4_25 (fun W _ => run_indexAt_tab hs W)) hS ?_
  obtain ⟨a5, e5⟩ : ∃ x, a4.put opsR[2].dst (.pointer (some ⟨TB, sn * 16, none⟩)) = x := ⟨_, rfl⟩
  have z5 : a5.tmps.size = 37 := by rw [← e5]; exact put_size.trans z4
  have g5_5 : a5.eval (.tmp 5) = .pointer (some ⟨TB, 0, none⟩) := by rw [← e5]; exact (put_ne (by decide)).trans g4_5
  have g5_8 : a5.eval (.tmp 8) = .pointer (some ⟨bB, 0, none⟩) := by rw [← e5]; exact (put_ne (by decide)).trans g4_8
  have g5_9 : a5.eval (.tmp 9) = .int .i64 (sn : Int) := by rw [← e5]; exact (put_ne (by decide)).trans g4_9
  have g5_24 : a5.eval (.tmp 24) = .int .i64 (sn : Int) := by rw [← e5]; exact (put_ne (by decide)).trans g4_24
  have g5_25 : a5.eval (.tmp 25) = .int .i64 (sn : Int) := by rw [← e5]; exact (put_ne (by decide)).trans g4_25
  have g5_31 : a5.eval (.tmp 31) = .int .i64 (sn : Int) := by rw [← e5]; exact (put_ne (by decide)).trans g4_31
  have g5_28 : a5.eval (.tmp 28) = .int .i64 (bn : Int) := by rw [← e5]; exact (put_ne (by decide)).trans g4_28
  have g5_26 : a5.eval (.tmp 26) = .pointer (some ⟨TB, sn * 16, none⟩) := by rw [← e5]; exact put_eq (by rw [z4]; decide)
  rw [e5]
  clear e5 z4 g4_5 g4_8 g4_9 g4_24 g4_25 g4_31 g4_28
  refine wpAnyM_take (i := 5) (v := .pointer (some ⟨TB, bn * 16, none⟩)) rfl (by kernel_rfl) (by kernel_rfl) (by kernel_rfl) (by kernel_rfl) (hp _ _) (yields_index rfl rfl g5_5 g5_28 (fun W _ => run_indexAt_tab hb W)) hS ?_
  obtain ⟨a6, e6⟩ : ∃ x, a5.put opsR[5].dst (.pointer (some ⟨TB, bn * 16, none⟩)) = x := ⟨_, rfl⟩
  have z6 : a6.tmps.size = 37 := by rw [← e6]; exact put_size.trans z5
  have g6_5 : a6.eval (.tmp 5) = .pointer (some ⟨TB, 0, none⟩) := by rw [← e6]; exact (put_ne (by decide)).trans g5_5
  have g6_8 : a6.eval (.tmp 8) = .pointer (some ⟨bB, 0, none⟩) := by rw [← e6]; exact (put_ne (by decide)).trans g5_8
  have g6_9 : a6.eval (.tmp 9) = .int .i64 (sn : Int) := by rw [← e6]; exact (put_ne (by decide)).trans g5_9
  have g6_24 : a6.eval (.tmp 24) = .int .i64 (sn : Int) := by rw [← e6]; exact (put_ne (by decide)).trans g5_24
  have g6_25 : a6.eval (.tmp 25) = .int .i64 (sn : Int) := by rw [← e6]; exact (put_ne (by decide)).trans g5_25
  have g6_31 : a6.eval (.tmp 31) = .int .i64 (sn : Int) := by rw [← e6]; exact (put_ne (by decide)).trans g5_31
  have g6_28 : a6.eval (.tmp 28) = .int .i64 (bn : Int) := by rw [← e6]; exact (put_ne (by decide)).trans g5_28
  have g6_26 : a6.eval (.tmp 26) = .pointer (some ⟨TB, sn * 16, none⟩) := by rw [← e6]; exact (put_ne (by decide)).trans g5_26
  have g6_29 : a6.eval (.tmp 29) = .pointer (some ⟨TB, bn * 16, none⟩) := by rw [← e6]; exact put_eq (by rw [z5]; decide)
  rw [e6]
  clear e6 z5 g5_5 g5_8 g5_9 g5_24 g5_25 g5_31 g5_28 g5_26
  refine wpAnyM_take (i := 3) (v := setV (T sn)) rfl (by kernel_rfl) (by kernel_rfl) (by kernel_rfl) (by kernel_rfl) (hp _ _) (yields_load rfl rfl g6_26 (fun W hW => run_loadAt_row hW.1 hs)) hS ?_
  obtain ⟨a7, e7⟩ : ∃ x, a6.put opsR[3].dst (setV (T sn)) = x := ⟨_, rfl⟩
  have z7 : a7.tmps.size = 37 := by rw [← e7]; exact put_size.trans z6
  have g7_5 : a7.eval (.tmp 5) = .pointer (some ⟨TB, 0, none⟩) := by rw [← e7]; exact (put_ne (by decide)).trans g6_5
  have g7_8 : a7.eval (.tmp 8) = .pointer (some ⟨bB, 0, none⟩) := by rw [← e7]; exact (put_ne (by decide)).trans g6_8
  have g7_9 : a7.eval (.tmp 9) = .int .i64 (sn : Int) := by rw [← e7]; exact (put_ne (by decide)).trans g6_9
  have g7_24 : a7.eval (.tmp 24) = .int .i64 (sn : Int) := by rw [← e7]; exact (put_ne (by decide)).trans g6_24
  have g7_25 : a7.eval (.tmp 25) = .int .i64 (sn : Int) := by rw [← e7]; exact (put_ne (by decide)).trans g6_25
  have g7_31 : a7.eval (.tmp 31) = .int .i64 (sn : Int) := by rw [← e7]; exact (put_ne (by decide)).trans g6_31
  have g7_28 : a7.eval (.tmp 28) = .int .i64 (bn : Int) := by rw [← e7]; exact (put_ne (by decide)).trans g6_28
  have g7_26 : a7.eval (.tmp 26) = .pointer (some ⟨TB, sn * 16, none⟩) := by rw [← e7]; exact (put_ne (by decide)).trans g6_26
  have g7_29 : a7.eval (.tmp 29) = .pointer (some ⟨TB, bn * 16, none⟩) := by rw [← e7]; exact (put_ne (by decide)).trans g6_29
  have g7_27 : a7.eval (.tmp 27) = setV (T sn) := by rw [← e7]; exact put_eq (by rw [z6]; decide)
  rw [e7]
  clear e7 z6 g6_5 g6_8 g6_9 g6_24 g6_25 g6_31 g6_28 g6_26 g6_29
  refine wpAnyM_take (i := 6) (v := setV (T bn)) rfl (by kernel_rfl) (by kernel_rfl) (by kernel_rfl) (by kernel_rfl) (hp _ _) (yields_load rfl rfl g7_29 (fun W hW => run_loadAt_row hW.1 hb)) hS ?_
  obtain ⟨a8, e8⟩ : ∃ x, a7.put opsR[6].dst (setV (T bn)) = x := ⟨_, rfl⟩
  have z8 : a8.tmps.size = 37 := by rw [← e8]; exact put_size.trans z7
  have g8_5 : a8.eval (.tmp 5) = .pointer (some ⟨TB, 0, none⟩) := by rw [← e8]; exact (put_ne (by decide)).trans g7_5
  have g8_8 : a8.eval (.tmp 8) = .pointer (some ⟨bB, 0, none⟩) := by rw [← e8]; exact (put_ne (by decide)).trans g7_8
  have g8_9 : a8.eval (.tmp 9) = .int .i64 (sn : Int) := by rw [← e8]; exact (put_ne (by decide)).trans g7_9
  have g8_24 : a8.eval (.tmp 24) = .int .i64 (sn : Int) := by rw [← e8]; exact (put_ne (by decide)).trans g7_24
  have g8_25 : a8.eval (.tmp 25) = .int .i64 (sn : Int) := by rw [← e8]; exact (put_ne (by decide)).trans g7_25
  have g8_31 : a8.eval (.tmp 31) = .int .i64 (sn : Int) := by rw [← e8]; exact (put_ne (by decide)).trans g7_31
  have g8_28 : a8.eval (.tmp 28) = .int .i64 (bn : Int) := by rw [← e8]; exact (put_ne (by decide)).trans g7_28
  have g8_26 : a8.eval (.tmp 26) = .pointer (some ⟨TB, sn * 16, none⟩) := by rw [← e8]; exact (put_ne (by decide)).trans g7_26
  have g8_29 : a8.eval (.tmp 29) = .pointer (some ⟨TB, bn * 16, none⟩) := by rw [← e8]; exact (put_ne (by decide)).trans g7_29
  have g8_27 : a8.eval (.tmp 27) = setV (T sn) := by rw [← e8]; exact (put_ne (by decide)).trans g7_27
  have g8_30 : a8.eval (.tmp 30) = setV (T bn) := by rw [← e8]; exact put_eq (by rw [z7]; decide)
  rw [e8]
  clear e8 z7 g7_5 g7_8 g7_9 g7_24 g7_25 g7_31 g7_28 g7_26 g7_29 g7_27
  refine wpAnyM_one (i := 8) rfl rfl (by kernel_rfl) ?_
  refine wp_call_of (f := 90) (args := #[setV (T bn), .int .i64 (sn : Int)]) (run_call2 rfl g8_30 g8_31 (enters_of Try.func90 (by kernel_rfl) rfl) _) (with_any (T bn) sn hs w) ?_
  rintro e w1 ⟨rfl, b1⟩
  refine ⟨_, rfl, fun _ => ⟨hT.keep b1, (b1.block _ hbx.lt).trans hbx⟩, ?_⟩
  have hS1 : TabAt w1 TB T ∧ Boxed w1 bB 3 (.int .i64 (bn : Int)) := ⟨hT.keep b1, (b1.block _ hbx.lt).trans hbx⟩
  obtain ⟨a9, e9⟩ : ∃ x, a8.put opsR[8].dst (setV (fun a => T bn a || decide (a = sn))) = x := ⟨_, rfl⟩
  have z9 : a9.tmps.size = 37 := by rw [← e9]; exact put_size.trans z8
  have g9_5 : a9.eval (.tmp 5) = .pointer (some ⟨TB, 0, none⟩) := by rw [← e9]; exact (put_ne (by decide)).trans g8_5
  have g9_8 : a9.eval (.tmp 8) = .pointer (some ⟨bB, 0, none⟩) := by rw [← e9]; exact (put_ne (by decide)).trans g8_8
  have g9_9 : a9.eval (.tmp 9) = .int .i64 (sn : Int) := by rw [← e9]; exact (put_ne (by decide)).trans g8_9
  have g9_24 : a9.eval (.tmp 24) = .int .i64 (sn : Int) := by rw [← e9]; exact (put_ne (by decide)).trans g8_24
  have g9_25 : a9.eval (.tmp 25) = .int .i64 (sn : Int) := by rw [← e9]; exact (put_ne (by decide)).trans g8_25
  have g9_31 : a9.eval (.tmp 31) = .int .i64 (sn : Int) := by rw [← e9]; exact (put_ne (by decide)).trans g8_31
  have g9_28 : a9.eval (.tmp 28) = .int .i64 (bn : Int) := by rw [← e9]; exact (put_ne (by decide)).trans g8_28
  have g9_26 : a9.eval (.tmp 26) = .pointer (some ⟨TB, sn * 16, none⟩) := by rw [← e9]; exact (put_ne (by decide)).trans g8_26
  have g9_29 : a9.eval (.tmp 29) = .pointer (some ⟨TB, bn * 16, none⟩) := by rw [← e9]; exact (put_ne (by decide)).trans g8_29
  have g9_27 : a9.eval (.tmp 27) = setV (T sn) := by rw [← e9]; exact (put_ne (by decide)).trans g8_27
  have g9_30 : a9.eval (.tmp 30) = setV (T bn) := by rw [← e9]; exact (put_ne (by decide)).trans g8_30
  have g9_32 : a9.eval (.tmp 32) = setV (fun a => T bn a || decide (a = sn)) := by rw [← e9]; exact put_eq (by rw [z8]; decide)
  rw [e9]
  clear e9 z8 g8_5 g8_8 g8_9 g8_24 g8_25 g8_31 g8_28 g8_26 g8_29 g8_27 g8_30
  refine wpAnyM_one (i := 9) rfl rfl (by kernel_rfl) ?_
  refine wp_call_of (f := 91) (args := #[setV (T sn), setV (fun a => T bn a || decide (a = sn))]) (run_call2 rfl g9_27 g9_32 (enters_of Try.func91 (by kernel_rfl) rfl) _) (both_any (T sn) _ w1) ?_
  rintro e w2 ⟨rfl, b2⟩
  refine ⟨_, rfl, fun _ => ⟨hS1.1.keep b2, (b2.block _ hS1.2.lt).trans hS1.2⟩, ?_⟩
  have hS2 : TabAt w2 TB T ∧ Boxed w2 bB 3 (.int .i64 (bn : Int)) := ⟨hS1.1.keep b2, (b2.block _ hS1.2.lt).trans hS1.2⟩
  obtain ⟨a10, e10⟩ : ∃ x, a9.put opsR[9].dst (setV (fun a => T sn a && (T bn a || decide (a = sn)))) = x := ⟨_, rfl⟩
  have z10 : a10.tmps.size = 37 := by rw [← e10]; exact put_size.trans z9
  have g10_5 : a10.eval (.tmp 5) = .pointer (some ⟨TB, 0, none⟩) := by rw [← e10]; exact (put_ne (by decide)).trans g9_5
  have g10_8 : a10.eval (.tmp 8) = .pointer (some ⟨bB, 0, none⟩) := by rw [← e10]; exact (put_ne (by decide)).trans g9_8
  have g10_9 : a10.eval (.tmp 9) = .int .i64 (sn : Int) := by rw [← e10]; exact (put_ne (by decide)).trans g9_9
  have g10_24 : a10.eval (.tmp 24) = .int .i64 (sn : Int) := by rw [← e10]; exact (put_ne (by decide)).trans g9_24
  have g10_25 : a10.eval (.tmp 25) = .int .i64 (sn : Int) := by rw [← e10]; exact (put_ne (by decide)).trans g9_25
  have g10_31 : a10.eval (.tmp 31) = .int .i64 (sn : Int) := by rw [← e10]; exact (put_ne (by decide)).trans g9_31
  have g10_28 : a10.eval (.tmp 28) = .int .i64 (bn : Int) := by rw [← e10]; exact (put_ne (by decide)).trans g9_28
  have g10_26 : a10.eval (.tmp 26) = .pointer (some ⟨TB, sn * 16, none⟩) := by rw [← e10]; exact (put_ne (by decide)).trans g9_26
  have g10_29 : a10.eval (.tmp 29) = .pointer (some ⟨TB, bn * 16, none⟩) := by rw [← e10]; exact (put_ne (by decide)).trans g9_29
  have g10_27 : a10.eval (.tmp 27) = setV (T sn) := by rw [← e10]; exact (put_ne (by decide)).trans g9_27
  have g10_30 : a10.eval (.tmp 30) = setV (T bn) := by rw [← e10]; exact (put_ne (by decide)).trans g9_30
  have g10_32 : a10.eval (.tmp 32) = setV (fun a => T bn a || decide (a = sn)) := by rw [← e10]; exact (put_ne (by decide)).trans g9_32
  have g10_33 : a10.eval (.tmp 33) = setV (fun a => T sn a && (T bn a || decide (a = sn))) := by rw [← e10]; exact put_eq (by rw [z9]; decide)
  rw [e10]
  clear e10 z9 g9_5 g9_8 g9_9 g9_24 g9_25 g9_31 g9_28 g9_26 g9_29 g9_27 g9_30 g9_32
  refine wpAnyM_take (i := 10) (v := .pointer (some ⟨TB, sn * 16, none⟩)) rfl (by kernel_rfl) (by kernel_rfl) (by kernel_rfl) (by kernel_rfl) (hp _ _) (yields_index rfl rfl g10_5 g10_24 (fun W _ => run_indexAt_tab hs W)) hS2 ?_
  obtain ⟨a11, e11⟩ : ∃ x, a10.put opsR[10].dst (.pointer (some ⟨TB, sn * 16, none⟩)) = x := ⟨_, rfl⟩
  have z11 : a11.tmps.size = 37 := by rw [← e11]; exact put_size.trans z10
  have g11_5 : a11.eval (.tmp 5) = .pointer (some ⟨TB, 0, none⟩) := by rw [← e11]; exact (put_ne (by decide)).trans g10_5
  have g11_8 : a11.eval (.tmp 8) = .pointer (some ⟨bB, 0, none⟩) := by rw [← e11]; exact (put_ne (by decide)).trans g10_8
  have g11_9 : a11.eval (.tmp 9) = .int .i64 (sn : Int) := by rw [← e11]; exact (put_ne (by decide)).trans g10_9
  have g11_24 : a11.eval (.tmp 24) = .int .i64 (sn : Int) := by rw [← e11]; exact (put_ne (by decide)).trans g10_24
  have g11_25 : a11.eval (.tmp 25) = .int .i64 (sn : Int) := by rw [← e11]; exact (put_ne (by decide)).trans g10_25
  have g11_31 : a11.eval (.tmp 31) = .int .i64 (sn : Int) := by rw [← e11]; exact (put_ne (by decide)).trans g10_31
  have g11_28 : a11.eval (.tmp 28) = .int .i64 (bn : Int) := by rw [← e11]; exact (put_ne (by decide)).trans g10_28
  have g11_26 : a11.eval (.tmp 26) = .pointer (some ⟨TB, sn * 16, none⟩) := by rw [← e11]; exact (put_ne (by decide)).trans g10_26
  have g11_29 : a11.eval (.tmp 29) = .pointer (some ⟨TB, bn * 16, none⟩) := by rw [← e11]; exact (put_ne (by decide)).trans g10_29
  have g11_27 : a11.eval (.tmp 27) = setV (T sn) := by rw [← e11]; exact (put_ne (by decide)).trans g10_27
  have g11_30 : a11.eval (.tmp 30) = setV (T bn) := by rw [← e11]; exact (put_ne (by decide)).trans g10_30
  have g11_32 : a11.eval (.tmp 32) = setV (fun a => T bn a || decide (a = sn)) := by rw [← e11]; exact (put_ne (by decide)).trans g10_32
  have g11_33 : a11.eval (.tmp 33) = setV (fun a => T sn a && (T bn a || decide (a = sn))) := by rw [← e11]; exact (put_ne (by decide)).trans g10_33
  have g11_34 : a11.eval (.tmp 34) = .pointer (some ⟨TB, sn * 16, none⟩) := by rw [← e11]; exact put_eq (by rw [z10]; decide)
  rw [e11]
  clear e11 z10 g10_5 g10_8 g10_9 g10_24 g10_25 g10_31 g10_28 g10_26 g10_29 g10_27 g10_30 g10_32 g10_33
  refine wpAnyM_one (i := 11) rfl rfl (by kernel_rfl) ?_
  refine wp_put_row _ _ rfl TB sn T (fun a => T sn a && (T bn a || decide (a = sn))) hs g11_34 g11_33 hS2.1 ?_
  refine ⟨fun h => absurd rfl h, wpAnyM_done (by kernel_rfl) ?_ _⟩
  refine hQ _ _ (((FrX.ofBelow b1).trans (FrX.ofBelow b2)).trans (FrX.set _ _ _)) (below_setRow ((b1.mono (Nat.le_of_lt hT.lt)).trans (b2.mono (Nat.le_of_lt hS1.1.lt))) (Nat.le_refl _) _) ?_
  exact hS2.1.put
end Go.Proofs.Ytlmkipmkanhcfaa
