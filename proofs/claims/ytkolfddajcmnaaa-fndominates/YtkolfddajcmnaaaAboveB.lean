/- The test of Above's loop: a region that draws its order, with a guard. -/
import Derived.Test.YtkolfddajcmnaaaImplDom
namespace Go.Proofs.Ytkolfddajcmnaaa
open Go.ChangeShapes Go.WideShapes Go.ChangeAt Go.RowKit Go.Shelf
set_option linter.unusedVariables false

section
variable {P : Program} {ops : Array Oper} {S : World → Prop} {o : Oper} {a : Act}
theorem wanted_at {j d : Nat} {b x : Bool} (hg : o.guard = some (j, b)) (hj : (ops[j]?).bind (·.dst) = some d) (hd : a.eval (.tmp d) = .bool x) : Region.wanted o (yielded ops a.tmps) = (x == b) := by
  have h2 : a.tmps[d]? = some (.bool x) := by
    have h3 : a.tmps.getD d undef = .bool x := hd
    rw [Array.getD_eq_getD_getElem?] at h3
    cases h4 : a.tmps[d]? with
    | none => rw [h4] at h3; simp [undef] at h3
    | some y => rw [h4] at h3; simpa using h3
  simp [Region.wanted, hg, yielded, hj, h2]
theorem yieldsG_move {v : Value} {x : Operand} (hw : Region.wanted o (yielded ops a.tmps) = true) (ho : o.op = .move x) (hx : a.eval x = v) : YieldsIf P ops S o v a :=
  .inl ⟨hw, fun W _ => by simp [execOp, ho, hx]⟩
theorem yieldsG_load {v : Value} {x : Operand} {t : TypeId} (hw : Region.wanted o (yielded ops a.tmps) = true) (ho : o.op = .load t x) {p : Value} (hx : a.eval x = p) (hl : ∀ W, S W → (Instr.loadAt t p).run P W = .ok v W) : YieldsIf P ops S o v a :=
  .inl ⟨hw, fun W hW => by simp [execOp, ho, hx, hl W hW]⟩
theorem yieldsG_index {v : Value} {x y : Operand} {t : TypeId} (hw : Region.wanted o (yielded ops a.tmps) = true) (ho : o.op = .indexAddr t x y) {p i : Value} (hx : a.eval x = p) (hy : a.eval y = i) (hl : ∀ W, S W → (Instr.indexAt t p i).run P W = .ok v W) : YieldsIf P ops S o v a :=
  .inl ⟨hw, fun W hW => by simp [execOp, ho, hx, hy, hl W hW]⟩
theorem yieldsG_bin {v : Value} {x y : Operand} {op : BinOp} {t s : TypeId} (hw : Region.wanted o (yielded ops a.tmps) = true) (ho : o.op = .binOp op t x y s) {p q : Value} (hx : a.eval x = p) (hy : a.eval y = q) (hg : ∀ W, (eqGuard op t x y p q).run P W = .ok () W) (hl : ∀ W, (binOp op t p q).run P W = .ok v W) : YieldsIf P ops S o v a :=
  .inl ⟨hw, fun W hW => by simp [execOp, ho, hx, hy, hl W, hg W]⟩
theorem yieldsG_pick {v : Value} {c x y : Operand} {b : Bool} (hw : Region.wanted o (yielded ops a.tmps) = true) (ho : o.op = .pick c x y) (hc : a.eval c = .bool b) (hv : (if b then a.eval x else a.eval y) = v) : YieldsIf P ops S o v a :=
  .inl ⟨hw, fun W hW => by simp [execOp, ho, hc, asBool, hv]⟩
theorem yieldsG_not (hw : Region.wanted o (yielded ops a.tmps) = false) : YieldsIf P ops S o undef a := .inr ⟨hw, rfl⟩
end
theorem run_loadAt_set {w : World} {B : Nat} {f : Nat → Bool} (h : SetAt w B f) : (Instr.loadAt 57 (.pointer (some ⟨B, 0, none⟩))).run Try.prog w = .ok (setV f) w := by
  simp only [Instr.loadAt, Instr.sureAddr, Sem.run_bind, Sem.run_pure, Result.andThen_ok]
  have := range_of_row h
  exact run_loadVar_mid w B 0 57 (rowC f) _ (by simpa using this) Try.underlying57 rfl (by rw [rowC_len]; exact info_set)
theorem region_only {P : Program} {ops : Array Oper} {Q : Exit → Act → World → Prop} (m : Nat) (S : World → Prop) {id : Nat} {a : Act} {w : World} (hm : P.follows .mixedOrders = true)
    (h : wpAnyM P .any ops (onlyNormal (fun a w => Q .normal a w)) m S ops.size (Array.replicate ops.size false) a w.drew) : (Code.region id ops true).wp P Q a w :=
  wp_mono (region_M m S hm h) (fun e a w h => by cases e <;> first | exact h | exact h.elim)

def opsA : Array Oper := #[{ dst := some 30, op := Op.load 57 (Operand.tmp 6), type := 57, pos := "l04_dom.go:37", after := #[], guard := none }, { dst := some 31, op := Op.move (Operand.tmp 7), type := 3, pos := "l04_dom.go:37", after := #[], guard := none }, { dst := some 32, op := Op.call { callee := Callee.value (Operand.func 50), args := #[Operand.tmp 30, Operand.tmp 31], argTypes := #[57, 3] }, type := 4, pos := "l04_dom.go:37", after := #[{ on := 0, ground := Ground.data }, { on := 1, ground := Ground.data }], guard := none }, { dst := some 33, op := Op.move (Operand.tmp 32), type := 4, pos := "l04_dom.go:37", after := #[{ on := 2, ground := Ground.data }, { on := 2, ground := Ground.chain }], guard := none }, { dst := some 34, op := Op.move (Operand.tmp 7), type := 3, pos := "l04_dom.go:37", after := #[{ on := 3, ground := Ground.guard }], guard := some (3, true) }, { dst := some 35, op := Op.indexAddr 59 (Operand.tmp 5) (Operand.tmp 34), type := 0, pos := "l04_dom.go:37", after := #[{ on := 4, ground := Ground.data }, { on := 3, ground := Ground.guard }], guard := some (3, true) }, { dst := some 36, op := Op.load 57 (Operand.tmp 35), type := 57, pos := "l04_dom.go:37", after := #[{ on := 5, ground := Ground.data }, { on := 3, ground := Ground.guard }], guard := some (3, true) }, { dst := some 37, op := Op.load 57 (Operand.tmp 6), type := 57, pos := "l04_dom.go:37", after := #[{ on := 3, ground := Ground.guard }], guard := some (3, true) }, { dst := some 38, op := Op.binOp BinOp.eql 57 (Operand.tmp 36) (Operand.tmp 37) 57, type := 4, pos := "l04_dom.go:37", after := #[{ on := 6, ground := Ground.data }, { on := 7, ground := Ground.data }, { on := 3, ground := Ground.guard }], guard := some (3, true) }, { dst := some 39, op := Op.pick (Operand.tmp 33) (Operand.tmp 38) (Operand.const (Value.bool false)), type := 4, pos := "l04_dom.go:37", after := #[{ on := 3, ground := Ground.data }, { on := 8, ground := Ground.data }], guard := none }]

set_option maxRecDepth 100000 in
set_option maxHeartbeats 4000000 in
theorem aboveYes (TB OB : Nat) (T : Tab) (f : Nat → Bool) (an : Nat) (ha : an < 16) (hf : f an = true) (s : Bool) (hs : sameS (T an) f = s) (a : Act) (hsz : a.tmps.size = 42) (h5 : a.eval (.tmp 5) = .pointer (some ⟨TB, 0, none⟩)) (h6 : a.eval (.tmp 6) = .pointer (some ⟨OB, 0, none⟩)) (h7 : a.eval (.tmp 7) = .int .i64 (an : Int)) (w : World)
    (hO : SetAt w OB f) (hT : TabAt w TB T) (Q : Exit → Act → World → Prop) (hQp : ∀ c a w, ¬ Q (.panic c) a w)
    (hQ : ∀ W', Below w.heap.size w W' → Q .normal ((((((((((a.put (some 30) (setV f)).put (some 31) (.int .i64 (an : Int))).put (some 32) (.bool true)).put (some 33) (.bool true)).put (some 34) (.int .i64 (an : Int))).put (some 35) (.pointer (some ⟨TB, an * 16, none⟩))).put (some 36) (setV (T an))).put (some 37) (setV f)).put (some 38) (.bool s)).put (some 39) (.bool s)) W') :
    wpAnyM Try.prog .any opsA Q 100 (fun W => SetAt W OB f ∧ TabAt W TB T) 10 (Array.replicate 10 false) a w := by
  have hS : SetAt w OB f ∧ TabAt w TB T := ⟨hO, hT⟩
  have hp : ∀ (o : Option Tmp) (v : Value) c a w, Q (.panic c) (a.put o v) w → Q (.panic c) a w := fun o v c a w h => absurd h (hQp _ _ _)
  refine wpAnyM_take (i := 0) (v := setV f) rfl (by kernel_rfl) (by kernel_rfl) (by kernel_rfl) (by kernel_rfl) (hp _ _) (yields_load rfl rfl h6 (fun W hW => run_loadAt_set hW.1)) hS ?_
  obtain ⟨a1, e1⟩ : ∃ x, a.put opsA[0].dst (setV f) = x := ⟨_, rfl⟩
  have z1 : a1.tmps.size = 42 := by rw [← e1]; exact put_size.trans hsz
  have g1_5 : a1.eval (.tmp 5) = .pointer (some ⟨TB, 0, none⟩) := by rw [← e1]; exact (put_ne (by decide)).trans h5
  have g1_6 : a1.eval (.tmp 6) = .pointer (some ⟨OB, 0, none⟩) := by rw [← e1]; exact (put_ne (by decide)).trans h6
  have g1_7 : a1.eval (.tmp 7) = .int .i64 (an : Int) := by rw [← e1]; exact (put_ne (by decide)).trans h7
  have g1_30 : a1.eval (.tmp 30) = setV f := by rw [← e1]; exact put_eq (by rw [hsz]; decide)
  rw [e1]
  replace hQ : ∀ W', Below w.heap.size w W' → Q .normal (((((((((a1.put (some 31) (.int .i64 (an : Int))).put (some 32) (.bool true)).put (some 33) (.bool true)).put (some 34) (.int .i64 (an : Int))).put (some 35) (.pointer (some ⟨TB, an * 16, none⟩))).put (some 36) (setV (T an))).put (some 37) (setV f)).put (some 38) (.bool s)).put (some 39) (.bool s)) W' := by rw [← e1]; exact hQ
  clear e1 hsz h5 h6 h7
  refine wpAnyM_take (i := 1) (v := .int .i64 (an : Int)) rfl (by kernel_rfl) (by kernel_rfl) (by kernel_rfl) (by kernel_rfl) (hp _ _) (yields_move rfl rfl g1_7) hS ?_
  obtain ⟨a2, e2⟩ : ∃ x, a1.put opsA[1].dst (.int .i64 (an : Int)) = x := ⟨_, rfl⟩
  have z2 : a2.tmps.size = 42 := by rw [← e2]; exact put_size.trans z1
  have g2_5 : a2.eval (.tmp 5) = .pointer (some ⟨TB, 0, none⟩) := by rw [← e2]; exact (put_ne (by decide)).trans g1_5
  have g2_6 : a2.eval (.tmp 6) = .pointer (some ⟨OB, 0, none⟩) := by rw [← e2]; exact (put_ne (by decide)).trans g1_6
  have g2_7 : a2.eval (.tmp 7) = .int .i64 (an : Int) := by rw [← e2]; exact (put_ne (by decide)).trans g1_7
  have g2_30 : a2.eval (.tmp 30) = setV f := by rw [← e2]; exact (put_ne (by decide)).trans g1_30
  have g2_31 : a2.eval (.tmp 31) = .int .i64 (an : Int) := by rw [← e2]; exact put_eq (by rw [z1]; decide)
  rw [e2]
  replace hQ : ∀ W', Below w.heap.size w W' → Q .normal ((((((((a2.put (some 32) (.bool true)).put (some 33) (.bool true)).put (some 34) (.int .i64 (an : Int))).put (some 35) (.pointer (some ⟨TB, an * 16, none⟩))).put (some 36) (setV (T an))).put (some 37) (setV f)).put (some 38) (.bool s)).put (some 39) (.bool s)) W' := by rw [← e2]; exact hQ
  clear e2 z1 g1_5 g1_6 g1_7 g1_30
  refine wpAnyM_one (i := 2) rfl rfl (by kernel_rfl) ?_
  refine wp_call_of (f := 50) (args := #[setV f, .int .i64 (an : Int)]) (run_call2 rfl g2_30 g2_31 (enters_of Try.func50 (by kernel_rfl) rfl) _) (setHas_any f an ha w) ?_
  rw [hf]
  rintro e w1 ⟨rfl, b1⟩
  have hS1 : SetAt w1 OB f ∧ TabAt w1 TB T := ⟨hS.1.keep b1, hS.2.keep b1⟩
  refine ⟨_, rfl, fun _ => hS1, ?_⟩
  obtain ⟨a3, e3⟩ : ∃ x, a2.put opsA[2].dst (.bool true) = x := ⟨_, rfl⟩
  have z3 : a3.tmps.size = 42 := by rw [← e3]; exact put_size.trans z2
  have g3_5 : a3.eval (.tmp 5) = .pointer (some ⟨TB, 0, none⟩) := by rw [← e3]; exact (put_ne (by decide)).trans g2_5
  have g3_6 : a3.eval (.tmp 6) = .pointer (some ⟨OB, 0, none⟩) := by rw [← e3]; exact (put_ne (by decide)).trans g2_6
  have g3_7 : a3.eval (.tmp 7) = .int .i64 (an : Int) := by rw [← e3]; exact (put_ne (by decide)).trans g2_7
  have g3_30 : a3.eval (.tmp 30) = setV f := by rw [← e3]; exact (put_ne (by decide)).trans g2_30
  have g3_31 : a3.eval (.tmp 31) = .int .i64 (an : Int) := by rw [← e3]; exact (put_ne (by decide)).trans g2_31
  have g3_32 : a3.eval (.tmp 32) = .bool true := by rw [← e3]; exact put_eq (by rw [z2]; decide)
  rw [e3]
  replace hQ : ∀ W', Below w.heap.size w W' → Q .normal (((((((a3.put (some 33) (.bool true)).put (some 34) (.int .i64 (an : Int))).put (some 35) (.pointer (some ⟨TB, an * 16, none⟩))).put (some 36) (setV (T an))).put (some 37) (setV f)).put (some 38) (.bool s)).put (some 39) (.bool s)) W' := by rw [← e3]; exact hQ
  clear e3 z2 g2_5 g2_6 g2_7 g2_30 g2_31
  refine wpAnyM_take (i := 3) (v := .bool true) rfl (by kernel_rfl) (by kernel_rfl) (by kernel_rfl) (by kernel_rfl) (hp _ _) (yields_move rfl rfl g3_32) hS1 ?_
  obtain ⟨a4, e4⟩ : ∃ x, a3.put opsA[3].dst (.bool true) = x := ⟨_, rfl⟩
  have z4 : a4.tmps.size = 42 := by rw [← e4]; exact put_size.trans z3
  have g4_5 : a4.eval (.tmp 5) = .pointer (some ⟨TB, 0, none⟩) := by rw [← e4]; exact (put_ne (by decide)).trans g3_5
  have g4_6 : a4.eval (.tmp 6) = .pointer (some ⟨OB, 0, none⟩) := by rw [← e4]; exact (put_ne (by decide)).trans g3_6
  have g4_7 : a4.eval (.tmp 7) = .int .i64 (an : Int) := by rw [← e4]; exact (put_ne (by decide)).trans g3_7
  have g4_30 : a4.eval (.tmp 30) = setV f := by rw [← e4]; exact (put_ne (by decide)).trans g3_30
  have g4_31 : a4.eval (.tmp 31) = .int .i64 (an : Int) := by rw [← e4]; exact (put_ne (by decide)).trans g3_31
  have g4_32 : a4.eval (.tmp 32) = .bool true := by rw [← e4]; exact (put_ne (by decide)).trans g3_32
  have g4_33 : a4.eval (.tmp 33) = .bool true := by rw [← e4]; exact put_eq (by rw [z3]; decide)
  rw [e4]
  replace hQ : ∀ W', Below w.heap.size w W' → Q .normal ((((((a4.put (some 34) (.int .i64 (an : Int))).put (some 35) (.pointer (some ⟨TB, an * 16, none⟩))).put (some 36) (setV (T an))).put (some 37) (setV f)).put (some 38) (.bool s)).put (some 39) (.bool s)) W' := by rw [← e4]; exact hQ
  clear e4 z3 g3_5 g3_6 g3_7 g3_30 g3_31 g3_32
  refine wpAnyM_take (i := 4) (v := .int .i64 (an : Int)) rfl (by kernel_rfl) (by kernel_rfl) (by kernel_rfl) (by kernel_rfl) (hp _ _) (yieldsG_move ((wanted_at (ops := opsA) (b := true) rfl rfl g4_33).trans rfl) rfl g4_7) hS1 ?_
  obtain ⟨a5, e5⟩ : ∃ x, a4.put opsA[4].dst (.int .i64 (an : Int)) = x := ⟨_, rfl⟩
  have z5 : a5.tmps.size = 42 := by rw [← e5]; exact put_size.trans z4
  have g5_5 : a5.eval (.tmp 5) = .pointer (some ⟨TB, 0, none⟩) := by rw [← e5]; exact (put_ne (by decide)).trans g4_5
  have g5_6 : a5.eval (.tmp 6) = .pointer (some ⟨OB, 0, none⟩) := by rw [← e5]; exact (put_ne (by decide)).trans g4_6
  have g5_7 : a5.eval (.tmp 7) = .int .i64 (an : Int) := by rw [← e5]; exact (put_ne (by decide)).trans g4_7
  have g5_30 : a5.eval (.tmp 30) = setV f := by rw [← e5]; exact (put_ne (by decide)).trans g4_30
  have g5_31 : a5.eval (.tmp 31) = .int .i64 (an : Int) := by rw [← e5]; exact (put_ne (by decide)).trans g4_31
  have g5_32 : a5.eval (.tmp 32) = .bool true := by rw [← e5]; exact (put_ne (by decide)).trans g4_32
  have g5_33 : a5.eval (.tmp 33) = .bool true := by rw [← e5]; exact (put_ne (by decide)).trans g4_33
  have g5_34 : a5.eval (.tmp 34) = .int .i64 (an : Int) := by rw [← e5]; exact put_eq (by rw [z4]; decide)
  rw [e5]
  replace hQ : ∀ W', Below w.heap.size w W' → Q .normal (((((a5.put (some 35) (.pointer (some ⟨TB, an * 16, none⟩))).put (some 36) (setV (T an))).put (some 37) (setV f)).put (some 38) (.bool s)).put (some 39) (.bool s)) W' := by rw [← e5]; exact hQ
  clear e5 z4 g4_5 g4_6 g4_7 g4_30 g4_31 g4_32 g4_33
  refine wpAnyM_take (i := 5) (v := .pointer (some ⟨TB, an * 16, none⟩)) rfl (by kernel_rfl) (by kernel_rfl) (by kernel_rfl) (by kernel_rfl) (hp _ _) (yieldsG_index ((wanted_at (ops := opsA) (b := true) rfl rfl g5_33).trans rfl) rfl g5_5 g5_34 (fun W _ => run_indexAt_tab ha W)) hS1 ?_
  obtain ⟨a6, e6⟩ : ∃ x, a5.put opsA[5].dst (.pointer (some ⟨TB, an * 16, none⟩)) = x := ⟨_, rfl⟩
  have z6 : a6.tmps.size = 42 := by rw [← e6]; exact put_size.trans z5
  have g6_5 : a6.eval (.tmp 5) = .pointer (some ⟨TB, 0, none⟩) := by rw [← e6]; exact (put_ne (by decide)).trans g5_5
  have g6_6 : a6.eval (.tmp 6) = .pointer (some ⟨OB, 0, none⟩) := by rw [← e6]; exact (put_ne (by decide)).trans g5_6
  have g6_7 : a6.eval (.tmp 7) = .int .i64 (an : Int) := by rw [← e6]; exact (put_ne (by decide)).trans g5_7
  have g6_30 : a6.eval (.tmp 30) = setV f := by rw [← e6]; exact (put_ne (by decide)).trans g5_30
  have g6_31 : a6.eval (.tmp 31) = .int .i64 (an : Int) := by rw [← e6]; exact (put_ne (by decide)).trans g5_31
  have g6_32 : a6.eval (.tmp 32) = .bool true := by rw [← e6]; exact (put_ne (by decide)).trans g5_32
  have g6_33 : a6.eval (.tmp 33) = .bool true := by rw [← e6]; exact (put_ne (by decide)).trans g5_33
  have g6_34 : a6.eval (.tmp 34) = .int .i64 (an : Int) := by rw [← e6]; exact (put_ne (by decide)).trans g5_34
  have g6_35 : a6.eval (.tmp 35) = .pointer (some ⟨TB, an * 16, none⟩) := by rw [← e6]; exact put_eq (by rw [z5]; decide)
  rw [e6]
  replace hQ : ∀ W', Below w.heap.size w W' → Q .normal ((((a6.put (some 36) (setV (T an))).put (some 37) (setV f)).put (some 38) (.bool s)).put (some 39) (.bool s)) W' := by rw [← e6]; exact hQ
  clear e6 z5 g5_5 g5_6 g5_7 g5_30 g5_31 g5_32 g5_33 g5_34
  refine wpAnyM_take (i := 6) (v := setV (T an)) rfl (by kernel_rfl) (by kernel_rfl) (by kernel_rfl) (by kernel_rfl) (hp _ _) (yieldsG_load ((wanted_at (ops := opsA) (b := true) rfl rfl g6_33).trans rfl) rfl g6_35 (fun W hW => run_loadAt_row hW.2 ha)) hS1 ?_
  obtain ⟨a7, e7⟩ : ∃ x, a6.put opsA[6].dst (setV (T an)) = x := ⟨_, rfl⟩
  have z7 : a7.tmps.size = 42 := by rw [← e7]; exact put_size.trans z6
  have g7_5 : a7.eval (.tmp 5) = .pointer (some ⟨TB, 0, none⟩) := by rw [← e7]; exact (put_ne (by decide)).trans g6_5
  have g7_6 : a7.eval (.tmp 6) = .pointer (some ⟨OB, 0, none⟩) := by rw [← e7]; exact (put_ne (by decide)).trans g6_6
  have g7_7 : a7.eval (.tmp 7) = .int .i64 (an : Int) := by rw [← e7]; exact (put_ne (by decide)).trans g6_7
  have g7_30 : a7.eval (.tmp 30) = setV f := by rw [← e7]; exact (put_ne (by decide)).trans g6_30
  have g7_31 : a7.eval (.tmp 31) = .int .i64 (an : Int) := by rw [← e7]; exact (put_ne (by decide)).trans g6_31
  have g7_32 : a7.eval (.tmp 32) = .bool true := by rw [← e7]; exact (put_ne (by decide)).trans g6_32
  have g7_33 : a7.eval (.tmp 33) = .bool true := by rw [← e7]; exact (put_ne (by decide)).trans g6_33
  have g7_34 : a7.eval (.tmp 34) = .int .i64 (an : Int) := by rw [← e7]; exact (put_ne (by decide)).trans g6_34
  have g7_35 : a7.eval (.tmp 35) = .pointer (some ⟨TB, an * 16, none⟩) := by rw [← e7]; exact (put_ne (by decide)).trans g6_35
  have g7_36 : a7.eval (.tmp 36) = setV (T an) := by rw [← e7]; exact put_eq (by rw [z6]; decide)
  rw [e7]
  replace hQ : ∀ W', Below w.heap.size w W' → Q .normal (((a7.put (some 37) (setV f)).put (some 38) (.bool s)).put (some 39) (.bool s)) W' := by rw [← e7]; exact hQ
  clear e7 z6 g6_5 g6_6 g6_7 g6_30 g6_31 g6_32 g6_33 g6_34 g6_35
  refine wpAnyM_take (i := 7) (v := setV f) rfl (by kernel_rfl) (by kernel_rfl) (by kernel_rfl) (by kernel_rfl) (hp _ _) (yieldsG_load ((wanted_at (ops := opsA) (b := true) rfl rfl g7_33).trans rfl) rfl g7_6 (fun W hW => run_loadAt_set hW.1)) hS1 ?_
  obtain ⟨a8, e8⟩ : ∃ x, a7.put opsA[7].dst (setV f) = x := ⟨_, rfl⟩
  have z8 : a8.tmps.size = 42 := by rw [← e8]; exact put_size.trans z7
  have g8_5 : a8.eval (.tmp 5) = .pointer (some ⟨TB, 0, none⟩) := by rw [← e8]; exact (put_ne (by decide)).trans g7_5
  have g8_6 : a8.eval (.tmp 6) = .pointer (some ⟨OB, 0, none⟩) := by rw [← e8]; exact (put_ne (by decide)).trans g7_6
  have g8_7 : a8.eval (.tmp 7) = .int .i64 (an : Int) := by rw [← e8]; exact (put_ne (by decide)).trans g7_7
  have g8_30 : a8.eval (.tmp 30) = setV f := by rw [← e8]; exact (put_ne (by decide)).trans g7_30
  have g8_31 : a8.eval (.tmp 31) = .int .i64 (an : Int) := by rw [← e8]; exact (put_ne (by decide)).trans g7_31
  have g8_32 : a8.eval (.tmp 32) = .bool true := by rw [← e8]; exact (put_ne (by decide)).trans g7_32
  have g8_33 : a8.eval (.tmp 33) = .bool true := by rw [← e8]; exact (put_ne (by decide)).trans g7_33
  have g8_34 : a8.eval (.tmp 34) = .int .i64 (an : Int) := by rw [← e8]; exact (put_ne (by decide)).trans g7_34
  have g8_35 : a8.eval (.tmp 35) = .pointer (some ⟨TB, an * 16, none⟩) := by rw [← e8]; exact (put_ne (by decide)).trans g7_35
  have g8_36 : a8.eval (.tmp 36) = setV (T an) := by rw [← e8]; exact (put_ne (by decide)).trans g7_36
  have g8_37 : a8.eval (.tmp 37) = setV f := by rw [← e8]; exact put_eq (by rw [z7]; decide)
  rw [e8]
  replace hQ : ∀ W', Below w.heap.size w W' → Q .normal ((a8.put (some 38) (.bool s)).put (some 39) (.bool s)) W' := by rw [← e8]; exact hQ
  clear e8 z7 g7_5 g7_6 g7_7 g7_30 g7_31 g7_32 g7_33 g7_34 g7_35 g7_36
  refine wpAnyM_take (i := 8) (v := .bool s) rfl (by kernel_rfl) (by kernel_rfl) (by kernel_rfl) (by kernel_rfl) (hp _ _) (yieldsG_bin ((wanted_at (ops := opsA) (b := true) rfl rfl g8_33).trans rfl) rfl g8_36 g8_37 (fun W => set_guard _ _ _ _ _ W) (fun W => by rw [set_eql, hs])) hS1 ?_
  obtain ⟨a9, e9⟩ : ∃ x, a8.put opsA[8].dst (.bool s) = x := ⟨_, rfl⟩
  have z9 : a9.tmps.size = 42 := by rw [← e9]; exact put_size.trans z8
  have g9_5 : a9.eval (.tmp 5) = .pointer (some ⟨TB, 0, none⟩) := by rw [← e9]; exact (put_ne (by decide)).trans g8_5
  have g9_6 : a9.eval (.tmp 6) = .pointer (some ⟨OB, 0, none⟩) := by rw [← e9]; exact (put_ne (by decide)).trans g8_6
  have g9_7 : a9.eval (.tmp 7) = .int .i64 (an : Int) := by rw [← e9]; exact (put_ne (by decide)).trans g8_7
  have g9_30 : a9.eval (.tmp 30) = setV f := by rw [← e9]; exact (put_ne (by decide)).trans g8_30
  have g9_31 : a9.eval (.tmp 31) = .int .i64 (an : Int) := by rw [← e9]; exact (put_ne (by decide)).trans g8_31
  have g9_32 : a9.eval (.tmp 32) = .bool true := by rw [← e9]; exact (put_ne (by decide)).trans g8_32
  have g9_33 : a9.eval (.tmp 33) = .bool true := by rw [← e9]; exact (put_ne (by decide)).trans g8_33
  have g9_34 : a9.eval (.tmp 34) = .int .i64 (an : Int) := by rw [← e9]; exact (put_ne (by decide)).trans g8_34
  have g9_35 : a9.eval (.tmp 35) = .pointer (some ⟨TB, an * 16, none⟩) := by rw [← e9]; exact (put_ne (by decide)).trans g8_35
  have g9_36 : a9.eval (.tmp 36) = setV (T an) := by rw [← e9]; exact (put_ne (by decide)).trans g8_36
  have g9_37 : a9.eval (.tmp 37) = setV f := by rw [← e9]; exact (put_ne (by decide)).trans g8_37
  have g9_38 : a9.eval (.tmp 38) = .bool s := by rw [← e9]; exact put_eq (by rw [z8]; decide)
  rw [e9]
  replace hQ : ∀ W', Below w.heap.size w W' → Q .normal (a9.put (some 39) (.bool s)) W' := by rw [← e9]; exact hQ
  clear e9 z8 g8_5 g8_6 g8_7 g8_30 g8_31 g8_32 g8_33 g8_34 g8_35 g8_36 g8_37
  refine wpAnyM_take (i := 9) (v := .bool s) rfl (by kernel_rfl) (by kernel_rfl) (by kernel_rfl) (by kernel_rfl) (hp _ _) (yieldsG_pick rfl rfl g9_33 g9_38) hS1 ?_
  obtain ⟨a10, e10⟩ : ∃ x, a9.put opsA[9].dst (.bool s) = x := ⟨_, rfl⟩
  have z10 : a10.tmps.size = 42 := by rw [← e10]; exact put_size.trans z9
  have g10_5 : a10.eval (.tmp 5) = .pointer (some ⟨TB, 0, none⟩) := by rw [← e10]; exact (put_ne (by decide)).trans g9_5
  have g10_6 : a10.eval (.tmp 6) = .pointer (some ⟨OB, 0, none⟩) := by rw [← e10]; exact (put_ne (by decide)).trans g9_6
  have g10_7 : a10.eval (.tmp 7) = .int .i64 (an : Int) := by rw [← e10]; exact (put_ne (by decide)).trans g9_7
  have g10_30 : a10.eval (.tmp 30) = setV f := by rw [← e10]; exact (put_ne (by decide)).trans g9_30
  have g10_31 : a10.eval (.tmp 31) = .int .i64 (an : Int) := by rw [← e10]; exact (put_ne (by decide)).trans g9_31
  have g10_32 : a10.eval (.tmp 32) = .bool true := by rw [← e10]; exact (put_ne (by decide)).trans g9_32
  have g10_33 : a10.eval (.tmp 33) = .bool true := by rw [← e10]; exact (put_ne (by decide)).trans g9_33
  have g10_34 : a10.eval (.tmp 34) = .int .i64 (an : Int) := by rw [← e10]; exact (put_ne (by decide)).trans g9_34
  have g10_35 : a10.eval (.tmp 35) = .pointer (some ⟨TB, an * 16, none⟩) := by rw [← e10]; exact (put_ne (by decide)).trans g9_35
  have g10_36 : a10.eval (.tmp 36) = setV (T an) := by rw [← e10]; exact (put_ne (by decide)).trans g9_36
  have g10_37 : a10.eval (.tmp 37) = setV f := by rw [← e10]; exact (put_ne (by decide)).trans g9_37
  have g10_38 : a10.eval (.tmp 38) = .bool s := by rw [← e10]; exact (put_ne (by decide)).trans g9_38
  have g10_39 : a10.eval (.tmp 39) = .bool s := by rw [← e10]; exact put_eq (by rw [z9]; decide)
  rw [e10]
  replace hQ : ∀ W', Below w.heap.size w W' → Q .normal a10 W' := by rw [← e10]; exact hQ
  clear e10 z9 g9_5 g9_6 g9_7 g9_30 g9_31 g9_32 g9_33 g9_34 g9_35 g9_36 g9_37 g9_38
  exact wpAnyM_done (by kernel_rfl) (hQ w1 b1) _
set_option maxRecDepth 100000 in
set_option maxHeartbeats 4000000 in
theorem aboveNo (TB OB : Nat) (T : Tab) (f : Nat → Bool) (an : Nat) (ha : an < 16) (hf : f an = false) (a : Act) (hsz : a.tmps.size = 42) (h5 : a.eval (.tmp 5) = .pointer (some ⟨TB, 0, none⟩)) (h6 : a.eval (.tmp 6) = .pointer (some ⟨OB, 0, none⟩)) (h7 : a.eval (.tmp 7) = .int .i64 (an : Int)) (w : World)
    (hO : SetAt w OB f) (hT : TabAt w TB T) (Q : Exit → Act → World → Prop) (hQp : ∀ c a w, ¬ Q (.panic c) a w)
    (hQ : ∀ W', Below w.heap.size w W' → Q .normal ((((((((((a.put (some 30) (setV f)).put (some 31) (.int .i64 (an : Int))).put (some 32) (.bool false)).put (some 33) (.bool false)).put (some 34) (undef)).put (some 35) (undef)).put (some 36) (undef)).put (some 37) (undef)).put (some 38) (undef)).put (some 39) (.bool false)) W') :
    wpAnyM Try.prog .any opsA Q 100 (fun W => SetAt W OB f ∧ TabAt W TB T) 10 (Array.replicate 10 false) a w := by
  have hS : SetAt w OB f ∧ TabAt w TB T := ⟨hO, hT⟩
  have hp : ∀ (o : Option Tmp) (v : Value) c a w, Q (.panic c) (a.put o v) w → Q (.panic c) a w := fun o v c a w h => absurd h (hQp _ _ _)
  refine wpAnyM_take (i := 0) (v := setV f) rfl (by kernel_rfl) (by kernel_rfl) (by kernel_rfl) (by kernel_rfl) (hp _ _) (yields_load rfl rfl h6 (fun W hW => run_loadAt_set hW.1)) hS ?_
  obtain ⟨a1, e1⟩ : ∃ x, a.put opsA[0].dst (setV f) = x := ⟨_, rfl⟩
  have z1 : a1.tmps.size = 42 := by rw [← e1]; exact put_size.trans hsz
  have g1_5 : a1.eval (.tmp 5) = .pointer (some ⟨TB, 0, none⟩) := by rw [← e1]; exact (put_ne (by decide)).trans h5
  have g1_6 : a1.eval (.tmp 6) = .pointer (some ⟨OB, 0, none⟩) := by rw [← e1]; exact (put_ne (by decide)).trans h6
  have g1_7 : a1.eval (.tmp 7) = .int .i64 (an : Int) := by rw [← e1]; exact (put_ne (by decide)).trans h7
  have g1_30 : a1.eval (.tmp 30) = setV f := by rw [← e1]; exact put_eq (by rw [hsz]; decide)
  rw [e1]
  replace hQ : ∀ W', Below w.heap.size w W' → Q .normal (((((((((a1.put (some 31) (.int .i64 (an : Int))).put (some 32) (.bool false)).put (some 33) (.bool false)).put (some 34) (undef)).put (some 35) (undef)).put (some 36) (undef)).put (some 37) (undef)).put (some 38) (undef)).put (some 39) (.bool false)) W' := by rw [← e1]; exact hQ
  clear e1 hsz h5 h6 h7
  refine wpAnyM_take (i := 1) (v := .int .i64 (an : Int)) rfl (by kernel_rfl) (by kernel_rfl) (by kernel_rfl) (by kernel_rfl) (hp _ _) (yields_move rfl rfl g1_7) hS ?_
  obtain ⟨a2, e2⟩ : ∃ x, a1.put opsA[1].dst (.int .i64 (an : Int)) = x := ⟨_, rfl⟩
  have z2 : a2.tmps.size = 42 := by rw [← e2]; exact put_size.trans z1
  have g2_5 : a2.eval (.tmp 5) = .pointer (some ⟨TB, 0, none⟩) := by rw [← e2]; exact (put_ne (by decide)).trans g1_5
  have g2_6 : a2.eval (.tmp 6) = .pointer (some ⟨OB, 0, none⟩) := by rw [← e2]; exact (put_ne (by decide)).trans g1_6
  have g2_7 : a2.eval (.tmp 7) = .int .i64 (an : Int) := by rw [← e2]; exact (put_ne (by decide)).trans g1_7
  have g2_30 : a2.eval (.tmp 30) = setV f := by rw [← e2]; exact (put_ne (by decide)).trans g1_30
  have g2_31 : a2.eval (.tmp 31) = .int .i64 (an : Int) := by rw [← e2]; exact put_eq (by rw [z1]; decide)
  rw [e2]
  replace hQ : ∀ W', Below w.heap.size w W' → Q .normal ((((((((a2.put (some 32) (.bool false)).put (some 33) (.bool false)).put (some 34) (undef)).put (some 35) (undef)).put (some 36) (undef)).put (some 37) (undef)).put (some 38) (undef)).put (some 39) (.bool false)) W' := by rw [← e2]; exact hQ
  clear e2 z1 g1_5 g1_6 g1_7 g1_30
  refine wpAnyM_one (i := 2) rfl rfl (by kernel_rfl) ?_
  refine wp_call_of (f := 50) (args := #[setV f, .int .i64 (an : Int)]) (run_call2 rfl g2_30 g2_31 (enters_of Try.func50 (by kernel_rfl) rfl) _) (setHas_any f an ha w) ?_
  rw [hf]
  rintro e w1 ⟨rfl, b1⟩
  have hS1 : SetAt w1 OB f ∧ TabAt w1 TB T := ⟨hS.1.keep b1, hS.2.keep b1⟩
  refine ⟨_, rfl, fun _ => hS1, ?_⟩
  obtain ⟨a3, e3⟩ : ∃ x, a2.put opsA[2].dst (.bool false) = x := ⟨_, rfl⟩
  have z3 : a3.tmps.size = 42 := by rw [← e3]; exact put_size.trans z2
  have g3_5 : a3.eval (.tmp 5) = .pointer (some ⟨TB, 0, none⟩) := by rw [← e3]; exact (put_ne (by decide)).trans g2_5
  have g3_6 : a3.eval (.tmp 6) = .pointer (some ⟨OB, 0, none⟩) := by rw [← e3]; exact (put_ne (by decide)).trans g2_6
  have g3_7 : a3.eval (.tmp 7) = .int .i64 (an : Int) := by rw [← e3]; exact (put_ne (by decide)).trans g2_7
  have g3_30 : a3.eval (.tmp 30) = setV f := by rw [← e3]; exact (put_ne (by decide)).trans g2_30
  have g3_31 : a3.eval (.tmp 31) = .int .i64 (an : Int) := by rw [← e3]; exact (put_ne (by decide)).trans g2_31
  have g3_32 : a3.eval (.tmp 32) = .bool false := by rw [← e3]; exact put_eq (by rw [z2]; decide)
  rw [e3]
  replace hQ : ∀ W', Below w.heap.size w W' → Q .normal (((((((a3.put (some 33) (.bool false)).put (some 34) (undef)).put (some 35) (undef)).put (some 36) (undef)).put (some 37) (undef)).put (some 38) (undef)).put (some 39) (.bool false)) W' := by rw [← e3]; exact hQ
  clear e3 z2 g2_5 g2_6 g2_7 g2_30 g2_31
  refine wpAnyM_take (i := 3) (v := .bool false) rfl (by kernel_rfl) (by kernel_rfl) (by kernel_rfl) (by kernel_rfl) (hp _ _) (yields_move rfl rfl g3_32) hS1 ?_
  obtain ⟨a4, e4⟩ : ∃ x, a3.put opsA[3].dst (.bool false) = x := ⟨_, rfl⟩
  have z4 : a4.tmps.size = 42 := by rw [← e4]; exact put_size.trans z3
  have g4_5 : a4.eval (.tmp 5) = .pointer (some ⟨TB, 0, none⟩) := by rw [← e4]; exact (put_ne (by decide)).trans g3_5
  have g4_6 : a4.eval (.tmp 6) = .pointer (some ⟨OB, 0, none⟩) := by rw [← e4]; exact (put_ne (by decide)).trans g3_6
  have g4_7 : a4.eval (.tmp 7) = .int .i64 (an : Int) := by rw [← e4]; exact (put_ne (by decide)).trans g3_7
  have g4_30 : a4.eval (.tmp 30) = setV f := by rw [← e4]; exact (put_ne (by decide)).trans g3_30
  have g4_31 : a4.eval (.tmp 31) = .int .i64 (an : Int) := by rw [← e4]; exact (put_ne (by decide)).trans g3_31
  have g4_32 : a4.eval (.tmp 32) = .bool false := by rw [← e4]; exact (put_ne (by decide)).trans g3_32
  have g4_33 : a4.eval (.tmp 33) = .bool false := by rw [← e4]; exact put_eq (by rw [z3]; decide)
  rw [e4]
  replace hQ : ∀ W', Below w.heap.size w W' → Q .normal ((((((a4.put (some 34) (undef)).put (some 35) (undef)).put (some 36) (undef)).put (some 37) (undef)).put (some 38) (undef)).put (some 39) (.bool false)) W' := by rw [← e4]; exact hQ
  clear e4 z3 g3_5 g3_6 g3_7 g3_30 g3_31 g3_32
  refine wpAnyM_take (i := 4) (v := undef) rfl (by kernel_rfl) (by kernel_rfl) (by kernel_rfl) (by kernel_rfl) (hp _ _) (yieldsG_not ((wanted_at (ops := opsA) (b := true) rfl rfl g4_33).trans rfl)) hS1 ?_
  obtain ⟨a5, e5⟩ : ∃ x, a4.put opsA[4].dst (undef) = x := ⟨_, rfl⟩
  have z5 : a5.tmps.size = 42 := by rw [← e5]; exact put_size.trans z4
  have g5_5 : a5.eval (.tmp 5) = .pointer (some ⟨TB, 0, none⟩) := by rw [← e5]; exact (put_ne (by decide)).trans g4_5
  have g5_6 : a5.eval (.tmp 6) = .pointer (some ⟨OB, 0, none⟩) := by rw [← e5]; exact (put_ne (by decide)).trans g4_6
  have g5_7 : a5.eval (.tmp 7) = .int .i64 (an : Int) := by rw [← e5]; exact (put_ne (by decide)).trans g4_7
  have g5_30 : a5.eval (.tmp 30) = setV f := by rw [← e5]; exact (put_ne (by decide)).trans g4_30
  have g5_31 : a5.eval (.tmp 31) = .int .i64 (an : Int) := by rw [← e5]; exact (put_ne (by decide)).trans g4_31
  have g5_32 : a5.eval (.tmp 32) = .bool false := by rw [← e5]; exact (put_ne (by decide)).trans g4_32
  have g5_33 : a5.eval (.tmp 33) = .bool false := by rw [← e5]; exact (put_ne (by decide)).trans g4_33
  have g5_34 : a5.eval (.tmp 34) = undef := by rw [← e5]; exact put_eq (by rw [z4]; decide)
  rw [e5]
  replace hQ : ∀ W', Below w.heap.size w W' → Q .normal (((((a5.put (some 35) (undef)).put (some 36) (undef)).put (some 37) (undef)).put (some 38) (undef)).put (some 39) (.bool false)) W' := by rw [← e5]; exact hQ
  clear e5 z4 g4_5 g4_6 g4_7 g4_30 g4_31 g4_32 g4_33
  refine wpAnyM_take (i := 5) (v := undef) rfl (by kernel_rfl) (by kernel_rfl) (by kernel_rfl) (by kernel_rfl) (hp _ _) (yieldsG_not ((wanted_at (ops := opsA) (b := true) rfl rfl g5_33).trans rfl)) hS1 ?_
  obtain ⟨a6, e6⟩ : ∃ x, a5.put opsA[5].dst (undef) = x := ⟨_, rfl⟩
  have z6 : a6.tmps.size = 42 := by rw [← e6]; exact put_size.trans z5
  have g6_5 : a6.eval (.tmp 5) = .pointer (some ⟨TB, 0, none⟩) := by rw [← e6]; exact (put_ne (by decide)).trans g5_5
  have g6_6 : a6.eval (.tmp 6) = .pointer (some ⟨OB, 0, none⟩) := by rw [← e6]; exact (put_ne (by decide)).trans g5_6
  have g6_7 : a6.eval (.tmp 7) = .int .i64 (an : Int) := by rw [← e6]; exact (put_ne (by decide)).trans g5_7
  have g6_30 : a6.eval (.tmp 30) = setV f := by rw [← e6]; exact (put_ne (by decide)).trans g5_30
  have g6_31 : a6.eval (.tmp 31) = .int .i64 (an : Int) := by rw [← e6]; exact (put_ne (by decide)).trans g5_31
  have g6_32 : a6.eval (.tmp 32) = .bool false := by rw [← e6]; exact (put_ne (by decide)).trans g5_32
  have g6_33 : a6.eval (.tmp 33) = .bool false := by rw [← e6]; exact (put_ne (by decide)).trans g5_33
  have g6_34 : a6.eval (.tmp 34) = undef := by rw [← e6]; exact (put_ne (by decide)).trans g5_34
  have g6_35 : a6.eval (.tmp 35) = undef := by rw [← e6]; exact put_eq (by rw [z5]; decide)
  rw [e6]
  replace hQ : ∀ W', Below w.heap.size w W' → Q .normal ((((a6.put (some 36) (undef)).put (some 37) (undef)).put (some 38) (undef)).put (some 39) (.bool false)) W' := by rw [← e6]; exact hQ
  clear e6 z5 g5_5 g5_6 g5_7 g5_30 g5_31 g5_32 g5_33 g5_34
  refine wpAnyM_take (i := 6) (v := undef) rfl (by kernel_rfl) (by kernel_rfl) (by kernel_rfl) (by kernel_rfl) (hp _ _) (yieldsG_not ((wanted_at (ops := opsA) (b := true) rfl rfl g6_33).trans rfl)) hS1 ?_
  obtain ⟨a7, e7⟩ : ∃ x, a6.put opsA[6].dst (undef) = x := ⟨_, rfl⟩
  have z7 : a7.tmps.size = 42 := by rw [← e7]; exact put_size.trans z6
  have g7_5 : a7.eval (.tmp 5) = .pointer (some ⟨TB, 0, none⟩) := by rw [← e7]; exact (put_ne (by decide)).trans g6_5
  have g7_6 : a7.eval (.tmp 6) = .pointer (some ⟨OB, 0, none⟩) := by rw [← e7]; exact (put_ne (by decide)).trans g6_6
  have g7_7 : a7.eval (.tmp 7) = .int .i64 (an : Int) := by rw [← e7]; exact (put_ne (by decide)).trans g6_7
  have g7_30 : a7.eval (.tmp 30) = setV f := by rw [← e7]; exact (put_ne (by decide)).trans g6_30
  have g7_31 : a7.eval (.tmp 31) = .int .i64 (an : Int) := by rw [← e7]; exact (put_ne (by decide)).trans g6_31
  have g7_32 : a7.eval (.tmp 32) = .bool false := by rw [← e7]; exact (put_ne (by decide)).trans g6_32
  have g7_33 : a7.eval (.tmp 33) = .bool false := by rw [← e7]; exact (put_ne (by decide)).trans g6_33
  have g7_34 : a7.eval (.tmp 34) = undef := by rw [← e7]; exact (put_ne (by decide)).trans g6_34
  have g7_35 : a7.eval (.tmp 35) = undef := by rw [← e7]; exact (put_ne (by decide)).trans g6_35
  have g7_36 : a7.eval (.tmp 36) = undef := by rw [← e7]; exact put_eq (by rw [z6]; decide)
  rw [e7]
  replace hQ : ∀ W', Below w.heap.size w W' → Q .normal (((a7.put (some 37) (undef)).put (some 38) (undef)).put (some 39) (.bool false)) W' := by rw [← e7]; exact hQ
  clear e7 z6 g6_5 g6_6 g6_7 g6_30 g6_31 g6_32 g6_33 g6_34 g6_35
  refine wpAnyM_take (i := 7) (v := undef) rfl (by kernel_rfl) (by kernel_rfl) (by kernel_rfl) (by kernel_rfl) (hp _ _) (yieldsG_not ((wanted_at (ops := opsA) (b := true) rfl rfl g7_33).trans rfl)) hS1 ?_
  obtain ⟨a8, e8⟩ : ∃ x, a7.put opsA[7].dst (undef) = x := ⟨_, rfl⟩
  have z8 : a8.tmps.size = 42 := by rw [← e8]; exact put_size.trans z7
  have g8_5 : a8.eval (.tmp 5) = .pointer (some ⟨TB, 0, none⟩) := by rw [← e8]; exact (put_ne (by decide)).trans g7_5
  have g8_6 : a8.eval (.tmp 6) = .pointer (some ⟨OB, 0, none⟩) := by rw [← e8]; exact (put_ne (by decide)).trans g7_6
  have g8_7 : a8.eval (.tmp 7) = .int .i64 (an : Int) := by rw [← e8]; exact (put_ne (by decide)).trans g7_7
  have g8_30 : a8.eval (.tmp 30) = setV f := by rw [← e8]; exact (put_ne (by decide)).trans g7_30
  have g8_31 : a8.eval (.tmp 31) = .int .i64 (an : Int) := by rw [← e8]; exact (put_ne (by decide)).trans g7_31
  have g8_32 : a8.eval (.tmp 32) = .bool false := by rw [← e8]; exact (put_ne (by decide)).trans g7_32
  have g8_33 : a8.eval (.tmp 33) = .bool false := by rw [← e8]; exact (put_ne (by decide)).trans g7_33
  have g8_34 : a8.eval (.tmp 34) = undef := by rw [← e8]; exact (put_ne (by decide)).trans g7_34
  have g8_35 : a8.eval (.tmp 35) = undef := by rw [← e8]; exact (put_ne (by decide)).trans g7_35
  have g8_36 : a8.eval (.tmp 36) = undef := by rw [← e8]; exact (put_ne (by decide)).trans g7_36
  have g8_37 : a8.eval (.tmp 37) = undef := by rw [← e8]; exact put_eq (by rw [z7]; decide)
  rw [e8]
  replace hQ : ∀ W', Below w.heap.size w W' → Q .normal ((a8.put (some 38) (undef)).put (some 39) (.bool false)) W' := by rw [← e8]; exact hQ
  clear e8 z7 g7_5 g7_6 g7_7 g7_30 g7_31 g7_32 g7_33 g7_34 g7_35 g7_36
  refine wpAnyM_take (i := 8) (v := undef) rfl (by kernel_rfl) (by kernel_rfl) (by kernel_rfl) (by kernel_rfl) (hp _ _) (yieldsG_not ((wanted_at (ops := opsA) (b := true) rfl rfl g8_33).trans rfl)) hS1 ?_
  obtain ⟨a9, e9⟩ : ∃ x, a8.put opsA[8].dst (undef) = x := ⟨_, rfl⟩
  have z9 : a9.tmps.size = 42 := by rw [← e9]; exact put_size.trans z8
  have g9_5 : a9.eval (.tmp 5) = .pointer (some ⟨TB, 0, none⟩) := by rw [← e9]; exact (put_ne (by decide)).trans g8_5
  have g9_6 : a9.eval (.tmp 6) = .pointer (some ⟨OB, 0, none⟩) := by rw [← e9]; exact (put_ne (by decide)).trans g8_6
  have g9_7 : a9.eval (.tmp 7) = .int .i64 (an : Int) := by rw [← e9]; exact (put_ne (by decide)).trans g8_7
  have g9_30 : a9.eval (.tmp 30) = setV f := by rw [← e9]; exact (put_ne (by decide)).trans g8_30
  have g9_31 : a9.eval (.tmp 31) = .int .i64 (an : Int) := by rw [← e9]; exact (put_ne (by decide)).trans g8_31
  have g9_32 : a9.eval (.tmp 32) = .bool false := by rw [← e9]; exact (put_ne (by decide)).trans g8_32
  have g9_33 : a9.eval (.tmp 33) = .bool false := by rw [← e9]; exact (put_ne (by decide)).trans g8_33
  have g9_34 : a9.eval (.tmp 34) = undef := by rw [← e9]; exact (put_ne (by decide)).trans g8_34
  have g9_35 : a9.eval (.tmp 35) = undef := by rw [← e9]; exact (put_ne (by decide)).trans g8_35
  have g9_36 : a9.eval (.tmp 36) = undef := by rw [← e9]; exact (put_ne (by decide)).trans g8_36
  have g9_37 : a9.eval (.tmp 37) = undef := by rw [← e9]; exact (put_ne (by decide)).trans g8_37
  have g9_38 : a9.eval (.tmp 38) = undef := by rw [← e9]; exact put_eq (by rw [z8]; decide)
  rw [e9]
  replace hQ : ∀ W', Below w.heap.size w W' → Q .normal (a9.put (some 39) (.bool false)) W' := by rw [← e9]; exact hQ
  clear e9 z8 g8_5 g8_6 g8_7 g8_30 g8_31 g8_32 g8_33 g8_34 g8_35 g8_36 g8_37
  refine wpAnyM_take (i := 9) (v := .bool false) rfl (by kernel_rfl) (by kernel_rfl) (by kernel_rfl) (by kernel_rfl) (hp _ _) (yieldsG_pick rfl rfl g9_33 rfl) hS1 ?_
  obtain ⟨a10, e10⟩ : ∃ x, a9.put opsA[9].dst (.bool false) = x := ⟨_, rfl⟩
  have z10 : a10.tmps.size = 42 := by rw [← e10]; exact put_size.trans z9
  have g10_5 : a10.eval (.tmp 5) = .pointer (some ⟨TB, 0, none⟩) := by rw [← e10]; exact (put_ne (by decide)).trans g9_5
  have g10_6 : a10.eval (.tmp 6) = .pointer (some ⟨OB, 0, none⟩) := by rw [← e10]; exact (put_ne (by decide)).trans g9_6
  have g10_7 : a10.eval (.tmp 7) = .int .i64 (an : Int) := by rw [← e10]; exact (put_ne (by decide)).trans g9_7
  have g10_30 : a10.eval (.tmp 30) = setV f := by rw [← e10]; exact (put_ne (by decide)).trans g9_30
  have g10_31 : a10.eval (.tmp 31) = .int .i64 (an : Int) := by rw [← e10]; exact (put_ne (by decide)).trans g9_31
  have g10_32 : a10.eval (.tmp 32) = .bool false := by rw [← e10]; exact (put_ne (by decide)).trans g9_32
  have g10_33 : a10.eval (.tmp 33) = .bool false := by rw [← e10]; exact (put_ne (by decide)).trans g9_33
  have g10_34 : a10.eval (.tmp 34) = undef := by rw [← e10]; exact (put_ne (by decide)).trans g9_34
  have g10_35 : a10.eval (.tmp 35) = undef := by rw [← e10]; exact (put_ne (by decide)).trans g9_35
  have g10_36 : a10.eval (.tmp 36) = undef := by rw [← e10]; exact (put_ne (by decide)).trans g9_36
  have g10_37 : a10.eval (.tmp 37) = undef := by rw [← e10]; exact (put_ne (by decide)).trans g9_37
  have g10_38 : a10.eval (.tmp 38) = undef := by rw [← e10]; exact (put_ne (by decide)).trans g9_38
  have g10_39 : a10.eval (.tmp 39) = .bool false := by rw [← e10]; exact put_eq (by rw [z9]; decide)
  rw [e10]
  replace hQ : ∀ W', Below w.heap.size w W' → Q .normal a10 W' := by rw [← e10]; exact hQ
  clear e10 z9 g9_5 g9_6 g9_7 g9_30 g9_31 g9_32 g9_33 g9_34 g9_35 g9_36 g9_37 g9_38
  exact wpAnyM_done (by kernel_rfl) (hQ w1 b1) _
end Go.Proofs.Ytkolfddajcmnaaa
