/- What a place makes and takes: the program's InsDef and the model's answer alike, for every place. -/
import Derived.Test.YtgjojajodkagbaaRows
import Derived.WalkKit
import Derived.ProofKit
import Derived.OpenShut
import Derived.Below
import Derived.Laws.ResultCell
namespace Go.Proofs.Ytgjojajodkagbaa
open Go.ChangeShapes Go.WideShapes Go.ChangeAt Go.RowKit
set_option linter.unusedVariables false

theorem Bel.after {a b c : World} (h : Below a.heap.size a b) (k : Below b.heap.size b c) : Below a.heap.size a c := h.trans (k.mono h.size)

theorem Bel.alloc (w : World) (o : Obj) : Below w.heap.size w (w.alloc o) := (Below.refl _ _).alloc (Nat.le_refl _) o
/-- A cell of a new block, in a later world. -/
theorem box_cell {w w2 : World} {o : Obj} (h : Below (w.alloc o).heap.size (w.alloc o) w2) (j : Nat) : w2.cell? ⟨w.heap.size, j, none⟩ = (w.alloc o).cell? ⟨w.heap.size, j, none⟩ := h.cell (by simp)
theorem Bel.keeps {w w' : World} (h : Below w.heap.size w w') {p : Addr} {v : Value} (hc : w.cell? p = some v) : w'.cell? p = some v := by
  rw [h.cell (World.block_lt_of_cell? w _ hc)]
  exact hc

/-- Is it an op of words? -/
def wordOkV (op : Int) : Bool := decide (1 ≤ op ∧ op ≤ 10)
theorem wordOkV_yes {op : Int} (h1 : 1 ≤ op) (h2 : op ≤ 10) : wordOkV op = true := by simp [wordOkV, h1, h2]
theorem wordOkV_lo {op : Int} (h1 : ¬ 1 ≤ op) : wordOkV op = false := by simp [wordOkV, h1]
theorem wordOkV_hi {op : Int} (h1 : ¬ op ≤ 10) : wordOkV op = false := by simp [wordOkV, h1]

theorem spec_wordOk (op : Int) (w : World) :
    Calls Try.prog 53 #[.int .i64 op] w fun e w' => e = .returned (.bool (wordOkV op)) ∧ w' = w := by
  by_cases h1 : 1 ≤ op
  · by_cases h2 : op ≤ 10
    · rw [wordOkV_yes h1 h2]
      go_enter Try.func53, Try.ntmps53
      go_wp2
      go_ret
      exact ⟨rfl, rfl⟩
    · rw [wordOkV_hi h2]
      go_enter Try.func53, Try.ntmps53
      go_wp2
      go_ret
      exact ⟨rfl, rfl⟩
  · rw [wordOkV_lo h1]
    go_enter Try.func53, Try.ntmps53
    go_wp2
    go_ret
    exact ⟨rfl, rfl⟩

theorem impl_wordOk (op : Int) (w : World) :
    Calls Try.prog 78 #[.int .i64 op] w fun e w' => e = .returned (.bool (wordOkV op)) ∧ w' = w := by
  by_cases h1 : 1 ≤ op
  · by_cases h2 : op ≤ 10
    · rw [wordOkV_yes h1 h2]
      have h3 : op < 11 := by omega
      go_enter Try.func78, Try.ntmps78
      go_wp2
      go_ret
      exact ⟨rfl, rfl⟩
    · rw [wordOkV_hi h2]
      have h3 : ¬ op < 11 := by omega
      go_enter Try.func78, Try.ntmps78
      go_wp2
      go_ret
      exact ⟨rfl, rfl⟩
  · rw [wordOkV_lo h1]
    go_enter Try.func78, Try.ntmps78
    go_wp2
    go_ret
    exact ⟨rfl, rfl⟩

/-- A place, as a value. -/
def insV (op d a b n : Int) : Value := .agg #[.int .i64 op, .int .i64 d, .int .i64 a, .int .i64 b, .int .i64 n]

theorem toIns_any (op d a b n : Int) (w : World) :
    Calls Try.prog 66 #[.agg #[.int .i64 op, .int .i64 d, .int .i64 a, .int .i64 b, .int .i64 n]] w fun e w' => e = .returned (.agg #[.int .i64 op, .int .i64 d, .int .i64 a, .int .i64 b, .int .i64 n]) ∧ Below w.heap.size w w' := by
  go_enter Try.func66, Try.ntmps66
  go_wp2
  refine bodyPost_ret (v := .agg #[.int .i64 op, .int .i64 d, .int .i64 a, .int .i64 b, .int .i64 n]) (by simp [results, Try.results66, go_sem]) rfl ?_
  exact ⟨rfl, by repeat (first | exact Below.refl _ _ | apply Below.drew | refine Below.alloc ?_ (by simp <;> omega) _ | refine Below.setCell ?_ (by simp <;> omega) _)⟩

theorem op_cases (op : Int) : op = 20 ∨ op = 21 ∨ op = 22 ∨ op = 23 ∨ op = 24 ∨ op = 25 ∨ (((op == 20) = false ∧ (op == 21) = false ∧ (op == 22) = false ∧ (op == 23) = false ∧ (op == 24) = false ∧ (op == 25) = false) ∧ ((1 ≤ op ∧ op ≤ 10) ∨ ¬ 1 ≤ op ∨ (1 ≤ op ∧ ¬ op ≤ 10))) := by
  simp only [beq_eq_false_iff_ne, ne_eq]
  omega

/-- Does an op make a value? -/
def makesV (op : Int) : Bool := decide ((1 ≤ op ∧ op ≤ 10) ∨ op = 20 ∨ op = 21 ∨ op = 24 ∨ op = 25)
/-- What a place makes. -/
def insDefV (op d : Int) : Int := if makesV op = true then d else -1
/-- The same, 0 where nothing is made. -/
def madeV (op d : Int) : Int := if makesV op = true then d else 0
/-- A place by its kind. -/
def placeV (op d a b n : Int) : Value :=
  if op = 20 then .iface 134 (.agg #[.int .i64 d, .int .i64 n])
  else if op = 21 then .iface 136 (.agg #[.int .i64 d, .int .i64 a])
  else if op = 22 then .iface 138 (.agg #[.int .i64 a, .int .i64 b])
  else if op = 23 then .iface 140 (.agg #[.int .i64 a])
  else if op = 24 then .iface 142 (.agg #[.int .i64 d])
  else if op = 25 then .iface 143 (.agg #[.int .i64 d, .int .i64 a])
  else if 1 ≤ op ∧ op ≤ 10 then .iface 145 (.agg #[.int .i64 op, .int .i64 d, .int .i64 a, .int .i64 b])
  else .nilIface

theorem makesV_word {op : Int} (h : 1 ≤ op) (h1 : op ≤ 10) : makesV op = true := by simp [makesV, h, h1]
theorem makesV_none {op : Int} (e0 : (op == 20) = false) (e1 : (op == 21) = false) (e2 : (op == 22) = false) (e3 : (op == 23) = false) (e4 : (op == 24) = false) (e5 : (op == 25) = false) (h : ¬ (1 ≤ op ∧ op ≤ 10)) : makesV op = false := by
  simp only [beq_eq_false_iff_ne, ne_eq] at e0 e1 e2 e3 e4 e5
  simp only [makesV, decide_eq_false_iff_not]
  omega
theorem insDefV_word {op d : Int} (h : 1 ≤ op) (h1 : op ≤ 10) : insDefV op d = d := by simp [insDefV, makesV_word h h1]
theorem insDefV_none {op d : Int} (e0 : (op == 20) = false) (e1 : (op == 21) = false) (e2 : (op == 22) = false) (e3 : (op == 23) = false) (e4 : (op == 24) = false) (e5 : (op == 25) = false) (h : ¬ (1 ≤ op ∧ op ≤ 10)) : insDefV op d = -1 := by simp [insDefV, makesV_none e0 e1 e2 e3 e4 e5 h]
theorem placeV_word {op d a b n : Int} (e0 : (op == 20) = false) (e1 : (op == 21) = false) (e2 : (op == 22) = false) (e3 : (op == 23) = false) (e4 : (op == 24) = false) (e5 : (op == 25) = false) (h : 1 ≤ op) (h1 : op ≤ 10) : placeV op d a b n = .iface 145 (.agg #[.int .i64 op, .int .i64 d, .int .i64 a, .int .i64 b]) := by
  simp only [beq_eq_false_iff_ne, ne_eq] at e0 e1 e2 e3 e4 e5
  simp [placeV, e0, e1, e2, e3, e4, e5, h, h1]
theorem placeV_none {op d a b n : Int} (e0 : (op == 20) = false) (e1 : (op == 21) = false) (e2 : (op == 22) = false) (e3 : (op == 23) = false) (e4 : (op == 24) = false) (e5 : (op == 25) = false) (h : ¬ (1 ≤ op ∧ op ≤ 10)) : placeV op d a b n = .nilIface := by
  simp only [beq_eq_false_iff_ne, ne_eq] at e0 e1 e2 e3 e4 e5
  simp only [placeV, e0, e1, e2, e3, e4, e5, h, if_false]

set_option maxHeartbeats 1000000 in
theorem placeOf_any (op d a b n : Int) (w : World) :
    Calls Try.prog 69 #[.agg #[.int .i64 op, .int .i64 d, .int .i64 a, .int .i64 b, .int .i64 n]] w fun e w' => e = .returned (placeV op d a b n) ∧ Below w.heap.size w w' := by
  rcases op_cases op with h | h | h | h | h | h | ⟨⟨e0, e1, e2, e3, e4, e5⟩, ⟨h, h1⟩ | h | ⟨h1, h⟩⟩
  all_goals
    go_enter Try.func69, Try.ntmps69
    go_wp2
    go_ret
    exact ⟨by first | (simp [placeV, h]; done) | (rw [placeV_word e0 e1 e2 e3 e4 e5 h h1]; rfl) | (rw [placeV_none e0 e1 e2 e3 e4 e5 (by omega)]; rfl), by repeat (first | exact Below.refl _ _ | apply Below.drew | refine Below.alloc ?_ (by simp <;> omega) _ | refine Below.setCell ?_ (by simp <;> omega) _)⟩

/-- An assertion to a struct type, with its flag. -/
theorem assert_yes {P : Program} {t x : TypeId} {fs : Array Field} (hu : P.underlying t = some (.struct fs)) (v : Value) (w : World) : (Instr.typeAssert (.iface t v) x t true).run P w = .ok (.tuple #[v, .bool true]) w := by
  simp [Instr.typeAssert, run_underlying hu]
theorem assert_no {P : Program} {t x : TypeId} {fs : Array Field} {z : Value} (hu : P.underlying t = some (.struct fs)) (hz : (P.info? t).map (fun i => i.zero) = some (some z)) (t' : TypeId) (v : Value) (w : World) (hne : t' ≠ t) : (Instr.typeAssert (.iface t' v) x t true).run P w = .ok (.tuple #[z, .bool false]) w := by
  obtain ⟨j, hj, hz'⟩ := Option.map_eq_some_iff.1 hz
  simp [Instr.typeAssert, run_underlying hu, hne, zeroValue, typeInfo, hj, hz']
theorem assert_nil {P : Program} {t x : TypeId} {fs : Array Field} {z : Value} (hu : P.underlying t = some (.struct fs)) (hz : (P.info? t).map (fun i => i.zero) = some (some z)) (w : World) : (Instr.typeAssert .nilIface x t true).run P w = .ok (.tuple #[z, .bool false]) w := by
  obtain ⟨j, hj, hz'⟩ := Option.map_eq_some_iff.1 hz
  simp [Instr.typeAssert, run_underlying hu, zeroValue, typeInfo, hj, hz']

theorem wordPlace_yes (v : Value) (w : World) : (Instr.typeAssert (.iface 145 v) 121 145 true).run Try.prog w = .ok (.tuple #[v, .bool true]) w := assert_yes Try.underlying145 v w
theorem wordPlace_no (t : TypeId) (v : Value) (w : World) (h : t ≠ 145) : (Instr.typeAssert (.iface t v) 121 145 true).run Try.prog w = .ok (.tuple #[.agg #[.int .i64 0, .int .i64 0, .int .i64 0, .int .i64 0], .bool false]) w := assert_no Try.underlying145 (by kernel_rfl) t v w h
theorem wordPlace_nil (w : World) : (Instr.typeAssert .nilIface 121 145 true).run Try.prog w = .ok (.tuple #[.agg #[.int .i64 0, .int .i64 0, .int .i64 0, .int .i64 0], .bool false]) w := assert_nil Try.underlying145 (by kernel_rfl) w
theorem constPlace_yes (v : Value) (w : World) : (Instr.typeAssert (.iface 134 v) 121 134 true).run Try.prog w = .ok (.tuple #[v, .bool true]) w := assert_yes Try.underlying134 v w
theorem constPlace_no (t : TypeId) (v : Value) (w : World) (h : t ≠ 134) : (Instr.typeAssert (.iface t v) 121 134 true).run Try.prog w = .ok (.tuple #[.agg #[.int .i64 0, .int .i64 0], .bool false]) w := assert_no Try.underlying134 (by kernel_rfl) t v w h
theorem constPlace_nil (w : World) : (Instr.typeAssert .nilIface 121 134 true).run Try.prog w = .ok (.tuple #[.agg #[.int .i64 0, .int .i64 0], .bool false]) w := assert_nil Try.underlying134 (by kernel_rfl) w
theorem loadPlace_yes (v : Value) (w : World) : (Instr.typeAssert (.iface 136 v) 121 136 true).run Try.prog w = .ok (.tuple #[v, .bool true]) w := assert_yes Try.underlying136 v w
theorem loadPlace_no (t : TypeId) (v : Value) (w : World) (h : t ≠ 136) : (Instr.typeAssert (.iface t v) 121 136 true).run Try.prog w = .ok (.tuple #[.agg #[.int .i64 0, .int .i64 0], .bool false]) w := assert_no Try.underlying136 (by kernel_rfl) t v w h
theorem loadPlace_nil (w : World) : (Instr.typeAssert .nilIface 121 136 true).run Try.prog w = .ok (.tuple #[.agg #[.int .i64 0, .int .i64 0], .bool false]) w := assert_nil Try.underlying136 (by kernel_rfl) w
theorem storePlace_yes (v : Value) (w : World) : (Instr.typeAssert (.iface 138 v) 121 138 true).run Try.prog w = .ok (.tuple #[v, .bool true]) w := assert_yes Try.underlying138 v w
theorem storePlace_no (t : TypeId) (v : Value) (w : World) (h : t ≠ 138) : (Instr.typeAssert (.iface t v) 121 138 true).run Try.prog w = .ok (.tuple #[.agg #[.int .i64 0, .int .i64 0], .bool false]) w := assert_no Try.underlying138 (by kernel_rfl) t v w h
theorem storePlace_nil (w : World) : (Instr.typeAssert .nilIface 121 138 true).run Try.prog w = .ok (.tuple #[.agg #[.int .i64 0, .int .i64 0], .bool false]) w := assert_nil Try.underlying138 (by kernel_rfl) w
theorem outPlace_yes (v : Value) (w : World) : (Instr.typeAssert (.iface 140 v) 121 140 true).run Try.prog w = .ok (.tuple #[v, .bool true]) w := assert_yes Try.underlying140 v w
theorem outPlace_no (t : TypeId) (v : Value) (w : World) (h : t ≠ 140) : (Instr.typeAssert (.iface t v) 121 140 true).run Try.prog w = .ok (.tuple #[.agg #[.int .i64 0], .bool false]) w := assert_no Try.underlying140 (by kernel_rfl) t v w h
theorem outPlace_nil (w : World) : (Instr.typeAssert .nilIface 121 140 true).run Try.prog w = .ok (.tuple #[.agg #[.int .i64 0], .bool false]) w := assert_nil Try.underlying140 (by kernel_rfl) w
theorem readPlace_yes (v : Value) (w : World) : (Instr.typeAssert (.iface 142 v) 121 142 true).run Try.prog w = .ok (.tuple #[v, .bool true]) w := assert_yes Try.underlying142 v w
theorem readPlace_no (t : TypeId) (v : Value) (w : World) (h : t ≠ 142) : (Instr.typeAssert (.iface t v) 121 142 true).run Try.prog w = .ok (.tuple #[.agg #[.int .i64 0], .bool false]) w := assert_no Try.underlying142 (by kernel_rfl) t v w h
theorem readPlace_nil (w : World) : (Instr.typeAssert .nilIface 121 142 true).run Try.prog w = .ok (.tuple #[.agg #[.int .i64 0], .bool false]) w := assert_nil Try.underlying142 (by kernel_rfl) w
theorem copyPlace_yes (v : Value) (w : World) : (Instr.typeAssert (.iface 143 v) 121 143 true).run Try.prog w = .ok (.tuple #[v, .bool true]) w := assert_yes Try.underlying143 v w
theorem copyPlace_no (t : TypeId) (v : Value) (w : World) (h : t ≠ 143) : (Instr.typeAssert (.iface t v) 121 143 true).run Try.prog w = .ok (.tuple #[.agg #[.int .i64 0, .int .i64 0], .bool false]) w := assert_no Try.underlying143 (by kernel_rfl) t v w h
theorem copyPlace_nil (w : World) : (Instr.typeAssert .nilIface 121 143 true).run Try.prog w = .ok (.tuple #[.agg #[.int .i64 0, .int .i64 0], .bool false]) w := assert_nil Try.underlying143 (by kernel_rfl) w

set_option maxHeartbeats 1000000 in
set_option maxRecDepth 100000 in
theorem placeDef_any (op d a b n : Int) (w : World) :
    Calls Try.prog 70 #[placeV op d a b n] w fun e w' => e = .returned (.tuple #[.int .i64 (madeV op d), .bool (makesV op)]) ∧ Below w.heap.size w w' := by
  rcases op_cases op with h | h | h | h | h | h | ⟨⟨e0, e1, e2, e3, e4, e5⟩, ⟨h, h1⟩ | h | ⟨h1, h⟩⟩
  all_goals
    first | (subst h; simp only [placeV, if_true, if_false, Int.reduceEq]) | (rw [placeV_word e0 e1 e2 e3 e4 e5 h h1]) | (rw [placeV_none e0 e1 e2 e3 e4 e5 (by omega)])
    have y0 := wordPlace_yes
    have n0 := wordPlace_no
    have z0 := wordPlace_nil
    have y1 := constPlace_yes
    have n1 := constPlace_no
    have z1 := constPlace_nil
    have y2 := loadPlace_yes
    have n2 := loadPlace_no
    have z2 := loadPlace_nil
    have y3 := readPlace_yes
    have n3 := readPlace_no
    have z3 := readPlace_nil
    have y4 := copyPlace_yes
    have n4 := copyPlace_no
    have z4 := copyPlace_nil
    go_enter Try.func70, Try.ntmps70
    go_wp2
    go_ret2
    exact ⟨by first | (simp [madeV, makesV]; done) | (rw [madeV, makesV_word h h1]; rfl) | (rw [madeV, makesV_none e0 e1 e2 e3 e4 e5 (by omega)]; rfl), by repeat (first | exact Below.refl _ _ | apply Below.drew | refine Below.alloc ?_ (by simp <;> omega) _ | refine Below.setCell ?_ (by simp <;> omega) _)⟩

end Go.Proofs.Ytgjojajodkagbaa
