/- The struct arguments of the laws, read as numbers. What a place makes and takes: the program's InsDef and the model's answer alike, for every place. Programs in memory: what a value of type Fn reads as, kept while the world only grows; the laws' own Fn, read. Lists of numbers in memory: compared, marked, held against the marks. What places and ends take: the program's InsUses and TermUses and the model's answer alike, each in new memory. -/
import Derived.Test.YtjfogpbhacadbaaRows
import Derived.WalkKit
import Derived.ProofKit
import Derived.OpenShut
import Derived.Lib.SmallJoins
import Derived.Below
import Derived.Laws.ResultCell
import Derived.Deep.Slices
import Derived.Handy
import Derived.Deep.QuietTactic
import Derived.BigQuiet
namespace Go.Proofs.Ytjfogpbhacadbaa
open Go.ChangeShapes Go.WideShapes Go.ChangeAt Go.RowKit
set_option linter.unusedVariables false

/-- A field of a struct, read. -/
theorem trod_field {H : Type} {enc : TypeId × Value → H} {P : Program} {w : World} {base : Nat} {spare : Nat → Bool} {held : Bool} {fuel : Nat} {t : TypeId} {fs : Array Field} {cs : List Value} {x : DataW H × List MemPlace}
    (ht : P.underlying t = some (.struct fs)) (h : DataW.trod enc P w base spare held fuel t cs = some x) (i : Nat) {f : Field} (hi : fs[i]? = some f) :
    ∃ n y, DataW.trod enc P w base spare held n f.type ((cs.drop f.offset).take (P.cellsOf f.type)) = some y := by
  obtain ⟨xs, n, _, _, _, hlen, hf⟩ := DataW.trod_struct ht h
  have hb : i < xs.length := by
    rw [hlen]
    by_cases hb : i < fs.size
    · exact hb
    · rw [Array.getElem?_eq_none (by omega)] at hi
      cases hi
  exact ⟨n, xs[i], by rw [hf i f hi, List.getElem?_eq_getElem hb]⟩

theorem trod_len {H : Type} {enc : TypeId × Value → H} {P : Program} {w : World} {base : Nat} {spare : Nat → Bool} {held : Bool} {fuel : Nat} {t : TypeId} {fs : Array Field} {cs : List Value} {x : DataW H × List MemPlace}
    (ht : P.underlying t = some (.struct fs)) (h : DataW.trod enc P w base spare held fuel t cs = some x) : cs.length = P.cellsOf t := by
  obtain ⟨xs, n, _, _, hl, _, _⟩ := DataW.trod_struct ht h
  exact hl

theorem take_one {c : Value} {cs : List Value} {o : Nat} (h : (cs.drop o).take 1 = [c]) : cs[o]? = some c := by
  have h2 := congrArg (fun l => l[0]?) h
  simpa using h2

/-- A field of a struct that is a number. -/
theorem trod_field_int {H : Type} {enc : TypeId × Value → H} {P : Program} {w : World} {base : Nat} {spare : Nat → Bool} {held : Bool} {fuel : Nat} {t ti : TypeId} {fs : Array Field} {cs : List Value} {x : DataW H × List MemPlace}
    (ht : P.underlying t = some (.struct fs)) (hu : P.underlying ti = some (.int .i64)) (hc : P.cellsOf ti = 1) (h : DataW.trod enc P w base spare held fuel t cs = some x) (i o : Nat) (hi : (fs[i]?).map (fun f => (f.type, f.offset)) = some (ti, o)) :
    ∃ z : Int, cs[o]? = some (.int .i64 z) ∧ (Lit.int .i64 z).wf = true := by
  obtain ⟨f, hf, he⟩ := Option.map_eq_some_iff.1 hi
  obtain ⟨n, y, hy⟩ := trod_field ht h i hf
  have e1 : f.type = ti := by cases he; rfl
  have e2 : f.offset = o := by cases he; rfl
  rw [e1, e2, hc] at hy
  obtain ⟨z, hz, _, hw⟩ := DataW.trod_int hu hy
  exact ⟨z, take_one hz, hw⟩

/-- A field of a struct that is a slice. -/
theorem trod_field_slice {H : Type} {enc : TypeId × Value → H} {P : Program} {w : World} {base : Nat} {spare : Nat → Bool} {held : Bool} {fuel : Nat} {t ti : TypeId} {fs : Array Field} {cs : List Value} {x : DataW H × List MemPlace}
    (ht : P.underlying t = some (.struct fs)) (hc : P.cellsOf ti = 1) (h : DataW.trod enc P w base spare held fuel t cs = some x) (i o : Nat) (hi : (fs[i]?).map (fun f => (f.type, f.offset)) = some (ti, o)) (ho : o < cs.length) :
    ∃ (c : Value) (n : Nat) (y : DataW H × List MemPlace), cs[o]? = some c ∧ DataW.trod enc P w base spare held n ti [c] = some y := by
  obtain ⟨f, hf, he⟩ := Option.map_eq_some_iff.1 hi
  obtain ⟨n, y, hy⟩ := trod_field ht h i hf
  have e1 : f.type = ti := by cases he; rfl
  have e2 : f.offset = o := by cases he; rfl
  rw [e1, e2, hc] at hy
  have h1 : (cs.drop o).take 1 = [cs[o]] := by
    rw [List.drop_eq_getElem_cons ho]
    rfl
  rw [h1] at hy
  exact ⟨cs[o], n, y, List.getElem?_eq_getElem ho, hy⟩

theorem cells_int : Try.prog.cellsOf 3 = 1 := by kernel_rfl

theorem cells_lIns : Try.prog.cellsOf 115 = 5 := by kernel_rfl

theorem cells_lTerm : Try.prog.cellsOf 50 = 4 := by kernel_rfl

theorem list5 {cs : List Value} {v0 v1 v2 v3 v4 : Value} (hl : cs.length = 5) (h0 : cs[0]? = some v0) (h1 : cs[1]? = some v1) (h2 : cs[2]? = some v2) (h3 : cs[3]? = some v3) (h4 : cs[4]? = some v4) : cs = [v0, v1, v2, v3, v4] := by
  match cs, hl with
  | [c0, c1, c2, c3, c4], _ => simp_all
theorem list4 {cs : List Value} {v0 v1 v2 v3 : Value} (hl : cs.length = 4) (h0 : cs[0]? = some v0) (h1 : cs[1]? = some v1) (h2 : cs[2]? = some v2) (h3 : cs[3]? = some v3) : cs = [v0, v1, v2, v3] := by
  match cs, hl with
  | [c0, c1, c2, c3], _ => simp_all

theorem readIns {H : Type} {enc : TypeId × Value → H} {w : World} {base : Nat} {spare : Nat → Bool} {held : Bool} {fuel : Nat} {cs : List Value} {y : DataW H × List MemPlace}
    (h : DataW.trod enc Try.prog w base spare held fuel 115 cs = some y) :
    ∃ op d a b n : Int, cs = [.int .i64 op, .int .i64 d, .int .i64 a, .int .i64 b, .int .i64 n] := by
  have hl := trod_len Try.underlying115 h
  rw [cells_lIns] at hl
  obtain ⟨x0, e0, _⟩ := trod_field_int Try.underlying115 Try.underlying3 cells_int h 0 0 rfl
  obtain ⟨x1, e1, _⟩ := trod_field_int Try.underlying115 Try.underlying3 cells_int h 1 1 rfl
  obtain ⟨x2, e2, _⟩ := trod_field_int Try.underlying115 Try.underlying3 cells_int h 2 2 rfl
  obtain ⟨x3, e3, _⟩ := trod_field_int Try.underlying115 Try.underlying3 cells_int h 3 3 rfl
  obtain ⟨x4, e4, _⟩ := trod_field_int Try.underlying115 Try.underlying3 cells_int h 4 4 rfl
  exact ⟨x0, x1, x2, x3, x4, list5 hl e0 e1 e2 e3 e4⟩

theorem readTerm {H : Type} {enc : TypeId × Value → H} {w : World} {base : Nat} {spare : Nat → Bool} {held : Bool} {fuel : Nat} {cs : List Value} {y : DataW H × List MemPlace}
    (h : DataW.trod enc Try.prog w base spare held fuel 50 cs = some y) :
    ∃ k a t e : Int, cs = [.int .i64 k, .int .i64 a, .int .i64 t, .int .i64 e] := by
  have hl := trod_len Try.underlying50 h
  rw [cells_lTerm] at hl
  obtain ⟨x0, e0, _⟩ := trod_field_int Try.underlying50 Try.underlying3 cells_int h 0 0 rfl
  obtain ⟨x1, e1, _⟩ := trod_field_int Try.underlying50 Try.underlying3 cells_int h 1 1 rfl
  obtain ⟨x2, e2, _⟩ := trod_field_int Try.underlying50 Try.underlying3 cells_int h 2 2 rfl
  obtain ⟨x3, e3, _⟩ := trod_field_int Try.underlying50 Try.underlying3 cells_int h 3 3 rfl
  exact ⟨x0, x1, x2, x3, list4 hl e0 e1 e2 e3⟩

theorem agg_of_cells {cs : Array Value} {l : List Value} (h : (Value.agg cs).cells.toList = l) : Value.agg cs = .agg l.toArray := by
  subst h
  rfl

set_option maxRecDepth 100000 in
theorem openIns {H : Type} {enc : TypeId × Value → H} {w : World} {base : Nat} {spare : Nat → Bool} {held : Bool} {r : Reach} {b0 : Nat} {v : Value} {d : DataW H} {p : List MemPlace}
    (hv : Value.okWide Try.prog w r b0 115 v) (h : DataW.Trod enc Try.prog w base spare held 115 v d p) :
    ∃ op d a b n : Int, v = .agg #[.int .i64 op, .int .i64 d, .int .i64 a, .int .i64 b, .int .i64 n] := by
  obtain ⟨cs, hv', hsz⟩ := okWide_struct Try.underlying115 hv
  obtain ⟨fuel, hf⟩ := h
  obtain ⟨op, d, a, b, n, hcs⟩ := readIns hf
  rw [hv'] at hcs
  exact ⟨op, d, a, b, n, hv'.trans (agg_of_cells hcs)⟩

set_option maxRecDepth 100000 in
theorem openTerm {H : Type} {enc : TypeId × Value → H} {w : World} {base : Nat} {spare : Nat → Bool} {held : Bool} {r : Reach} {b0 : Nat} {v : Value} {d : DataW H} {p : List MemPlace}
    (hv : Value.okWide Try.prog w r b0 50 v) (h : DataW.Trod enc Try.prog w base spare held 50 v d p) :
    ∃ k a t e : Int, v = .agg #[.int .i64 k, .int .i64 a, .int .i64 t, .int .i64 e] := by
  obtain ⟨cs, hv', hsz⟩ := okWide_struct Try.underlying50 hv
  obtain ⟨fuel, hf⟩ := h
  obtain ⟨k, a, t, e, hcs⟩ := readTerm hf
  rw [hv'] at hcs
  exact ⟨k, a, t, e, hv'.trans (agg_of_cells hcs)⟩
end Go.Proofs.Ytjfogpbhacadbaa

namespace Go.Proofs.Ytjfogpbhacadbaa
open Go.ChangeShapes Go.WideShapes Go.ChangeAt Go.RowKit
set_option linter.unusedVariables false

theorem Bel.after {a b c : World} (h : Below a.heap.size a b) (k : Below b.heap.size b c) : Below a.heap.size a c := h.trans (k.mono h.size)

theorem Bel.alloc (w : World) (o : Obj) : Below w.heap.size w (w.alloc o) := (Below.refl _ _).alloc (Nat.le_refl _) o
/-- A cell of a new block, in a later world. -/
theorem box_cell {w w2 : World} {o : Obj} (h : Below (w.alloc o).heap.size (w.alloc o) w2) (j : Nat) : w2.cell? ⟨w.heap.size, j, none⟩ = (w.alloc o).cell? ⟨w.heap.size, j, none⟩ := h.cell (by simp)
theorem Bel.keeps {w w' : World} (h : Below w.heap.size w w') {p : Addr} {v : Value} (hc : w.cell? p = some v) : w'.cell? p = some v := by
  rw [h.cell (World.block_lt_of_cell? w _ hc)]
  exact hc

/-- Is it an op of words? -/
def wordOkV (op : Int) : Bool := decide (1 ≤ op ∧ op ≤ 10)
theorem wordOkV_yes {op : Int} (h1 : 1 ≤ op) (h2 : op ≤ 10) : wordOkV op = true := by simp [wordOkV, h1, h2]
theorem wordOkV_lo {op : Int} (h1 : ¬ 1 ≤ op) : wordOkV op = false := by simp [wordOkV, h1]
theorem wordOkV_hi {op : Int} (h1 : ¬ op ≤ 10) : wordOkV op = false := by simp [wordOkV, h1]

theorem spec_wordOk (op : Int) (w : World) :
    Calls Try.prog 59 #[.int .i64 op] w fun e w' => e = .returned (.bool (wordOkV op)) ∧ w' = w := by
  by_cases h1 : 1 ≤ op
  · by_cases h2 : op ≤ 10
    · rw [wordOkV_yes h1 h2]
      go_enter Try.func59, Try.ntmps59
      go_wp2
      go_ret
      exact ⟨rfl, rfl⟩
    · rw [wordOkV_hi h2]
      go_enter Try.func59, Try.ntmps59
      go_wp2
      go_ret
      exact ⟨rfl, rfl⟩
  · rw [wordOkV_lo h1]
    go_enter Try.func59, Try.ntmps59
    go_wp2
    go_ret
    exact ⟨rfl, rfl⟩

theorem impl_wordOk (op : Int) (w : World) :
    Calls Try.prog 88 #[.int .i64 op] w fun e w' => e = .returned (.bool (wordOkV op)) ∧ w' = w := by
  by_cases h1 : 1 ≤ op
  · by_cases h2 : op ≤ 10
    · rw [wordOkV_yes h1 h2]
      have h3 : op < 11 := by omega
      go_enter Try.func88, Try.ntmps88
      go_wp2
      go_ret
      exact ⟨rfl, rfl⟩
    · rw [wordOkV_hi h2]
      have h3 : ¬ op < 11 := by omega
      go_enter Try.func88, Try.ntmps88
      go_wp2
      go_ret
      exact ⟨rfl, rfl⟩
  · rw [wordOkV_lo h1]
    go_enter Try.func88, Try.ntmps88
    go_wp2
    go_ret
    exact ⟨rfl, rfl⟩

/-- A place, as a value. -/
def insV (op d a b n : Int) : Value := .agg #[.int .i64 op, .int .i64 d, .int .i64 a, .int .i64 b, .int .i64 n]

theorem toIns_any (op d a b n : Int) (w : World) :
    Calls Try.prog 64 #[.agg #[.int .i64 op, .int .i64 d, .int .i64 a, .int .i64 b, .int .i64 n]] w fun e w' => e = .returned (.agg #[.int .i64 op, .int .i64 d, .int .i64 a, .int .i64 b, .int .i64 n]) ∧ Below w.heap.size w w' := by
  go_enter Try.func64, Try.ntmps64
  go_wp2
  refine bodyPost_ret (v := .agg #[.int .i64 op, .int .i64 d, .int .i64 a, .int .i64 b, .int .i64 n]) (by simp [results, Try.results64, go_sem]) rfl ?_
  exact ⟨rfl, by repeat (first | exact Below.refl _ _ | apply Below.drew | refine Below.alloc ?_ (by simp <;> omega) _ | refine Below.setCell ?_ (by simp <;> omega) _)⟩

theorem op_cases (op : Int) : op = 20 ∨ op = 21 ∨ op = 22 ∨ op = 23 ∨ op = 24 ∨ op = 25 ∨ (((op == 20) = false ∧ (op == 21) = false ∧ (op == 22) = false ∧ (op == 23) = false ∧ (op == 24) = false ∧ (op == 25) = false) ∧ ((1 ≤ op ∧ op ≤ 10) ∨ ¬ 1 ≤ op ∨ (1 ≤ op ∧ ¬ op ≤ 10))) := by
  simp only [beq_eq_false_iff_ne, ne_eq]
  omega

/-- Does an op make a value? -/
def makesV (op : Int) : Bool := decide ((1 ≤ op ∧ op ≤ 10) ∨ op = 20 ∨ op = 21 ∨ op = 24 ∨ op = 25)
/-- What a place makes. -/
def insDefV (op d : Int) : Int := if makesV op = true then d else -1
/-- The same, 0 where nothing is made. -/
def madeV (op d : Int) : Int := if makesV op = true then d else 0
/-- A place by its kind. -/
def placeV (op d a b n : Int) : Value :=
  if op = 20 then .iface 147 (.agg #[.int .i64 d, .int .i64 n])
  else if op = 21 then .iface 149 (.agg #[.int .i64 d, .int .i64 a])
  else if op = 22 then .iface 154 (.agg #[.int .i64 a, .int .i64 b])
  else if op = 23 then .iface 156 (.agg #[.int .i64 a])
  else if op = 24 then .iface 151 (.agg #[.int .i64 d])
  else if op = 25 then .iface 152 (.agg #[.int .i64 d, .int .i64 a])
  else if 1 ≤ op ∧ op ≤ 10 then .iface 145 (.agg #[.int .i64 op, .int .i64 d, .int .i64 a, .int .i64 b])
  else .nilIface

theorem makesV_word {op : Int} (h : 1 ≤ op) (h1 : op ≤ 10) : makesV op = true := by simp [makesV, h, h1]
theorem makesV_none {op : Int} (e0 : (op == 20) = false) (e1 : (op == 21) = false) (e2 : (op == 22) = false) (e3 : (op == 23) = false) (e4 : (op == 24) = false) (e5 : (op == 25) = false) (h : ¬ (1 ≤ op ∧ op ≤ 10)) : makesV op = false := by
  simp only [beq_eq_false_iff_ne, ne_eq] at e0 e1 e2 e3 e4 e5
  simp only [makesV, decide_eq_false_iff_not]
  omega
theorem insDefV_word {op d : Int} (h : 1 ≤ op) (h1 : op ≤ 10) : insDefV op d = d := by simp [insDefV, makesV_word h h1]
theorem insDefV_none {op d : Int} (e0 : (op == 20) = false) (e1 : (op == 21) = false) (e2 : (op == 22) = false) (e3 : (op == 23) = false) (e4 : (op == 24) = false) (e5 : (op == 25) = false) (h : ¬ (1 ≤ op ∧ op ≤ 10)) : insDefV op d = -1 := by simp [insDefV, makesV_none e0 e1 e2 e3 e4 e5 h]
theorem placeV_word {op d a b n : Int} (e0 : (op == 20) = false) (e1 : (op == 21) = false) (e2 : (op == 22) = false) (e3 : (op == 23) = false) (e4 : (op == 24) = false) (e5 : (op == 25) = false) (h : 1 ≤ op) (h1 : op ≤ 10) : placeV op d a b n = .iface 145 (.agg #[.int .i64 op, .int .i64 d, .int .i64 a, .int .i64 b]) := by
  simp only [beq_eq_false_iff_ne, ne_eq] at e0 e1 e2 e3 e4 e5
  simp [placeV, e0, e1, e2, e3, e4, e5, h, h1]
theorem placeV_none {op d a b n : Int} (e0 : (op == 20) = false) (e1 : (op == 21) = false) (e2 : (op == 22) = false) (e3 : (op == 23) = false) (e4 : (op == 24) = false) (e5 : (op == 25) = false) (h : ¬ (1 ≤ op ∧ op ≤ 10)) : placeV op d a b n = .nilIface := by
  simp only [beq_eq_false_iff_ne, ne_eq] at e0 e1 e2 e3 e4 e5
  simp only [placeV, e0, e1, e2, e3, e4, e5, h, if_false]

theorem spec_insDef (op d a b n : Int) (w : World) :
    Calls Try.prog 23 #[.agg #[.int .i64 op, .int .i64 d, .int .i64 a, .int .i64 b, .int .i64 n]] w fun e w' => e = .returned (.int .i64 (insDefV op d)) ∧ Below w.heap.size w w' := by
  rcases op_cases op with h | h | h | h | h | h | ⟨⟨e0, e1, e2, e3, e4, e5⟩, ⟨h, h1⟩ | h | ⟨h1, h⟩⟩
  all_goals
    go_enter Try.func23, Try.ntmps23
    go_wp2
    go_ret
    exact ⟨by first | (simp [insDefV, makesV, h]; done) | (rw [insDefV_word h h1]; rfl) | (rw [insDefV_none e0 e1 e2 e3 e4 e5 (by omega)]; rfl), by repeat (first | exact Below.refl _ _ | apply Below.drew | refine Below.alloc ?_ (by simp <;> omega) _ | refine Below.setCell ?_ (by simp <;> omega) _)⟩

set_option maxHeartbeats 1000000 in
theorem placeOf_any (op d a b n : Int) (w : World) :
    Calls Try.prog 72 #[.agg #[.int .i64 op, .int .i64 d, .int .i64 a, .int .i64 b, .int .i64 n]] w fun e w' => e = .returned (placeV op d a b n) ∧ Below w.heap.size w w' := by
  rcases op_cases op with h | h | h | h | h | h | ⟨⟨e0, e1, e2, e3, e4, e5⟩, ⟨h, h1⟩ | h | ⟨h1, h⟩⟩
  all_goals
    go_enter Try.func72, Try.ntmps72
    go_wp2
    go_ret
    exact ⟨by first | (simp [placeV, h]; done) | (rw [placeV_word e0 e1 e2 e3 e4 e5 h h1]; rfl) | (rw [placeV_none e0 e1 e2 e3 e4 e5 (by omega)]; rfl), by repeat (first | exact Below.refl _ _ | apply Below.drew | refine Below.alloc ?_ (by simp <;> omega) _ | refine Below.setCell ?_ (by simp <;> omega) _)⟩

/-- An assertion to a struct type, with its flag. -/
theorem assert_yes {P : Program} {t x : TypeId} {fs : Array Field} (hu : P.underlying t = some (.struct fs)) (v : Value) (w : World) : (Instr.typeAssert (.iface t v) x t true).run P w = .ok (.tuple #[v, .bool true]) w := by
  simp [Instr.typeAssert, run_underlying hu]
theorem assert_no {P : Program} {t x : TypeId} {fs : Array Field} {z : Value} (hu : P.underlying t = some (.struct fs)) (hz : (P.info? t).map (fun i => i.zero) = some (some z)) (t' : TypeId) (v : Value) (w : World) (hne : t' ≠ t) : (Instr.typeAssert (.iface t' v) x t true).run P w = .ok (.tuple #[z, .bool false]) w := by
  obtain ⟨j, hj, hz'⟩ := Option.map_eq_some_iff.1 hz
  simp [Instr.typeAssert, run_underlying hu, hne, zeroValue, typeInfo, hj, hz']
theorem assert_nil {P : Program} {t x : TypeId} {fs : Array Field} {z : Value} (hu : P.underlying t = some (.struct fs)) (hz : (P.info? t).map (fun i => i.zero) = some (some z)) (w : World) : (Instr.typeAssert .nilIface x t true).run P w = .ok (.tuple #[z, .bool false]) w := by
  obtain ⟨j, hj, hz'⟩ := Option.map_eq_some_iff.1 hz
  simp [Instr.typeAssert, run_underlying hu, zeroValue, typeInfo, hj, hz']

theorem wordPlace_yes (v : Value) (w : World) : (Instr.typeAssert (.iface 145 v) 128 145 true).run Try.prog w = .ok (.tuple #[v, .bool true]) w := assert_yes Try.underlying145 v w
theorem wordPlace_no (t : TypeId) (v : Value) (w : World) (h : t ≠ 145) : (Instr.typeAssert (.iface t v) 128 145 true).run Try.prog w = .ok (.tuple #[.agg #[.int .i64 0, .int .i64 0, .int .i64 0, .int .i64 0], .bool false]) w := assert_no Try.underlying145 (by kernel_rfl) t v w h
theorem wordPlace_nil (w : World) : (Instr.typeAssert .nilIface 128 145 true).run Try.prog w = .ok (.tuple #[.agg #[.int .i64 0, .int .i64 0, .int .i64 0, .int .i64 0], .bool false]) w := assert_nil Try.underlying145 (by kernel_rfl) w
theorem constPlace_yes (v : Value) (w : World) : (Instr.typeAssert (.iface 147 v) 128 147 true).run Try.prog w = .ok (.tuple #[v, .bool true]) w := assert_yes Try.underlying147 v w
theorem constPlace_no (t : TypeId) (v : Value) (w : World) (h : t ≠ 147) : (Instr.typeAssert (.iface t v) 128 147 true).run Try.prog w = .ok (.tuple #[.agg #[.int .i64 0, .int .i64 0], .bool false]) w := assert_no Try.underlying147 (by kernel_rfl) t v w h
theorem constPlace_nil (w : World) : (Instr.typeAssert .nilIface 128 147 true).run Try.prog w = .ok (.tuple #[.agg #[.int .i64 0, .int .i64 0], .bool false]) w := assert_nil Try.underlying147 (by kernel_rfl) w
theorem loadPlace_yes (v : Value) (w : World) : (Instr.typeAssert (.iface 149 v) 128 149 true).run Try.prog w = .ok (.tuple #[v, .bool true]) w := assert_yes Try.underlying149 v w
theorem loadPlace_no (t : TypeId) (v : Value) (w : World) (h : t ≠ 149) : (Instr.typeAssert (.iface t v) 128 149 true).run Try.prog w = .ok (.tuple #[.agg #[.int .i64 0, .int .i64 0], .bool false]) w := assert_no Try.underlying149 (by kernel_rfl) t v w h
theorem loadPlace_nil (w : World) : (Instr.typeAssert .nilIface 128 149 true).run Try.prog w = .ok (.tuple #[.agg #[.int .i64 0, .int .i64 0], .bool false]) w := assert_nil Try.underlying149 (by kernel_rfl) w
theorem storePlace_yes (v : Value) (w : World) : (Instr.typeAssert (.iface 154 v) 128 154 true).run Try.prog w = .ok (.tuple #[v, .bool true]) w := assert_yes Try.underlying154 v w
theorem storePlace_no (t : TypeId) (v : Value) (w : World) (h : t ≠ 154) : (Instr.typeAssert (.iface t v) 128 154 true).run Try.prog w = .ok (.tuple #[.agg #[.int .i64 0, .int .i64 0], .bool false]) w := assert_no Try.underlying154 (by kernel_rfl) t v w h
theorem storePlace_nil (w : World) : (Instr.typeAssert .nilIface 128 154 true).run Try.prog w = .ok (.tuple #[.agg #[.int .i64 0, .int .i64 0], .bool false]) w := assert_nil Try.underlying154 (by kernel_rfl) w
theorem outPlace_yes (v : Value) (w : World) : (Instr.typeAssert (.iface 156 v) 128 156 true).run Try.prog w = .ok (.tuple #[v, .bool true]) w := assert_yes Try.underlying156 v w
theorem outPlace_no (t : TypeId) (v : Value) (w : World) (h : t ≠ 156) : (Instr.typeAssert (.iface t v) 128 156 true).run Try.prog w = .ok (.tuple #[.agg #[.int .i64 0], .bool false]) w := assert_no Try.underlying156 (by kernel_rfl) t v w h
theorem outPlace_nil (w : World) : (Instr.typeAssert .nilIface 128 156 true).run Try.prog w = .ok (.tuple #[.agg #[.int .i64 0], .bool false]) w := assert_nil Try.underlying156 (by kernel_rfl) w
theorem readPlace_yes (v : Value) (w : World) : (Instr.typeAssert (.iface 151 v) 128 151 true).run Try.prog w = .ok (.tuple #[v, .bool true]) w := assert_yes Try.underlying151 v w
theorem readPlace_no (t : TypeId) (v : Value) (w : World) (h : t ≠ 151) : (Instr.typeAssert (.iface t v) 128 151 true).run Try.prog w = .ok (.tuple #[.agg #[.int .i64 0], .bool false]) w := assert_no Try.underlying151 (by kernel_rfl) t v w h
theorem readPlace_nil (w : World) : (Instr.typeAssert .nilIface 128 151 true).run Try.prog w = .ok (.tuple #[.agg #[.int .i64 0], .bool false]) w := assert_nil Try.underlying151 (by kernel_rfl) w
theorem copyPlace_yes (v : Value) (w : World) : (Instr.typeAssert (.iface 152 v) 128 152 true).run Try.prog w = .ok (.tuple #[v, .bool true]) w := assert_yes Try.underlying152 v w
theorem copyPlace_no (t : TypeId) (v : Value) (w : World) (h : t ≠ 152) : (Instr.typeAssert (.iface t v) 128 152 true).run Try.prog w = .ok (.tuple #[.agg #[.int .i64 0, .int .i64 0], .bool false]) w := assert_no Try.underlying152 (by kernel_rfl) t v w h
theorem copyPlace_nil (w : World) : (Instr.typeAssert .nilIface 128 152 true).run Try.prog w = .ok (.tuple #[.agg #[.int .i64 0, .int .i64 0], .bool false]) w := assert_nil Try.underlying152 (by kernel_rfl) w

set_option maxHeartbeats 1000000 in
set_option maxRecDepth 100000 in
theorem placeDef_any (op d a b n : Int) (w : World) :
    Calls Try.prog 71 #[placeV op d a b n] w fun e w' => e = .returned (.tuple #[.int .i64 (madeV op d), .bool (makesV op)]) ∧ Below w.heap.size w w' := by
  rcases op_cases op with h | h | h | h | h | h | ⟨⟨e0, e1, e2, e3, e4, e5⟩, ⟨h, h1⟩ | h | ⟨h1, h⟩⟩
  all_goals
    first | (subst h; simp only [placeV, if_true, if_false, Int.reduceEq]) | (rw [placeV_word e0 e1 e2 e3 e4 e5 h h1]) | (rw [placeV_none e0 e1 e2 e3 e4 e5 (by omega)])
    have y0 := wordPlace_yes
    have n0 := wordPlace_no
    have z0 := wordPlace_nil
    have y1 := constPlace_yes
    have n1 := constPlace_no
    have z1 := constPlace_nil
    have y2 := loadPlace_yes
    have n2 := loadPlace_no
    have z2 := loadPlace_nil
    have y3 := readPlace_yes
    have n3 := readPlace_no
    have z3 := readPlace_nil
    have y4 := copyPlace_yes
    have n4 := copyPlace_no
    have z4 := copyPlace_nil
    go_enter Try.func71, Try.ntmps71
    go_wp2
    go_ret2
    exact ⟨by first | (simp [madeV, makesV]; done) | (rw [madeV, makesV_word h h1]; rfl) | (rw [madeV, makesV_none e0 e1 e2 e3 e4 e5 (by omega)]; rfl), by repeat (first | exact Below.refl _ _ | apply Below.drew | refine Below.alloc ?_ (by simp <;> omega) _ | refine Below.setCell ?_ (by simp <;> omega) _)⟩

theorem impl_insDef (op d a b n : Int) (w : World) :
    Calls Try.prog 49 #[.agg #[.int .i64 op, .int .i64 d, .int .i64 a, .int .i64 b, .int .i64 n]] w fun e w' => e = .returned (.int .i64 (insDefV op d)) ∧ Below w.heap.size w w' := by
  go_enter Try.func49, Try.ntmps49
  go_wp2_with fail
  refine (placeOf_any op d a b n _).mono ?_
  rintro e w1 ⟨rfl, b1⟩
  go_wp2_with fail
  refine (placeDef_any op d a b n _).mono ?_
  rintro e w2 ⟨rfl, b2⟩
  have b0 : Below w.heap.size w (w.alloc (.cells #[.int .i64 op, .int .i64 d, .int .i64 a, .int .i64 b, .int .i64 n] 60)) := by repeat (first | exact Below.refl _ _ | apply Below.drew | refine Below.alloc ?_ (by simp <;> omega) _ | refine Below.setCell ?_ (by simp <;> omega) _)
  have b3 := Bel.after (Bel.after b0 b1) b2
  clear b0 b1 b2
  cases hm : makesV op
  · go_wp2
    go_ret
    exact ⟨by simp [insDefV, madeV, hm], b3⟩
  · go_wp2
    go_ret
    exact ⟨by simp [insDefV, madeV, hm], b3⟩
end Go.Proofs.Ytjfogpbhacadbaa

namespace Go.Proofs.Ytjfogpbhacadbaa
open Go.ChangeShapes Go.WideShapes Go.ChangeAt Go.RowKit
set_option linter.unusedVariables false

structure ArmD where
  fr : Int
  v : Int
structure PhiD where
  d : Int
  arms : List ArmD
structure InsD where
  op : Int
  d : Int
  a : Int
  b : Int
  n : Int
structure TermD where
  k : Int
  a : Int
  t : Int
  e : Int
structure BlockD where
  phis : List PhiD
  list : List InsD
  term : TermD
structure FnD where
  blocks : List BlockD
  values : Int

/-- What lies in blocks from lo on is as it was. -/
def Keeps (lo : Nat) (w w' : World) : Prop := ∀ p v, lo ≤ p.block → w.cell? p = some v → w'.cell? p = some v

theorem Keeps.of_below {w w' : World} (h : Below w.heap.size w w') (lo : Nat) : Keeps lo w w' := fun p v _ hc => Bel.keeps h hc
theorem Keeps.trans {lo : Nat} {a b c : World} (h : Keeps lo a b) (k : Keeps lo b c) : Keeps lo a c := fun p v hp hc => k p v hp (h p v hp hc)
theorem Keeps.setCell (w : World) (lo B o : Nat) (u : Value) (h : B < lo) : Keeps lo w (w.setCell ⟨B, o, none⟩ u) := fun p v hp hc => by
  rw [World.cell?_setCell_other _ _ _ _ (by intro e; rw [← e] at hp; exact absurd hp (by show ¬ lo ≤ B; omega))]
  exact hc
theorem Keeps.mono {lo lo' : Nat} {w w' : World} (h : Keeps lo w w') (hl : lo ≤ lo') : Keeps lo' w w' := fun p v hp hc => h p v (Nat.le_trans hl hp) hc

/-- A slice whose elements, of k cells each, lie in a block from lo on. -/
def ListAt {α : Type} (lo k : Nat) (E : World → Nat → Nat → α → Prop) (w : World) (v : Value) (l : List α) : Prop :=
  ∃ (a : Option Addr) (cap : Nat), v = .slice a l.length cap ∧ l.length ≤ 9223372036854775807 ∧ (0 < l.length → ∃ b off, a = some ⟨b, off, none⟩ ∧ lo ≤ b ∧ ∀ i x, l[i]? = some x → E w b (off + i * k) x)

theorem ListAt.keep {α : Type} {lo k : Nat} {E : World → Nat → Nat → α → Prop} {w w' : World} {v : Value} {l : List α} (h : ListAt lo k E w v l) (hE : ∀ b o x, lo ≤ b → E w b o x → E w' b o x) : ListAt lo k E w' v l := by
  obtain ⟨a, cap, rfl, hm, hc⟩ := h
  refine ⟨a, cap, rfl, hm, fun hp => ?_⟩
  obtain ⟨b, off, rfl, hb, hd⟩ := hc hp
  exact ⟨b, off, rfl, hb, fun i x hi => hE _ _ _ hb (hd i x hi)⟩

theorem ListAt.low {α : Type} {lo lo' k : Nat} {E E' : World → Nat → Nat → α → Prop} {w : World} {v : Value} {l : List α} (h : ListAt lo k E w v l) (hl : lo' ≤ lo) (hE : ∀ b o x, E w b o x → E' w b o x) : ListAt lo' k E' w v l := by
  obtain ⟨a, cap, rfl, hm, hc⟩ := h
  refine ⟨a, cap, rfl, hm, fun hp => ?_⟩
  obtain ⟨b, off, rfl, hb, hd⟩ := hc hp
  exact ⟨b, off, rfl, Nat.le_trans hl hb, fun i x hi => hE _ _ _ (hd i x hi)⟩

def ArmAt (w : World) (b o : Nat) (x : ArmD) : Prop := w.cell? ⟨b, o, none⟩ = some (.int .i64 x.fr) ∧ w.cell? ⟨b, o + 1, none⟩ = some (.int .i64 x.v)
def InsAt (w : World) (b o : Nat) (x : InsD) : Prop :=
  w.cell? ⟨b, o, none⟩ = some (.int .i64 x.op) ∧ w.cell? ⟨b, o + 1, none⟩ = some (.int .i64 x.d) ∧ w.cell? ⟨b, o + 2, none⟩ = some (.int .i64 x.a) ∧ w.cell? ⟨b, o + 3, none⟩ = some (.int .i64 x.b) ∧ w.cell? ⟨b, o + 4, none⟩ = some (.int .i64 x.n)
def PhiAt (lo : Nat) (w : World) (b o : Nat) (x : PhiD) : Prop :=
  w.cell? ⟨b, o, none⟩ = some (.int .i64 x.d) ∧ ∃ v, w.cell? ⟨b, o + 1, none⟩ = some v ∧ ListAt lo 2 ArmAt w v x.arms
def BlockAt (lo : Nat) (w : World) (b o : Nat) (x : BlockD) : Prop :=
  ∃ pv lv, w.cell? ⟨b, o, none⟩ = some pv ∧ w.cell? ⟨b, o + 1, none⟩ = some lv ∧ w.cell? ⟨b, o + 2, none⟩ = some (.int .i64 x.term.k) ∧ w.cell? ⟨b, o + 3, none⟩ = some (.int .i64 x.term.a) ∧ w.cell? ⟨b, o + 4, none⟩ = some (.int .i64 x.term.t) ∧ w.cell? ⟨b, o + 5, none⟩ = some (.int .i64 x.term.e) ∧
    ListAt lo 2 (PhiAt lo) w pv x.phis ∧ ListAt lo 5 InsAt w lv x.list
def FnAtLo (lo : Nat) (w : World) (v : Value) (F : FnD) : Prop := ∃ bv, v = .agg #[bv, .int .i64 F.values] ∧ ListAt lo 6 (BlockAt lo) w bv F.blocks
def FnAt (w : World) (v : Value) (F : FnD) : Prop := FnAtLo 0 w v F

theorem ArmAt.keep {lo : Nat} {w w' : World} {b o : Nat} {x : ArmD} (h : ArmAt w b o x) (hk : Keeps lo w w') (hb : lo ≤ b) : ArmAt w' b o x := ⟨hk _ _ hb h.1, hk _ _ hb h.2⟩
theorem InsAt.keep {lo : Nat} {w w' : World} {b o : Nat} {x : InsD} (h : InsAt w b o x) (hk : Keeps lo w w') (hb : lo ≤ b) : InsAt w' b o x :=
  ⟨hk _ _ hb h.1, hk _ _ hb h.2.1, hk _ _ hb h.2.2.1, hk _ _ hb h.2.2.2.1, hk _ _ hb h.2.2.2.2⟩
theorem arms_keep {lo : Nat} {w w' : World} {v : Value} {l : List ArmD} (h : ListAt lo 2 ArmAt w v l) (hk : Keeps lo w w') : ListAt lo 2 ArmAt w' v l := h.keep fun _ _ _ hb hx => hx.keep hk hb
theorem places_keep {lo : Nat} {w w' : World} {v : Value} {l : List InsD} (h : ListAt lo 5 InsAt w v l) (hk : Keeps lo w w') : ListAt lo 5 InsAt w' v l := h.keep fun _ _ _ hb hx => hx.keep hk hb
theorem PhiAt.keep {lo : Nat} {w w' : World} {b o : Nat} {x : PhiD} (h : PhiAt lo w b o x) (hk : Keeps lo w w') (hb : lo ≤ b) : PhiAt lo w' b o x := by
  obtain ⟨h1, v, h2, h3⟩ := h
  exact ⟨hk _ _ hb h1, v, hk _ _ hb h2, arms_keep h3 hk⟩
theorem phis_keep {lo : Nat} {w w' : World} {v : Value} {l : List PhiD} (h : ListAt lo 2 (PhiAt lo) w v l) (hk : Keeps lo w w') : ListAt lo 2 (PhiAt lo) w' v l := h.keep fun _ _ _ hb hx => hx.keep hk hb
theorem BlockAt.keep {lo : Nat} {w w' : World} {b o : Nat} {x : BlockD} (h : BlockAt lo w b o x) (hk : Keeps lo w w') (hb : lo ≤ b) : BlockAt lo w' b o x := by
  obtain ⟨pv, lv, h1, h2, h3, h4, h5, h6, h7, h8⟩ := h
  exact ⟨pv, lv, hk _ _ hb h1, hk _ _ hb h2, hk _ _ hb h3, hk _ _ hb h4, hk _ _ hb h5, hk _ _ hb h6, phis_keep h7 hk, places_keep h8 hk⟩
theorem blocks_keep {lo : Nat} {w w' : World} {v : Value} {l : List BlockD} (h : ListAt lo 6 (BlockAt lo) w v l) (hk : Keeps lo w w') : ListAt lo 6 (BlockAt lo) w' v l := h.keep fun _ _ _ hb hx => hx.keep hk hb
theorem FnAtLo.keep {lo : Nat} {w w' : World} {v : Value} {F : FnD} (h : FnAtLo lo w v F) (hk : Keeps lo w w') : FnAtLo lo w' v F := by
  obtain ⟨bv, hv, hb⟩ := h
  exact ⟨bv, hv, blocks_keep hb hk⟩
theorem FnAt.later {w w' : World} {v : Value} {F : FnD} (h : FnAt w v F) (hb : Below w.heap.size w w') : FnAt w' v F := FnAtLo.keep h (Keeps.of_below hb 0)

theorem PhiAt.low {lo lo' : Nat} (hl : lo' ≤ lo) {w : World} {b o : Nat} {x : PhiD} (h : PhiAt lo w b o x) : PhiAt lo' w b o x := by
  obtain ⟨h1, v, h2, h3⟩ := h
  exact ⟨h1, v, h2, h3.low hl fun _ _ _ hx => hx⟩
theorem BlockAt.low {lo lo' : Nat} (hl : lo' ≤ lo) {w : World} {b o : Nat} {x : BlockD} (h : BlockAt lo w b o x) : BlockAt lo' w b o x := by
  obtain ⟨pv, lv, h1, h2, h3, h4, h5, h6, h7, h8⟩ := h
  exact ⟨pv, lv, h1, h2, h3, h4, h5, h6, h7.low hl fun _ _ _ hx => hx.low hl, h8.low hl fun _ _ _ hx => hx⟩
theorem FnAtLo.low {lo lo' : Nat} (hl : lo' ≤ lo) {w : World} {v : Value} {F : FnD} (h : FnAtLo lo w v F) : FnAtLo lo' w v F := by
  obtain ⟨bv, hv, hb⟩ := h
  exact ⟨bv, hv, hb.low hl fun _ _ _ hx => hx.low hl⟩

/-! ### The laws' own Fn, read -/

theorem list_of {α : Type} {n : Nat} {Q : Nat → α → Prop} (h : ∀ i, i < n → ∃ x, Q i x) : ∃ l : List α, l.length = n ∧ ∀ i x, l[i]? = some x → Q i x := by
  induction n with
  | zero => exact ⟨[], rfl, fun i x hi => by simp at hi⟩
  | succ n ih =>
    obtain ⟨l, hl, hq⟩ := ih (fun i hi => h i (by omega))
    obtain ⟨x, hx⟩ := h n (by omega)
    refine ⟨l ++ [x], by simp [hl], fun i y hi => ?_⟩
    by_cases hin : i < n
    · rw [List.getElem?_append_left (by omega)] at hi
      exact hq i y hi
    · have hi2 : i < (l ++ [x]).length := by
        by_cases hlt : i < (l ++ [x]).length
        · exact hlt
        · rw [List.getElem?_eq_none (by omega)] at hi
          cases hi
      have e : i = n := by simp [hl] at hi2; omega
      subst e
      rw [List.getElem?_append_right (by omega)] at hi
      simp [hl] at hi
      subst hi
      exact hx

theorem readList {H : Type} {enc : TypeId × Value → H} {P : Program} {w : World} {base : Nat} {spare : Nat → Bool} {held : Bool} {fuel : Nat} {t e : TypeId} {v : Value} {y : DataW H × List MemPlace} {α : Type} {k : Nat} {E : World → Nat → Nat → α → Prop}
    (ht : P.underlying t = some (.slice e)) (hk : P.cellsOf e = k) (hpos : 0 < k)
    (hE : ∀ n cs y b o, DataW.trod enc P w base spare held n e cs = some y → (∀ i, i < k → w.cell? ⟨b, o + i, none⟩ = cs[i]?) → ∃ x, E w b o x)
    (h : DataW.trod enc P w base spare held fuel t [v] = some y) : ∃ l, ListAt 0 k E w v l := by
  rcases Go.Deep.open_slice ht h with ⟨hcs, _⟩ | ⟨a, len, cap, m, n, D, Pl, hcs, _, hl, hm, hmm, _, hel⟩
  · have hv : v = .slice none 0 0 := by simpa using hcs
    exact ⟨[], none, 0, hv, by simp, fun hp => absurd hp (by simp)⟩
  · have hv : v = .slice (some a) len cap := by simpa using hcs
    have hlm : len ≤ m := by rw [hmm]; split <;> omega
    rw [hk] at hel
    obtain ⟨b, off, spot⟩ := a
    have hcell : ∀ i, i < len → ∃ cs' : List Value, (∀ j, j < k → w.cell? ((Addr.mk b off spot).add (i * k + j)) = cs'[j]?) ∧ cs'.length = k ∧ DataW.trod enc P w base spare held n e cs' = some (D i, Pl i) := by
      intro i hi
      obtain ⟨cs', h1, h2⟩ := hel i (by omega)
      obtain ⟨_, h3, h4⟩ := World.cells?_some h1
      refine ⟨cs', fun j hj => ?_, h3, h2⟩
      rw [← Go.Deep.add_add]
      exact h4 j hj
    by_cases hl0 : len = 0
    · subst hl0
      exact ⟨[], some ⟨b, off, spot⟩, cap, hv, by simp, fun hp => absurd hp (by simp)⟩
    · have hspot : spot = none := by
        obtain ⟨cs', h1, h2, _⟩ := hcell 0 (by omega)
        have h3 := h1 0 (by omega)
        rw [List.getElem?_eq_getElem (by omega)] at h3
        simpa [Addr.add] using World.cell?_spot h3
      subst hspot
      have hall : ∀ i, i < len → ∃ x, E w b (off + i * k) x := by
        intro i hi
        obtain ⟨cs', h1, h2, h3⟩ := hcell i hi
        refine hE n cs' _ b (off + i * k) h3 (fun j hj => ?_)
        rw [← h1 j hj]
        congr 1
        unfold Addr.add
        split <;> simp_all [Nat.add_assoc]
      obtain ⟨l, hll, hlq⟩ := list_of hall
      refine ⟨l, some ⟨b, off, none⟩, cap, by rw [hll]; exact hv, by rw [hll]; unfold maxLen at hm; omega, fun _ => ⟨b, off, rfl, Nat.zero_le _, hlq⟩⟩

theorem cells_lArm : Try.prog.cellsOf 159 = 2 := by kernel_rfl
theorem cells_lPhi : Try.prog.cellsOf 106 = 2 := by kernel_rfl
theorem cells_lBlock : Try.prog.cellsOf 52 = 6 := by kernel_rfl
theorem cells_lFn : Try.prog.cellsOf 24 = 2 := by kernel_rfl
theorem cells_lArms : Try.prog.cellsOf 104 = 1 := by kernel_rfl
theorem cells_lPhis : Try.prog.cellsOf 47 = 1 := by kernel_rfl
theorem cells_lPlaces : Try.prog.cellsOf 48 = 1 := by kernel_rfl
theorem cells_lBlocks : Try.prog.cellsOf 22 = 1 := by kernel_rfl

section
variable {H : Type} {enc : TypeId × Value → H} {w : World} {base : Nat} {spare : Nat → Bool} {held : Bool}

theorem read_arm (n : Nat) (cs : List Value) (y : DataW H × List MemPlace) (b o : Nat) (h : DataW.trod enc Try.prog w base spare held n 159 cs = some y) (hc : ∀ i, i < 2 → w.cell? ⟨b, o + i, none⟩ = cs[i]?) : ∃ x, ArmAt w b o x := by
  obtain ⟨x0, e0, _⟩ := trod_field_int Try.underlying159 Try.underlying3 cells_int h 0 0 rfl
  obtain ⟨x1, e1, _⟩ := trod_field_int Try.underlying159 Try.underlying3 cells_int h 1 1 rfl
  exact ⟨⟨x0, x1⟩, (hc 0 (by omega)).trans e0, (hc 1 (by omega)).trans e1⟩

theorem read_ins (n : Nat) (cs : List Value) (y : DataW H × List MemPlace) (b o : Nat) (h : DataW.trod enc Try.prog w base spare held n 115 cs = some y) (hc : ∀ i, i < 5 → w.cell? ⟨b, o + i, none⟩ = cs[i]?) : ∃ x, InsAt w b o x := by
  obtain ⟨x0, e0, _⟩ := trod_field_int Try.underlying115 Try.underlying3 cells_int h 0 0 rfl
  obtain ⟨x1, e1, _⟩ := trod_field_int Try.underlying115 Try.underlying3 cells_int h 1 1 rfl
  obtain ⟨x2, e2, _⟩ := trod_field_int Try.underlying115 Try.underlying3 cells_int h 2 2 rfl
  obtain ⟨x3, e3, _⟩ := trod_field_int Try.underlying115 Try.underlying3 cells_int h 3 3 rfl
  obtain ⟨x4, e4, _⟩ := trod_field_int Try.underlying115 Try.underlying3 cells_int h 4 4 rfl
  exact ⟨⟨x0, x1, x2, x3, x4⟩, (hc 0 (by omega)).trans e0, (hc 1 (by omega)).trans e1, (hc 2 (by omega)).trans e2, (hc 3 (by omega)).trans e3, (hc 4 (by omega)).trans e4⟩

theorem read_phi (n : Nat) (cs : List Value) (y : DataW H × List MemPlace) (b o : Nat) (h : DataW.trod enc Try.prog w base spare held n 106 cs = some y) (hc : ∀ i, i < 2 → w.cell? ⟨b, o + i, none⟩ = cs[i]?) : ∃ x, PhiAt 0 w b o x := by
  have hl := trod_len Try.underlying106 h
  rw [cells_lPhi] at hl
  obtain ⟨x0, e0, _⟩ := trod_field_int Try.underlying106 Try.underlying3 cells_int h 0 0 rfl
  obtain ⟨c, m, y1, e1, hy⟩ := trod_field_slice Try.underlying106 cells_lArms h 1 1 rfl (by omega)
  obtain ⟨l, hl⟩ := readList Try.underlying104 cells_lArm (by omega) read_arm hy
  exact ⟨⟨x0, l⟩, (hc 0 (by omega)).trans e0, c, (hc 1 (by omega)).trans e1, hl⟩

theorem read_block (n : Nat) (cs : List Value) (y : DataW H × List MemPlace) (b o : Nat) (h : DataW.trod enc Try.prog w base spare held n 52 cs = some y) (hc : ∀ i, i < 6 → w.cell? ⟨b, o + i, none⟩ = cs[i]?) : ∃ x, BlockAt 0 w b o x := by
  have hl := trod_len Try.underlying52 h
  rw [cells_lBlock] at hl
  obtain ⟨c0, m0, y0, e0, hy0⟩ := trod_field_slice Try.underlying52 cells_lPhis h 0 0 rfl (by omega)
  obtain ⟨c1, m1, y1, e1, hy1⟩ := trod_field_slice Try.underlying52 cells_lPlaces h 1 1 rfl (by omega)
  obtain ⟨ps, hps⟩ := readList Try.underlying47 cells_lPhi (by omega) read_phi hy0
  obtain ⟨is, his⟩ := readList Try.underlying48 cells_lIns (by omega) read_ins hy1
  have hterm : ∃ f n y, (DataW.trod enc Try.prog w base spare held n 50 ((cs.drop 2).take 4) = some y) ∧ f = true := by
    obtain ⟨n, y, hy⟩ := trod_field Try.underlying52 h 2 rfl
    exact ⟨true, n, y, by rw [← cells_lTerm]; exact hy, rfl⟩
  obtain ⟨_, m2, y2, hy2, _⟩ := hterm
  obtain ⟨k, a, t, e, hcs⟩ := readTerm hy2
  have hd : ∀ j, j < 4 → ((cs.drop 2).take 4)[j]? = cs[2 + j]? := by
    intro j hj
    rw [List.getElem?_take_of_lt hj, List.getElem?_drop]
  refine ⟨⟨ps, is, ⟨k, a, t, e⟩⟩, c0, c1, (hc 0 (by omega)).trans e0, (hc 1 (by omega)).trans e1, (hc 2 (by omega)).trans ?_, (hc 3 (by omega)).trans ?_, (hc 4 (by omega)).trans ?_, (hc 5 (by omega)).trans ?_, hps, his⟩
  · have := hd 0 (by omega); rw [hcs] at this; exact this.symm
  · have := hd 1 (by omega); rw [hcs] at this; exact this.symm
  · have := hd 2 (by omega); rw [hcs] at this; exact this.symm
  · have := hd 3 (by omega); rw [hcs] at this; exact this.symm

end


set_option maxRecDepth 100000 in
theorem openFn {H : Type} {enc : TypeId × Value → H} {w : World} {base : Nat} {spare : Nat → Bool} {held : Bool} {r : Reach} {b0 : Nat} {v : Value} {d : DataW H} {p : List MemPlace}
    (hv : Value.okWide Try.prog w r b0 24 v) (h : DataW.Trod enc Try.prog w base spare held 24 v d p) : ∃ F, FnAt w v F := by
  obtain ⟨cs, hv', hsz⟩ := okWide_struct Try.underlying24 hv
  obtain ⟨fuel, hf⟩ := h
  rw [hv'] at hf
  have hl := trod_len Try.underlying24 hf
  rw [cells_lFn] at hl
  obtain ⟨c0, m0, y0, e0, hy0⟩ := trod_field_slice Try.underlying24 cells_lBlocks hf 0 0 rfl (by omega)
  obtain ⟨x1, e1, _⟩ := trod_field_int Try.underlying24 Try.underlying3 cells_int hf 1 1 rfl
  obtain ⟨bs, hbs⟩ := readList Try.underlying22 cells_lBlock (by omega) read_block hy0
  refine ⟨⟨bs, x1⟩, c0, ?_, hbs⟩
  rw [hv']
  have hcs : (Value.agg cs).cells.toList = [c0, .int .i64 x1] := by
    match hq : (Value.agg cs).cells.toList, hl with
    | [u0, u1], _ =>
      rw [hq] at e0 e1
      simp at e0 e1
      rw [e0, e1]
  exact agg_of_cells hcs
end Go.Proofs.Ytjfogpbhacadbaa

namespace Go.Proofs.Ytjfogpbhacadbaa
open Go.ChangeShapes Go.WideShapes Go.ChangeAt Go.RowKit
set_option linter.unusedVariables false

/-- A slice that reads as the numbers l. -/
def IntsAt (w : World) (v : Value) (l : List Int) : Prop :=
  ∃ (a : Option Addr) (cap : Nat), v = .slice a l.length cap ∧ l.length ≤ 9223372036854775807 ∧ (0 < l.length → ∃ b off, a = some ⟨b, off, none⟩ ∧ ∀ i, i < l.length → w.cell? ⟨b, off + i, none⟩ = some (.int .i64 (l.getD i 0)))

theorem IntsAt.keep {w w' : World} {v : Value} {l : List Int} (h : IntsAt w v l) (hb : Below w.heap.size w w') : IntsAt w' v l := by
  obtain ⟨a, cap, rfl, hm, hc⟩ := h
  refine ⟨a, cap, rfl, hm, fun hp => ?_⟩
  obtain ⟨b, off, rfl, hd⟩ := hc hp
  exact ⟨b, off, rfl, fun i hi => Bel.keeps hb (hd i hi)⟩

theorem take_next {l : List Int} {k : Nat} (hl : k < l.length) : l.take (k + 1) = l.take k ++ [l.getD k 0] := by
  rw [List.take_add_one]
  simp [hl]

/-- Two lists of one length whose first k are alike. -/
theorem lists_step {l m : List Int} {k : Nat} (hl : k < l.length) (hm : k < m.length) (h : l.take k = m.take k) (e : l.getD k 0 = m.getD k 0) : l.take (k + 1) = m.take (k + 1) := by
  rw [take_next hl, take_next hm, h, e]

theorem lists_differ {l m : List Int} {k : Nat} (e : ¬ l.getD k 0 = m.getD k 0) : decide (l = m) = false := by
  simp only [decide_eq_false_iff_not]
  rintro rfl
  exact e rfl

theorem lists_end {l m : List Int} {k : Nat} (hl : l.length = k) (hm : m.length = k) (h : l.take k = m.take k) : decide (l = m) = true := by
  simp only [decide_eq_true_eq]
  rw [List.take_of_length_le (by omega), List.take_of_length_le (by omega)] at h
  exact h



/-- A row of numbers that lies in block b from its start: it can be written. -/
def RowNew (w : World) (b : Nat) (v : Value) (l : List Int) : Prop :=
  v = .slice (some ⟨b, 0, none⟩) l.length l.length ∧ l.length ≤ 9223372036854775807 ∧ b < w.heap.size ∧ (∀ i, i < l.length → w.cell? ⟨b, i, none⟩ = some (.int .i64 (l.getD i 0))) ∧ ∀ i, i < l.length → w.frozen? ⟨b, i, none⟩ = false

theorem RowNew.at {w : World} {b : Nat} {v : Value} {l : List Int} (h : RowNew w b v l) : IntsAt w v l := by
  obtain ⟨rfl, hm, hb, hc, hf⟩ := h
  exact ⟨_, _, rfl, hm, fun _ => ⟨b, 0, rfl, fun i hi => by simpa using hc i hi⟩⟩

theorem RowNew.keep {w w' : World} {b : Nat} {v : Value} {l : List Int} (h : RowNew w b v l) (hb : Below w.heap.size w w') : RowNew w' b v l := by
  obtain ⟨rfl, hm, hlt, hc, hf⟩ := h
  refine ⟨rfl, hm, Nat.lt_of_lt_of_le hlt hb.size, fun i hi => Bel.keeps hb (hc i hi), fun i hi => ?_⟩
  rw [hb.frozen (p := ⟨b, i, none⟩) hlt]
  exact hf i hi

/-- Nothing that was there has turned but block p. -/
structure FrB (p : Nat) (w w' : World) : Prop where
  os : w'.os = w.os
  tape : w'.tape = w.tape
  output : w'.output = w.output
  size : w.heap.size ≤ w'.heap.size
  block : ∀ k, k < w.heap.size → k ≠ p → w'.heap[k]? = w.heap[k]?

theorem FrB.refl (p : Nat) (w : World) : FrB p w w := ⟨rfl, rfl, rfl, Nat.le_refl _, fun _ _ _ => rfl⟩
theorem FrB.trans {p : Nat} {a b c : World} (h : FrB p a b) (k : FrB p b c) : FrB p a c :=
  ⟨k.os.trans h.os, k.tape.trans h.tape, k.output.trans h.output, Nat.le_trans h.size k.size, fun i hi hp => (k.block i (Nat.lt_of_lt_of_le hi h.size) hp).trans (h.block i hi hp)⟩
theorem FrB.setCell {p : Nat} {a w : World} (h : FrB p a w) (o : Nat) (u : Value) : FrB p a (w.setCell ⟨p, o, none⟩ u) :=
  h.trans ⟨rfl, rfl, rfl, by simp [World.setCell], fun k _ hp => Below.heap_setCell _ _ _ _ hp⟩
theorem FrB.below {p B : Nat} {a w : World} (h : FrB p a w) (hp : B ≤ p) (hB : B ≤ a.heap.size) : Below B a w :=
  ⟨h.os, h.tape, h.output, h.size, fun k hk => h.block k (by omega) (by omega)⟩
theorem FrB.ofBelow {p : Nat} {a w : World} (h : Below a.heap.size a w) : FrB p a w :=
  ⟨h.os, h.tape, h.output, h.size, fun k hk _ => h.block k hk⟩
theorem FrB.cell {p : Nat} {a w : World} (h : FrB p a w) {x : Addr} (hx : x.block < a.heap.size) (hp : x.block ≠ p) : w.cell? x = a.cell? x := World.cell?_of_block (w := a) (h.block x.block hx hp)
theorem FrB.frozen {p : Nat} {a w : World} (h : FrB p a w) {x : Addr} (hx : x.block < a.heap.size) (hp : x.block ≠ p) : w.frozen? x = a.frozen? x := World.frozen?_of_block (w := a) (h.block x.block hx hp)

theorem RowNew.aside {w w' : World} {b p : Nat} {v : Value} {l : List Int} (h : RowNew w b v l) (hb : FrB p w w') (hp : b ≠ p) : RowNew w' b v l := by
  obtain ⟨rfl, hm, hlt, hc, hf⟩ := h
  refine ⟨rfl, hm, Nat.lt_of_lt_of_le hlt hb.size, fun i hi => ?_, fun i hi => ?_⟩
  · rw [hb.cell (x := ⟨b, i, none⟩) hlt hp]
    exact hc i hi
  · rw [hb.frozen (x := ⟨b, i, none⟩) hlt hp]
    exact hf i hi

/-- The numbers from k on. -/
def marks (k : Int) (n : Nat) : List Int := (List.range n).map (fun (i : Nat) => k + (i : Int))
theorem marks_len (k : Int) (n : Nat) : (marks k n).length = n := by simp [marks]
theorem marks_at (k : Int) (n i : Nat) (h : i < n) : (marks k n).getD i 0 = k + (i : Int) := by simp [marks, List.getD, h]

end Go.Proofs.Ytjfogpbhacadbaa

namespace Go.Proofs.Ytjfogpbhacadbaa
open Go.ChangeShapes Go.WideShapes Go.ChangeAt Go.RowKit
set_option linter.unusedVariables false

theorem rowNew0 (w : World) (t : TypeId) (B : Nat) (hB : B = w.heap.size) : RowNew (w.alloc (.cells #[] t)) B (.slice (some ⟨B, 0, none⟩) 0 0) [] := by
  subst hB
  exact ⟨rfl, by simp, by simp, fun i hi => absurd hi (by simp), fun i hi => absurd hi (by simp)⟩
theorem rowNew1 (w : World) (t : TypeId) (a : Int) (B : Nat) (hB : B = w.heap.size) : RowNew (w.alloc (.cells #[.int .i64 a] t)) B (.slice (some ⟨B, 0, none⟩) 1 1) [a] := by
  subst hB
  refine ⟨rfl, by simp, by simp, fun i hi => ?_, fun i hi => ?_⟩
  all_goals
    simp at hi
    subst hi
    simp
theorem rowNew2 (w : World) (t : TypeId) (a b : Int) (B : Nat) (hB : B = w.heap.size) : RowNew (w.alloc (.cells #[.int .i64 a, .int .i64 b] t)) B (.slice (some ⟨B, 0, none⟩) 2 2) [a, b] := by
  subst hB
  refine ⟨rfl, by simp, by simp, fun i hi => ?_, fun i hi => ?_⟩
  all_goals
    have hi' : i = 0 ∨ i = 1 := by simp at hi; omega
    rcases hi' with rfl | rfl
    · simp
    · simp

/-- A list of numbers is returned, in new memory. -/
def GivesInts (w : World) (l : List Int) (e : Ending) (w' : World) : Prop := ∃ v k, e = .returned v ∧ w.heap.size ≤ k ∧ RowNew w' k v l ∧ Below w.heap.size w w'

/-- Which values a place takes. -/
def usesV (op a b : Int) : List Int := if (1 ≤ op ∧ op ≤ 10) ∨ op = 22 then [a, b] else if op = 21 ∨ op = 23 ∨ op = 25 then [a] else []
theorem usesV_word {op a b : Int} (h : 1 ≤ op) (h1 : op ≤ 10) : usesV op a b = [a, b] := by simp [usesV, h, h1]
theorem usesV_none {op a b : Int} (e0 : (op == 20) = false) (e1 : (op == 21) = false) (e2 : (op == 22) = false) (e3 : (op == 23) = false) (e4 : (op == 24) = false) (e5 : (op == 25) = false) (h : ¬ (1 ≤ op ∧ op ≤ 10)) : usesV op a b = [] := by
  simp only [beq_eq_false_iff_ne, ne_eq] at e0 e1 e2 e3 e4 e5
  simp only [usesV, e1, e2, e3, e5, h, or_self, if_false]

theorem spec_insUses (op d a b n : Int) (w : World) :
    Calls Try.prog 62 #[.agg #[.int .i64 op, .int .i64 d, .int .i64 a, .int .i64 b, .int .i64 n]] w fun e w' => GivesInts w (usesV op a b) e w' := by
  rcases op_cases op with h | h | h | h | h | h | ⟨⟨e0, e1, e2, e3, e4, e5⟩, ⟨h, h1⟩ | h | ⟨h1, h⟩⟩
  all_goals
    first | (have hu : usesV op a b = [a, b] := by first | exact usesV_word h h1 | (simp [usesV, h]; done)) | (have hu : usesV op a b = [a] := by simp [usesV, h]; done) | (have hu : usesV op a b = [] := by first | (simp [usesV, h]; done) | exact usesV_none e0 e1 e2 e3 e4 e5 (by omega))
    rw [hu]
    clear hu
    go_enter Try.func62, Try.ntmps62
    go_wp2
    go_ret
    first | exact ⟨_, _, rfl, by simp, rowNew2 _ _ _ _ _ (by simp), by repeat (first | exact Below.refl _ _ | apply Below.drew | refine Below.alloc ?_ (by simp <;> omega) _ | refine Below.setCell ?_ (by simp <;> omega) _)⟩ | exact ⟨_, _, rfl, by simp, rowNew1 _ _ _ _ (by simp), by repeat (first | exact Below.refl _ _ | apply Below.drew | refine Below.alloc ?_ (by simp <;> omega) _ | refine Below.setCell ?_ (by simp <;> omega) _)⟩ | exact ⟨_, _, rfl, by simp, rowNew0 _ _ _ (by simp), by repeat (first | exact Below.refl _ _ | apply Below.drew | refine Below.alloc ?_ (by simp <;> omega) _ | refine Below.setCell ?_ (by simp <;> omega) _)⟩

set_option maxHeartbeats 1000000 in
theorem placeUses_any (op d a b n : Int) (w : World) :
    Calls Try.prog 73 #[placeV op d a b n] w fun e w' => GivesInts w (usesV op a b) e w' := by
  rcases op_cases op with h | h | h | h | h | h | ⟨⟨e0, e1, e2, e3, e4, e5⟩, ⟨h, h1⟩ | h | ⟨h1, h⟩⟩
  all_goals
    first | (have hu : usesV op a b = [a, b] := by first | exact usesV_word h h1 | (simp [usesV, h]; done)) | (have hu : usesV op a b = [a] := by simp [usesV, h]; done) | (have hu : usesV op a b = [] := by first | (simp [usesV, h]; done) | exact usesV_none e0 e1 e2 e3 e4 e5 (by omega))
    rw [hu]
    clear hu
    first | (subst h; simp only [placeV, if_true, if_false, Int.reduceEq]) | (rw [placeV_word e0 e1 e2 e3 e4 e5 h h1]) | (rw [placeV_none e0 e1 e2 e3 e4 e5 (by omega)])
    have y0 := wordPlace_yes
    have n0 := wordPlace_no
    have z0 := wordPlace_nil
    have y1 := loadPlace_yes
    have n1 := loadPlace_no
    have z1 := loadPlace_nil
    have y2 := storePlace_yes
    have n2 := storePlace_no
    have z2 := storePlace_nil
    have y3 := outPlace_yes
    have n3 := outPlace_no
    have z3 := outPlace_nil
    have y4 := copyPlace_yes
    have n4 := copyPlace_no
    have z4 := copyPlace_nil
    go_enter Try.func73, Try.ntmps73
    go_wp2
    go_ret
    first | exact ⟨_, _, rfl, by simp, rowNew2 _ _ _ _ _ (by simp), by repeat (first | exact Below.refl _ _ | apply Below.drew | refine Below.alloc ?_ (by simp <;> omega) _ | refine Below.setCell ?_ (by simp <;> omega) _)⟩ | exact ⟨_, _, rfl, by simp, rowNew1 _ _ _ _ (by simp), by repeat (first | exact Below.refl _ _ | apply Below.drew | refine Below.alloc ?_ (by simp <;> omega) _ | refine Below.setCell ?_ (by simp <;> omega) _)⟩ | exact ⟨_, _, rfl, by simp, rowNew0 _ _ _ (by simp), by repeat (first | exact Below.refl _ _ | apply Below.drew | refine Below.alloc ?_ (by simp <;> omega) _ | refine Below.setCell ?_ (by simp <;> omega) _)⟩

theorem impl_insUses (op d a b n : Int) (w : World) :
    Calls Try.prog 50 #[.agg #[.int .i64 op, .int .i64 d, .int .i64 a, .int .i64 b, .int .i64 n]] w fun e w' => GivesInts w (usesV op a b) e w' := by
  go_enter Try.func50, Try.ntmps50
  go_wp2_with fail
  refine (placeOf_any op d a b n _).mono ?_
  rintro e w1 ⟨rfl, b1⟩
  have b2 := Bel.after (Bel.alloc w _) b1
  clear b1
  go_wp2_with fail
  refine (placeUses_any op d a b n _).mono ?_
  rintro e w2 ⟨v, k, rfl, hk, hr, b3⟩
  have HR : Hid (RowNew w2 k v (usesV op a b)) := hr
  clear hr
  go_wp2
  go_ret
  exact ⟨_, _, rfl, Nat.le_trans b2.size hk, HR.out, Bel.after b2 b3⟩

theorem toTerm_any (k a t e : Int) (w : World) :
    Calls Try.prog 40 #[.agg #[.int .i64 k, .int .i64 a, .int .i64 t, .int .i64 e]] w fun r w' => r = .returned (.agg #[.int .i64 k, .int .i64 a, .int .i64 t, .int .i64 e]) ∧ Below w.heap.size w w' := by
  go_enter Try.func40, Try.ntmps40
  go_wp2
  refine bodyPost_ret (v := .agg #[.int .i64 k, .int .i64 a, .int .i64 t, .int .i64 e]) (by simp [results, Try.results40, go_sem]) rfl ?_
  exact ⟨rfl, by repeat (first | exact Below.refl _ _ | apply Below.drew | refine Below.alloc ?_ (by simp <;> omega) _ | refine Below.setCell ?_ (by simp <;> omega) _)⟩

/-- Which values an end takes. -/
def endsV (k a : Int) : List Int := if k = 2 ∨ k = 3 then [a] else []

theorem spec_termUses (k a t e : Int) (w : World) :
    Calls Try.prog 61 #[.agg #[.int .i64 k, .int .i64 a, .int .i64 t, .int .i64 e]] w fun r w' => GivesInts w (endsV k a) r w' := by
  by_cases h2 : k = 2
  · rw [show endsV k a = [a] by simp [endsV, h2]]
    go_enter Try.func61, Try.ntmps61
    go_wp2
    go_ret
    exact ⟨_, _, rfl, by simp, rowNew1 _ _ _ _ (by simp), by repeat (first | exact Below.refl _ _ | apply Below.drew | refine Below.alloc ?_ (by simp <;> omega) _ | refine Below.setCell ?_ (by simp <;> omega) _)⟩
  · by_cases h3 : k = 3
    · rw [show endsV k a = [a] by simp [endsV, h3]]
      go_enter Try.func61, Try.ntmps61
      go_wp2
      go_ret
      exact ⟨_, _, rfl, by simp, rowNew1 _ _ _ _ (by simp), by repeat (first | exact Below.refl _ _ | apply Below.drew | refine Below.alloc ?_ (by simp <;> omega) _ | refine Below.setCell ?_ (by simp <;> omega) _)⟩
    · rw [show endsV k a = [] by simp [endsV, h2, h3]]
      have e2 : (k == 2) = false := by simpa using h2
      have e3 : (k == 3) = false := by simpa using h3
      clear h2 h3
      go_enter Try.func61, Try.ntmps61
      go_wp2
      go_ret
      exact ⟨_, _, rfl, by simp, rowNew0 _ _ _ (by simp), by repeat (first | exact Below.refl _ _ | apply Below.drew | refine Below.alloc ?_ (by simp <;> omega) _ | refine Below.setCell ?_ (by simp <;> omega) _)⟩

theorem impl_termUses (k a t e : Int) (w : World) :
    Calls Try.prog 46 #[.agg #[.int .i64 k, .int .i64 a, .int .i64 t, .int .i64 e]] w fun r w' => GivesInts w (endsV k a) r w' := by
  by_cases h2 : k = 2
  · rw [show endsV k a = [a] by simp [endsV, h2]]
    go_enter Try.func46, Try.ntmps46
    go_wp2
    go_ret
    exact ⟨_, _, rfl, by simp, rowNew1 _ _ _ _ (by simp), by repeat (first | exact Below.refl _ _ | apply Below.drew | refine Below.alloc ?_ (by simp <;> omega) _ | refine Below.setCell ?_ (by simp <;> omega) _)⟩
  · by_cases h3 : k = 3
    · rw [show endsV k a = [a] by simp [endsV, h3]]
      go_enter Try.func46, Try.ntmps46
      go_wp2
      go_ret
      exact ⟨_, _, rfl, by simp, rowNew1 _ _ _ _ (by simp), by repeat (first | exact Below.refl _ _ | apply Below.drew | refine Below.alloc ?_ (by simp <;> omega) _ | refine Below.setCell ?_ (by simp <;> omega) _)⟩
    · rw [show endsV k a = [] by simp [endsV, h2, h3]]
      have e2 : (k == 2) = false := by simpa using h2
      have e3 : (k == 3) = false := by simpa using h3
      clear h2 h3
      go_enter Try.func46, Try.ntmps46
      go_wp2
      go_ret
      exact ⟨_, _, rfl, by simp, rowNew0 _ _ _ (by simp), by repeat (first | exact Below.refl _ _ | apply Below.drew | refine Below.alloc ?_ (by simp <;> omega) _ | refine Below.setCell ?_ (by simp <;> omega) _)⟩

theorem usesV_forms (op a b : Int) : usesV op a b = [a, b] ∨ usesV op a b = [a] ∨ usesV op a b = [] := by
  unfold usesV
  split
  · exact .inl rfl
  · split
    · exact .inr (.inl rfl)
    · exact .inr (.inr rfl)
theorem endsV_forms (k a : Int) : endsV k a = [a] ∨ endsV k a = [] := by
  unfold endsV
  split
  · exact .inl rfl
  · exact .inr rfl

-- function 23 names what is made
theorem insDefV_forms (op d : Int) : insDefV op d = d ∨ insDefV op d = -1 := by
  unfold insDefV
  split
  · exact .inl rfl
  · exact .inr rfl

/-- A place that lies in block B. -/
def InsBox (w : World) (B : Nat) (op d a b n : Int) : Prop :=
  w.cell? ⟨B, 0, none⟩ = some (.int .i64 op) ∧ w.cell? ⟨B, 1, none⟩ = some (.int .i64 d) ∧ w.cell? ⟨B, 2, none⟩ = some (.int .i64 a) ∧ w.cell? ⟨B, 3, none⟩ = some (.int .i64 b) ∧ w.cell? ⟨B, 4, none⟩ = some (.int .i64 n)
theorem InsBox.keep {w w' : World} {B : Nat} {op d a b n : Int} (h : InsBox w B op d a b n) (hb : Below w.heap.size w w') : InsBox w' B op d a b n :=
  ⟨Bel.keeps hb h.1, Bel.keeps hb h.2.1, Bel.keeps hb h.2.2.1, Bel.keeps hb h.2.2.2.1, Bel.keeps hb h.2.2.2.2⟩
theorem insBox_new (w : World) (t : TypeId) (op d a b n : Int) : InsBox (w.alloc (.cells #[.int .i64 op, .int .i64 d, .int .i64 a, .int .i64 b, .int .i64 n] t)) w.heap.size op d a b n :=
  ⟨by simp, by simp, by simp, by simp, by simp⟩
/-- An end that lies in block B. -/
def TermBox (w : World) (B : Nat) (k a t e : Int) : Prop :=
  w.cell? ⟨B, 0, none⟩ = some (.int .i64 k) ∧ w.cell? ⟨B, 1, none⟩ = some (.int .i64 a) ∧ w.cell? ⟨B, 2, none⟩ = some (.int .i64 t) ∧ w.cell? ⟨B, 3, none⟩ = some (.int .i64 e)
theorem TermBox.keep {w w' : World} {B : Nat} {k a t e : Int} (h : TermBox w B k a t e) (hb : Below w.heap.size w w') : TermBox w' B k a t e :=
  ⟨Bel.keeps hb h.1, Bel.keeps hb h.2.1, Bel.keeps hb h.2.2.1, Bel.keeps hb h.2.2.2⟩
theorem termBox_new (w : World) (ty : TypeId) (k a t e : Int) : TermBox (w.alloc (.cells #[.int .i64 k, .int .i64 a, .int .i64 t, .int .i64 e] ty)) w.heap.size k a t e :=
  ⟨by simp, by simp, by simp, by simp⟩
end Go.Proofs.Ytjfogpbhacadbaa
