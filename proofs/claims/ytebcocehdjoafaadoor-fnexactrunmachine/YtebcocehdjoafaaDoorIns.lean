/- What a place makes and takes: the program's InsDef and the model's answer alike, for every place. -/
import Derived.Test.YtebcocehdjoafaaDoorRows
import Derived.WalkKit
import Derived.ProofKit
import Derived.OpenShut
import Derived.Below
import Derived.Laws.ResultCell
namespace Go.Proofs.YtebcocehdjoafaaDoor
open Go.ChangeShapes Go.WideShapes Go.ChangeAt Go.RowKit
set_option linter.unusedVariables false

theorem Bel.after {a b c : World} (h : Below a.heap.size a b) (k : Below b.heap.size b c) : Below a.heap.size a c := h.trans (k.mono h.size)

theorem Bel.alloc (w : World) (o : Obj) : Below w.heap.size w (w.alloc o) := (Below.refl _ _).alloc (Nat.le_refl _) o
/-- A cell of a new block, in a later world. -/
theorem box_cell {w w2 : World} {o : Obj} (h : Below (w.alloc o).heap.size (w.alloc o) w2) (j : Nat) : w2.cell? ⟨w.heap.size, j, none⟩ = (w.alloc o).cell? ⟨w.heap.size, j, none⟩ := h.cell (by simp)
theorem Bel.keeps {w w' : World} (h : Below w.heap.size w w') {p : Addr} {v : Value} (hc : w.cell? p = some v) : w'.cell? p = some v := by
  rw [h.cell (World.block_lt_of_cell? w _ hc)]
  exact hc

/-- Is it an op of words? -/
def wordOkV (op : Int) : Bool := decide (1 ≤ op ∧ op ≤ 10)
theorem wordOkV_yes {op : Int} (h1 : 1 ≤ op) (h2 : op ≤ 10) : wordOkV op = true := by simp [wordOkV, h1, h2]
theorem wordOkV_lo {op : Int} (h1 : ¬ 1 ≤ op) : wordOkV op = false := by simp [wordOkV, h1]
theorem wordOkV_hi {op : Int} (h1 : ¬ op ≤ 10) : wordOkV op = false := by simp [wordOkV, h1]

theorem spec_wordOk (op : Int) (w : World) :
    Calls Tryd.prog 35 #[.int .i64 op] w fun e w' => e = .returned (.bool (wordOkV op)) ∧ w' = w := by
  by_cases h1 : 1 ≤ op
  · by_cases h2 : op ≤ 10
    · rw [wordOkV_yes h1 h2]
      go_enter Tryd.func35, Tryd.ntmps35
      go_wp2
      go_ret
      exact ⟨rfl, rfl⟩
    · rw [wordOkV_hi h2]
      go_enter Tryd.func35, Tryd.ntmps35
      go_wp2
      go_ret
      exact ⟨rfl, rfl⟩
  · rw [wordOkV_lo h1]
    go_enter Tryd.func35, Tryd.ntmps35
    go_wp2
    go_ret
    exact ⟨rfl, rfl⟩

theorem impl_wordOk (op : Int) (w : World) :
    Calls Tryd.prog 45 #[.int .i64 op] w fun e w' => e = .returned (.bool (wordOkV op)) ∧ w' = w := by
  by_cases h1 : 1 ≤ op
  · by_cases h2 : op ≤ 10
    · rw [wordOkV_yes h1 h2]
      have h3 : op < 11 := by omega
      go_enter Tryd.func45, Tryd.ntmps45
      go_wp2
      go_ret
      exact ⟨rfl, rfl⟩
    · rw [wordOkV_hi h2]
      have h3 : ¬ op < 11 := by omega
      go_enter Tryd.func45, Tryd.ntmps45
      go_wp2
      go_ret
      exact ⟨rfl, rfl⟩
  · rw [wordOkV_lo h1]
    go_enter Tryd.func45, Tryd.ntmps45
    go_wp2
    go_ret
    exact ⟨rfl, rfl⟩

/-- A place, as a value. -/
def insV (op d a b n : Int) : Value := .agg #[.int .i64 op, .int .i64 d, .int .i64 a, .int .i64 b, .int .i64 n]

theorem op_cases (op : Int) : op = 20 ∨ op = 21 ∨ op = 22 ∨ op = 23 ∨ op = 24 ∨ op = 25 ∨ (((op == 20) = false ∧ (op == 21) = false ∧ (op == 22) = false ∧ (op == 23) = false ∧ (op == 24) = false ∧ (op == 25) = false) ∧ ((1 ≤ op ∧ op ≤ 10) ∨ ¬ 1 ≤ op ∨ (1 ≤ op ∧ ¬ op ≤ 10))) := by
  simp only [beq_eq_false_iff_ne, ne_eq]
  omega

/-- An assertion to a struct type, with its flag. -/
theorem assert_yes {P : Program} {t x : TypeId} {fs : Array Field} (hu : P.underlying t = some (.struct fs)) (v : Value) (w : World) : (Instr.typeAssert (.iface t v) x t true).run P w = .ok (.tuple #[v, .bool true]) w := by
  simp [Instr.typeAssert, run_underlying hu]
theorem assert_no {P : Program} {t x : TypeId} {fs : Array Field} {z : Value} (hu : P.underlying t = some (.struct fs)) (hz : (P.info? t).map (fun i => i.zero) = some (some z)) (t' : TypeId) (v : Value) (w : World) (hne : t' ≠ t) : (Instr.typeAssert (.iface t' v) x t true).run P w = .ok (.tuple #[z, .bool false]) w := by
  obtain ⟨j, hj, hz'⟩ := Option.map_eq_some_iff.1 hz
  simp [Instr.typeAssert, run_underlying hu, hne, zeroValue, typeInfo, hj, hz']
theorem assert_nil {P : Program} {t x : TypeId} {fs : Array Field} {z : Value} (hu : P.underlying t = some (.struct fs)) (hz : (P.info? t).map (fun i => i.zero) = some (some z)) (w : World) : (Instr.typeAssert .nilIface x t true).run P w = .ok (.tuple #[z, .bool false]) w := by
  obtain ⟨j, hj, hz'⟩ := Option.map_eq_some_iff.1 hz
  simp [Instr.typeAssert, run_underlying hu, zeroValue, typeInfo, hj, hz']

end Go.Proofs.YtebcocehdjoafaaDoor
