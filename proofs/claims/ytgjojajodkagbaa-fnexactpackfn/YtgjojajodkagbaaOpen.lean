/- The struct arguments of the laws, read as numbers. -/
import Derived.Test.YtgjojajodkagbaaRows
import Derived.WalkKit
import Derived.ProofKit
import Derived.OpenShut
import Derived.Lib.SmallJoins
namespace Go.Proofs.Ytgjojajodkagbaa
open Go.ChangeShapes Go.WideShapes Go.ChangeAt Go.RowKit
set_option linter.unusedVariables false

/-- A field of a struct, read. -/
theorem trod_field {H : Type} {enc : TypeId × Value → H} {P : Program} {w : World} {base : Nat} {spare : Nat → Bool} {held : Bool} {fuel : Nat} {t : TypeId} {fs : Array Field} {cs : List Value} {x : DataW H × List MemPlace}
    (ht : P.underlying t = some (.struct fs)) (h : DataW.trod enc P w base spare held fuel t cs = some x) (i : Nat) {f : Field} (hi : fs[i]? = some f) :
    ∃ n y, DataW.trod enc P w base spare held n f.type ((cs.drop f.offset).take (P.cellsOf f.type)) = some y := by
  obtain ⟨xs, n, _, _, _, hlen, hf⟩ := DataW.trod_struct ht h
  have hb : i < xs.length := by
    rw [hlen]
    by_cases hb : i < fs.size
    · exact hb
    · rw [Array.getElem?_eq_none (by omega)] at hi
      cases hi
  exact ⟨n, xs[i], by rw [hf i f hi, List.getElem?_eq_getElem hb]⟩

theorem trod_len {H : Type} {enc : TypeId × Value → H} {P : Program} {w : World} {base : Nat} {spare : Nat → Bool} {held : Bool} {fuel : Nat} {t : TypeId} {fs : Array Field} {cs : List Value} {x : DataW H × List MemPlace}
    (ht : P.underlying t = some (.struct fs)) (h : DataW.trod enc P w base spare held fuel t cs = some x) : cs.length = P.cellsOf t := by
  obtain ⟨xs, n, _, _, hl, _, _⟩ := DataW.trod_struct ht h
  exact hl

theorem take_one {c : Value} {cs : List Value} {o : Nat} (h : (cs.drop o).take 1 = [c]) : cs[o]? = some c := by
  have h2 := congrArg (fun l => l[0]?) h
  simpa using h2

/-- A field of a struct that is a number. -/
theorem trod_field_int {H : Type} {enc : TypeId × Value → H} {P : Program} {w : World} {base : Nat} {spare : Nat → Bool} {held : Bool} {fuel : Nat} {t ti : TypeId} {fs : Array Field} {cs : List Value} {x : DataW H × List MemPlace}
    (ht : P.underlying t = some (.struct fs)) (hu : P.underlying ti = some (.int .i64)) (hc : P.cellsOf ti = 1) (h : DataW.trod enc P w base spare held fuel t cs = some x) (i o : Nat) (hi : (fs[i]?).map (fun f => (f.type, f.offset)) = some (ti, o)) :
    ∃ z : Int, cs[o]? = some (.int .i64 z) ∧ (Lit.int .i64 z).wf = true := by
  obtain ⟨f, hf, he⟩ := Option.map_eq_some_iff.1 hi
  obtain ⟨n, y, hy⟩ := trod_field ht h i hf
  have e1 : f.type = ti := by cases he; rfl
  have e2 : f.offset = o := by cases he; rfl
  rw [e1, e2, hc] at hy
  obtain ⟨z, hz, _, hw⟩ := DataW.trod_int hu hy
  exact ⟨z, take_one hz, hw⟩

/-- A field of a struct that is a slice. -/
theorem trod_field_slice {H : Type} {enc : TypeId × Value → H} {P : Program} {w : World} {base : Nat} {spare : Nat → Bool} {held : Bool} {fuel : Nat} {t ti : TypeId} {fs : Array Field} {cs : List Value} {x : DataW H × List MemPlace}
    (ht : P.underlying t = some (.struct fs)) (hc : P.cellsOf ti = 1) (h : DataW.trod enc P w base spare held fuel t cs = some x) (i o : Nat) (hi : (fs[i]?).map (fun f => (f.type, f.offset)) = some (ti, o)) (ho : o < cs.length) :
    ∃ (c : Value) (n : Nat) (y : DataW H × List MemPlace), cs[o]? = some c ∧ DataW.trod enc P w base spare held n ti [c] = some y := by
  obtain ⟨f, hf, he⟩ := Option.map_eq_some_iff.1 hi
  obtain ⟨n, y, hy⟩ := trod_field ht h i hf
  have e1 : f.type = ti := by cases he; rfl
  have e2 : f.offset = o := by cases he; rfl
  rw [e1, e2, hc] at hy
  have h1 : (cs.drop o).take 1 = [cs[o]] := by
    rw [List.drop_eq_getElem_cons ho]
    rfl
  rw [h1] at hy
  exact ⟨cs[o], n, y, List.getElem?_eq_getElem ho, hy⟩

theorem cells_int : Try.prog.cellsOf 3 = 1 := by kernel_rfl

theorem cells_lIns : Try.prog.cellsOf 117 = 5 := by kernel_rfl

theorem cells_lTerm : Try.prog.cellsOf 87 = 4 := by kernel_rfl

theorem list5 {cs : List Value} {v0 v1 v2 v3 v4 : Value} (hl : cs.length = 5) (h0 : cs[0]? = some v0) (h1 : cs[1]? = some v1) (h2 : cs[2]? = some v2) (h3 : cs[3]? = some v3) (h4 : cs[4]? = some v4) : cs = [v0, v1, v2, v3, v4] := by
  match cs, hl with
  | [c0, c1, c2, c3, c4], _ => simp_all
theorem list4 {cs : List Value} {v0 v1 v2 v3 : Value} (hl : cs.length = 4) (h0 : cs[0]? = some v0) (h1 : cs[1]? = some v1) (h2 : cs[2]? = some v2) (h3 : cs[3]? = some v3) : cs = [v0, v1, v2, v3] := by
  match cs, hl with
  | [c0, c1, c2, c3], _ => simp_all

theorem readIns {H : Type} {enc : TypeId × Value → H} {w : World} {base : Nat} {spare : Nat → Bool} {held : Bool} {fuel : Nat} {cs : List Value} {y : DataW H × List MemPlace}
    (h : DataW.trod enc Try.prog w base spare held fuel 117 cs = some y) :
    ∃ op d a b n : Int, cs = [.int .i64 op, .int .i64 d, .int .i64 a, .int .i64 b, .int .i64 n] := by
  have hl := trod_len Try.underlying117 h
  rw [cells_lIns] at hl
  obtain ⟨x0, e0, _⟩ := trod_field_int Try.underlying117 Try.underlying3 cells_int h 0 0 rfl
  obtain ⟨x1, e1, _⟩ := trod_field_int Try.underlying117 Try.underlying3 cells_int h 1 1 rfl
  obtain ⟨x2, e2, _⟩ := trod_field_int Try.underlying117 Try.underlying3 cells_int h 2 2 rfl
  obtain ⟨x3, e3, _⟩ := trod_field_int Try.underlying117 Try.underlying3 cells_int h 3 3 rfl
  obtain ⟨x4, e4, _⟩ := trod_field_int Try.underlying117 Try.underlying3 cells_int h 4 4 rfl
  exact ⟨x0, x1, x2, x3, x4, list5 hl e0 e1 e2 e3 e4⟩

theorem readTerm {H : Type} {enc : TypeId × Value → H} {w : World} {base : Nat} {spare : Nat → Bool} {held : Bool} {fuel : Nat} {cs : List Value} {y : DataW H × List MemPlace}
    (h : DataW.trod enc Try.prog w base spare held fuel 87 cs = some y) :
    ∃ k a t e : Int, cs = [.int .i64 k, .int .i64 a, .int .i64 t, .int .i64 e] := by
  have hl := trod_len Try.underlying87 h
  rw [cells_lTerm] at hl
  obtain ⟨x0, e0, _⟩ := trod_field_int Try.underlying87 Try.underlying3 cells_int h 0 0 rfl
  obtain ⟨x1, e1, _⟩ := trod_field_int Try.underlying87 Try.underlying3 cells_int h 1 1 rfl
  obtain ⟨x2, e2, _⟩ := trod_field_int Try.underlying87 Try.underlying3 cells_int h 2 2 rfl
  obtain ⟨x3, e3, _⟩ := trod_field_int Try.underlying87 Try.underlying3 cells_int h 3 3 rfl
  exact ⟨x0, x1, x2, x3, list4 hl e0 e1 e2 e3⟩

theorem agg_of_cells {cs : Array Value} {l : List Value} (h : (Value.agg cs).cells.toList = l) : Value.agg cs = .agg l.toArray := by
  subst h
  rfl

set_option maxRecDepth 100000 in
theorem openIns {H : Type} {enc : TypeId × Value → H} {w : World} {base : Nat} {spare : Nat → Bool} {held : Bool} {r : Reach} {b0 : Nat} {v : Value} {d : DataW H} {p : List MemPlace}
    (hv : Value.okWide Try.prog w r b0 117 v) (h : DataW.Trod enc Try.prog w base spare held 117 v d p) :
    ∃ op d a b n : Int, v = .agg #[.int .i64 op, .int .i64 d, .int .i64 a, .int .i64 b, .int .i64 n] := by
  obtain ⟨cs, hv', hsz⟩ := okWide_struct Try.underlying117 hv
  obtain ⟨fuel, hf⟩ := h
  obtain ⟨op, d, a, b, n, hcs⟩ := readIns hf
  rw [hv'] at hcs
  exact ⟨op, d, a, b, n, hv'.trans (agg_of_cells hcs)⟩

set_option maxRecDepth 100000 in
theorem openTerm {H : Type} {enc : TypeId × Value → H} {w : World} {base : Nat} {spare : Nat → Bool} {held : Bool} {r : Reach} {b0 : Nat} {v : Value} {d : DataW H} {p : List MemPlace}
    (hv : Value.okWide Try.prog w r b0 87 v) (h : DataW.Trod enc Try.prog w base spare held 87 v d p) :
    ∃ k a t e : Int, v = .agg #[.int .i64 k, .int .i64 a, .int .i64 t, .int .i64 e] := by
  obtain ⟨cs, hv', hsz⟩ := okWide_struct Try.underlying87 hv
  obtain ⟨fuel, hf⟩ := h
  obtain ⟨k, a, t, e, hcs⟩ := readTerm hf
  rw [hv'] at hcs
  exact ⟨k, a, t, e, hv'.trans (agg_of_cells hcs)⟩
end Go.Proofs.Ytgjojajodkagbaa
