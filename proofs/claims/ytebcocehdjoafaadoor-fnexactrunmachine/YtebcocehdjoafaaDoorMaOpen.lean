/- The laws' own steps, read, with the range of their ops. -/
import Derived.Test.YtebcocehdjoafaaDoorMaOk
namespace Go.Proofs.YtebcocehdjoafaaDoor
open Go.ChangeShapes Go.WideShapes Go.ChangeAt Go.RowKit
set_option linter.unusedVariables false

set_option maxRecDepth 100000 in
theorem openStepR {H : Type} {enc : TypeId × Value → H} {w : World} {base : Nat} {spare : Nat → Bool} {held : Bool} {r : Reach} {b0 : Nat} {v : Value} {d : DataW H} {p : List MemPlace}
    (hv : Value.okWide Tryd.prog w r b0 29 v) (h : DataW.Trod enc Tryd.prog w base spare held 29 v d p) :
    ∃ op d a b n : Int, v = .agg #[.int .i64 op, .int .i64 d, .int .i64 a, .int .i64 b, .int .i64 n] ∧ -9223372036854775808 ≤ op ∧ op ≤ 9223372036854775807 := by
  obtain ⟨op, d', a, b, n, e⟩ := openStep hv h
  subst e
  obtain ⟨fuel, hf⟩ := h
  obtain ⟨x0, e0, hw⟩ := trod_field_int Tryd.underlying29 Tryd.underlying3 cells_int5 hf 0 0 rfl
  have : x0 = op := by simpa [Value.cells] using e0.symm
  subst this
  exact ⟨x0, d', a, b, n, rfl, bounds_i64 hw⟩

/-- A step whose op has 64 bits. -/
def StepR (w : World) (b o : Nat) (x : InsD) : Prop := InsAt w b o x ∧ -9223372036854775808 ≤ x.op ∧ x.op ≤ 9223372036854775807

section
variable {H : Type} {enc : TypeId × Value → H} {w : World} {base : Nat} {spare : Nat → Bool} {held : Bool}

theorem read_stepR (n : Nat) (cs : List Value) (y : DataW H × List MemPlace) (b o : Nat) (h : DataW.trod enc Tryd.prog w base spare held n 29 cs = some y) (hc : ∀ i, i < 5 → w.cell? ⟨b, o + i, none⟩ = cs[i]?) : ∃ x, StepR w b o x := by
  obtain ⟨x0, e0, h0⟩ := trod_field_int Tryd.underlying29 Tryd.underlying3 cells_int5 h 0 0 rfl
  obtain ⟨x1, e1, _⟩ := trod_field_int Tryd.underlying29 Tryd.underlying3 cells_int5 h 1 1 rfl
  obtain ⟨x2, e2, _⟩ := trod_field_int Tryd.underlying29 Tryd.underlying3 cells_int5 h 2 2 rfl
  obtain ⟨x3, e3, _⟩ := trod_field_int Tryd.underlying29 Tryd.underlying3 cells_int5 h 3 3 rfl
  obtain ⟨x4, e4, _⟩ := trod_field_int Tryd.underlying29 Tryd.underlying3 cells_int5 h 4 4 rfl
  exact ⟨⟨x0, x1, x2, x3, x4⟩, ⟨(hc 0 (by omega)).trans e0, (hc 1 (by omega)).trans e1, (hc 2 (by omega)).trans e2, (hc 3 (by omega)).trans e3, (hc 4 (by omega)).trans e4⟩, bounds_i64 h0⟩

end

theorem openStepsR {H : Type} {enc : TypeId × Value → H} {w : World} {base : Nat} {spare : Nat → Bool} {held : Bool} {a : Option Addr} {len cap : Nat} {d : DataW H} {p : List MemPlace}
    (h : DataW.Trod enc Tryd.prog w base spare held 32 (.slice a len cap) d p) : ∃ l, StepsAt w (.slice a len cap) l ∧ OpsIn l := by
  obtain ⟨fuel, hf⟩ := h
  obtain ⟨l, hl⟩ := readList Tryd.underlying32 cells_lStep (by omega) read_stepR hf
  refine ⟨l, hl.low (Nat.le_refl _) (fun _ _ _ hx => hx.1), fun x hx => ?_⟩
  obtain ⟨k, hk⟩ := List.getElem?_of_mem hx
  obtain ⟨_, _, _, _, hc⟩ := hl
  obtain ⟨_, _, _, _, hd⟩ := hc (List.length_pos_of_mem hx)
  exact (hd k x hk).2
end Go.Proofs.YtebcocehdjoafaaDoor
