/- The laws' own steps, read, with the range of their ops and numbers. -/
import Derived.Test.YtanngcedmojocaaDoorMaOpen
import Derived.Test.YtanngcedmojocaaDoorTxPar
import Derived.ChangeFn
namespace Go.Proofs.YtanngcedmojocaaDoor
open Go.ChangeShapes Go.WideShapes Go.ChangeAt Go.RowKit
set_option linter.unusedVariables false

set_option maxRecDepth 100000 in
theorem openStepN {H : Type} {enc : TypeId × Value → H} {w : World} {base : Nat} {spare : Nat → Bool} {held : Bool} {r : Reach} {b0 : Nat} {v : Value} {d : DataW H} {p : List MemPlace}
    (hv : Value.okWide Tryd.prog w r b0 31 v) (h : DataW.Trod enc Tryd.prog w base spare held 31 v d p) :
    ∃ op d a b n : Int, v = .agg #[.int .i64 op, .int .i64 d, .int .i64 a, .int .i64 b, .int .i64 n] ∧ (-9223372036854775808 ≤ op ∧ op ≤ 9223372036854775807) ∧ -9223372036854775808 ≤ n ∧ n ≤ 9223372036854775807 := by
  obtain ⟨op, d', a, b, n, e⟩ := openStep hv h
  subst e
  obtain ⟨fuel, hf⟩ := h
  obtain ⟨x0, e0, hw⟩ := trod_field_int Tryd.underlying31 Tryd.underlying3 cells_int5 hf 0 0 rfl
  obtain ⟨x4, e4, hw4⟩ := trod_field_int Tryd.underlying31 Tryd.underlying3 cells_int5 hf 4 4 rfl
  have h0 : x0 = op := by simpa [Value.cells] using e0.symm
  have h4 : x4 = n := by simpa [Value.cells] using e4.symm
  subst h0 h4
  exact ⟨x0, d', a, b, x4, rfl, bounds_i64 hw, bounds_i64 hw4⟩
/-- A step whose op and number have 64 bits. -/
def StepN (w : World) (b o : Nat) (x : InsD) : Prop := InsAt w b o x ∧ (-9223372036854775808 ≤ x.op ∧ x.op ≤ 9223372036854775807) ∧ InR x

section
variable {H : Type} {enc : TypeId × Value → H} {w : World} {base : Nat} {spare : Nat → Bool} {held : Bool}

theorem read_stepN (n : Nat) (cs : List Value) (y : DataW H × List MemPlace) (b o : Nat) (h : DataW.trod enc Tryd.prog w base spare held n 31 cs = some y) (hc : ∀ i, i < 5 → w.cell? ⟨b, o + i, none⟩ = cs[i]?) : ∃ x, StepN w b o x := by
  obtain ⟨x0, e0, h0⟩ := trod_field_int Tryd.underlying31 Tryd.underlying3 cells_int5 h 0 0 rfl
  obtain ⟨x1, e1, _⟩ := trod_field_int Tryd.underlying31 Tryd.underlying3 cells_int5 h 1 1 rfl
  obtain ⟨x2, e2, _⟩ := trod_field_int Tryd.underlying31 Tryd.underlying3 cells_int5 h 2 2 rfl
  obtain ⟨x3, e3, _⟩ := trod_field_int Tryd.underlying31 Tryd.underlying3 cells_int5 h 3 3 rfl
  obtain ⟨x4, e4, h4⟩ := trod_field_int Tryd.underlying31 Tryd.underlying3 cells_int5 h 4 4 rfl
  exact ⟨⟨x0, x1, x2, x3, x4⟩, ⟨(hc 0 (by omega)).trans e0, (hc 1 (by omega)).trans e1, (hc 2 (by omega)).trans e2, (hc 3 (by omega)).trans e3, (hc 4 (by omega)).trans e4⟩, bounds_i64 h0, bounds_i64 h4⟩

end

def NumsIn (l : List InsD) : Prop := ∀ x ∈ l, InR x
theorem openStepsN {H : Type} {enc : TypeId × Value → H} {w : World} {base : Nat} {spare : Nat → Bool} {held : Bool} {a : Option Addr} {len cap : Nat} {d : DataW H} {p : List MemPlace}
    (h : DataW.Trod enc Tryd.prog w base spare held 34 (.slice a len cap) d p) : ∃ l, StepsAt w (.slice a len cap) l ∧ OpsIn l ∧ NumsIn l := by
  obtain ⟨fuel, hf⟩ := h
  obtain ⟨l, hl⟩ := readList Tryd.underlying34 cells_lStep (by omega) read_stepN hf
  have key : ∀ x ∈ l, (-9223372036854775808 ≤ x.op ∧ x.op ≤ 9223372036854775807) ∧ InR x := fun x hx => by
    obtain ⟨k, hk⟩ := List.getElem?_of_mem hx
    obtain ⟨_, _, _, _, hc⟩ := hl
    obtain ⟨_, _, _, _, hd⟩ := hc (List.length_pos_of_mem hx)
    exact (hd k x hk).2
  exact ⟨l, hl.low (Nat.le_refl _) (fun _ _ _ hx => hx.1), fun x hx => (key x hx).1, fun x hx => (key x hx).2⟩
/-- As many data as names. -/
theorem trodVars_length {H : Type} {enc : TypeId × Value → H} {P : Program} {w : World} {sp : Nat → Bool} : ∀ {ns : List String} {gs : List (DataW H)} {ps : List MemPlace}, DataW.TrodVars enc P w sp ns gs ps → gs.length = ns.length
  | [], [], _, _ => rfl
  | [], _ :: _, _, h => h.elim
  | _ :: _, [], _, h => h.elim
  | _ :: _, _ :: _, _, ⟨_, _, _, _, _, _, _, _, _, _, hs, _⟩ => by
    have h9 := trodVars_length hs
    simp [h9]
theorem trodVars_three {H : Type} {enc : TypeId × Value → H} {P : Program} {w : World} {sp : Nat → Bool} {n0 n1 n2 : String} {gs : List (DataW H)} {ps : List MemPlace} (h : DataW.TrodVars enc P w sp [n0, n1, n2] gs ps) : ∃ a b c, gs = [a, b, c] := by
  have h9 := trodVars_length h
  match gs, h9 with
  | [a, b, c], _ => exact ⟨a, b, c, rfl⟩
end Go.Proofs.YtanngcedmojocaaDoor
