/- What the row's condition on the program's table of forms gives: the table's cells hold the forms. -/
import Derived.Test.YtebcocehdjoafaaDoorMaSt
import Derived.LaidMore
import Derived.LaidLaws
import Derived.Stop.Joined
import Derived.ChangeVars
import Derived.WalkSmall
import Derived.Carry
namespace Go.Proofs.YtebcocehdjoafaaDoor
open Go.ChangeShapes Go.WideShapes Go.ChangeAt Go.RowKit
set_option linter.unusedVariables false

theorem own : ownKnob Tryd.prog.godebug = none := by kernel_rfl
theorem laidOutT : laidOutB Tryd.prog = true := by kernel_rfl
/-- The table's name, out of the row. -/
def tabName : String := Rows.fnExactStepOkSpec.vars.headD ""
theorem gTab : Tryd.prog.globalNamed tabName = some 0 := by kernel_rfl
theorem tTab : (Tryd.prog.globals[0]?).map (·.type) = some 86 := by kernel_rfl
theorem cForm : Tryd.prog.cellsOf 55 = 4 := by kernel_rfl
theorem cPart : Tryd.prog.cellsOf 53 = 1 := by kernel_rfl

/-- The heap that the start leaves meets the condition. -/
theorem door_met (os : Os) (args : Array Value) : laidMetH Tryd.prog Rows.fnExactStepOkRow.laid ((World.doorLaid Tryd.prog 400 os).forCall (fun _ _ => 0) ⟨#[], args, []⟩).memory :=
  laidMetH_of_parts3 (fuel := 8) (laidMet_of_run' 8 (by kernel_rfl) (by kernel_rfl)) (by kernel_rfl) (by kernel_rfl)

def formD (f : FormD) : DataW Unit := .agg [.lit (.int .i64 f.r), .lit (.int .i64 f.a), .lit (.int .i64 f.b), .lit (.int .i64 f.n)]
def tabParts : List (DataW Unit) := (List.range 12).map (fun i => formD (formAt i))
theorem tab_is : (Rows.laid_loop_example_g00192_impl_stepForms : DataW Unit) = .agg tabParts := rfl
theorem tab_part (i : Nat) (hi : i < 12) : tabParts[i]? = some (formD (formAt i)) := by simp [tabParts, hi]

theorem part_cell {H : Type} {enc : TypeId × Value → H} {w : World} {base : Nat} {spare : Nat → Bool} {held : Bool} {fuel : Nat} {cs : List Value} {y : DataW H × List MemPlace} {j : Nat} {z : Int}
    (h : DataW.trod enc Tryd.prog w base spare held fuel 53 ((cs.drop j).take 1) = some y) (hz : y.1 = .lit (.int .i64 z)) : cs[j]? = some (.int .i64 z) := by
  obtain ⟨z', hc, rfl, _⟩ := DataW.trod_int Tryd.underlying53 h
  have e : z' = z := by
    have h1 := DataW.lit.inj hz
    cases h1
    rfl
  subst e
  exact take_one hc
set_option maxRecDepth 100000 in
theorem form_cells {W : World} {held : Bool} {fuel : Nat} {cs : List Value} {y : DataW Unit × List MemPlace} {f : FormD}
    (h : DataW.trod (fun _ => ()) Tryd.prog W 0 (fun _ => true) held fuel 55 cs = some y) (hy : y.1 = formD f) : cs[0]? = some (.int .i64 f.r) ∧ cs[1]? = some (.int .i64 f.a) ∧ cs[2]? = some (.int .i64 f.b) ∧ cs[3]? = some (.int .i64 f.n) := by
  obtain ⟨ys, n2, _, rfl, hl2, hlen2, hf2⟩ := DataW.trod_struct Tryd.underlying55 h
  have hys : ys.map (·.1) = [.lit (.int .i64 f.r), .lit (.int .i64 f.a), .lit (.int .i64 f.b), .lit (.int .i64 f.n)] := DataW.agg.inj hy
  match ys, hys with
  | [y0, y1, y2, y3], e =>
    simp only [List.map_cons, List.map_nil, List.cons.injEq, and_true] at e
    obtain ⟨e0, e1, e2, e3⟩ := e
    refine ⟨?_, ?_, ?_, ?_⟩
    · exact part_cell (hf2 0 _ rfl) e0
    · exact part_cell (hf2 1 _ rfl) e1
    · exact part_cell (hf2 2 _ rfl) e2
    · exact part_cell (hf2 3 _ rfl) e3

theorem of_laid {W : World} (h : laidMetH Tryd.prog Rows.fnExactStepOkRow.laid W) : FTab W := by
  rw [MakeChecks.laidMetH_plain _ _ _ (by kernel_rfl)] at h
  obtain ⟨ps, ⟨g0, t0, cs0, f0, p0, q0, hg0, ht0, hv0, hd0, _, _⟩, _, _⟩ := h
  obtain rfl := Option.some.inj (gTab.symm.trans hg0)
  obtain rfl := Option.some.inj (tTab.symm.trans ht0)
  obtain ⟨xs, m1, rfl, hx1, hlen, hn, hel⟩ := DataW.trod_array Tryd.underlying86 hd0
  have hd : tabParts = xs.map (·.1) := by
    have := congrArg Prod.fst hx1
    exact DataW.agg.inj this
  intro i hi
  have hi' := hel i hi
  rw [List.getElem?_eq_getElem (by omega), cForm] at hi'
  have hp := tab_part i hi
  rw [hd, List.getElem?_map, List.getElem?_eq_getElem (by omega)] at hp
  simp only [Option.map_some, Option.some.injEq] at hp
  obtain ⟨c0, c1, c2, c3⟩ := form_cells hi' hp
  have hc := fun j => World.var?_cell hg0 hv0 (i * 4 + j)
  have hk : ∀ (j : Nat) (v : Value), j < 4 → (List.take 4 (List.drop (i * 4) cs0.toList))[j]? = some v → W.cell? ⟨0, i * 4 + j, none⟩ = some v := by
    intro j v hj h
    rw [List.getElem?_take_of_lt hj, List.getElem?_drop] at h
    rw [hc j]
    simpa using h
  exact ⟨hk 0 _ (by omega) c0, hk 1 _ (by omega) c1, hk 2 _ (by omega) c2, hk 3 _ (by omega) c3⟩

/-- The variable reads again as it did. -/
theorem vars_again {H : Type} {enc : TypeId × Value → H} {W W' : World} {cs : Array Value} {fuel : Nat} {d : DataW H} {p : List MemPlace}
    (hvar : W.var? Tryd.prog tabName = some cs) (hd : DataW.trod enc Tryd.prog W 0 (fun _ => true) true fuel 86 cs.toList = some (d, p)) (hlt : ∀ x ∈ p, x.block < W.heap.size) (h0 : 0 < W.heap.size) (hB : Below W.heap.size W W') :
    DataW.TrodVars enc Tryd.prog W' (fun b => decide (b < W.heap.size)) [tabName] [d] (MemPlace.row ⟨0, 0, none⟩ cs.size ++ p) := by
  obtain ⟨fuel', hd'⟩ := Below.trod laidOutT (by kernel_rfl) (of_decide_eq_true (by kernel_rfl)) (v := .agg cs) (⟨fuel, by simpa [Value.cells] using hd⟩ : DataW.Trod enc Tryd.prog W 0 (fun _ => true) true 86 (.agg cs) d p) hB hlt
  exact trodVars_mk1 (enc := enc) (spare := fun b => decide (b < W.heap.size)) gTab tTab (var?_below hB gTab h0 hvar) (by simpa [Value.cells] using hd')
end Go.Proofs.YtebcocehdjoafaaDoor
