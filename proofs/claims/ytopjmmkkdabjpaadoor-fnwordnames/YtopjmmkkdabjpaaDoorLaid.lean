/- What the row's condition on the program's table of names gives: the table's cells hold the ten names. -/
import Derived.Test.YtopjmmkkdabjpaaDoorNames
import Derived.LaidMore
import Derived.LaidLaws
import Derived.Stop.Joined
import Derived.ChangeVars
import Derived.WalkSmall
import Derived.Carry
namespace Go.Proofs.YtopjmmkkdabjpaaDoor
open Go.ChangeShapes Go.WideShapes Go.ChangeAt Go.RowKit
set_option linter.unusedVariables false

theorem own : ownKnob Tryd.prog.godebug = none := by kernel_rfl
theorem laidOut : laidOutB Tryd.prog = true := by kernel_rfl
/-- The table's name, out of the row. -/
def tabName : String := Rows.fnExactWordNameSpec.vars.headD ""
theorem gTab : Tryd.prog.globalNamed tabName = some 0 := by kernel_rfl
theorem tTab : (Tryd.prog.globals[0]?).map (·.type) = some 36 := by kernel_rfl
theorem cStr : Tryd.prog.cellsOf 9 = 1 := by kernel_rfl

/-- The heap that the start leaves meets the condition. -/
theorem door_met (os : Os) (args : Array Value) : laidMetH Tryd.prog Rows.fnExactWordNameRow.laid ((World.doorLaid Tryd.prog 400 os).forCall (fun _ _ => 0) ⟨#[], args, []⟩).memory :=
  laidMetH_of_parts3 (fuel := 8) (laidMet_of_run' 8 (by kernel_rfl) (by kernel_rfl)) (by kernel_rfl) (by kernel_rfl)

def tabParts : List (DataW Unit) := [.lit (.string []), .lit (.string [97, 100, 100]), .lit (.string [115, 117, 98]), .lit (.string [109, 117, 108]), .lit (.string [97, 110, 100]), .lit (.string [111, 114]), .lit (.string [120, 111, 114]), .lit (.string [108, 101, 115, 115]), .lit (.string [115, 97, 109, 101]), .lit (.string [108, 101, 102, 116]), .lit (.string [114, 105, 103, 104, 116])]
theorem tab_part (i : Nat) (hi : i < 11) : tabParts[i]? = some (.lit (.string (nameV i).data.toList)) := by
  match i, hi with
  | 0, _ => rfl
  | 1, _ => rfl
  | 2, _ => rfl
  | 3, _ => rfl
  | 4, _ => rfl
  | 5, _ => rfl
  | 6, _ => rfl
  | 7, _ => rfl
  | 8, _ => rfl
  | 9, _ => rfl
  | 10, _ => rfl

theorem of_laid {W : World} (h : laidMetH Tryd.prog Rows.fnExactWordNameRow.laid W) : Tab W := by
  rw [MakeChecks.laidMetH_plain _ _ _ (by kernel_rfl)] at h
  obtain ⟨ps, ⟨g0, t0, cs0, f0, p0, q0, hg0, ht0, hv0, hd0, _, _⟩, _, _⟩ := h
  obtain rfl := Option.some.inj (gTab.symm.trans hg0)
  obtain rfl := Option.some.inj (tTab.symm.trans ht0)
  obtain ⟨xs, m1, rfl, hx1, hlen, hn, hel⟩ := DataW.trod_array Tryd.underlying36 hd0
  have hd : tabParts = xs.map (·.1) := by
    have := congrArg Prod.fst hx1
    exact DataW.agg.inj this
  intro i hi
  have hi' := hel i hi
  rw [List.getElem?_eq_getElem (by omega), cStr] at hi'
  obtain ⟨s, e1, e2, _⟩ := DataW.trod_string Tryd.underlying9 hi'
  have hp := tab_part i hi
  rw [hd, List.getElem?_map, List.getElem?_eq_getElem (by omega), e2] at hp
  have hs : s = nameV i := by
    apply Go.WideShapes.bytes_inj
    simpa using hp
  have hc := World.var?_cell hg0 hv0 i
  rw [hc, ← hs]
  have e3 : cs0.toList[i]? = some (.string s) := by
    have := congrArg (fun l => l[0]?) e1
    simpa using this
  simpa using e3

/-- The variable reads again as it did. -/
theorem vars_again {H : Type} {enc : TypeId × Value → H} {W W' : World} {cs : Array Value} {fuel : Nat} {d : DataW H} {p : List MemPlace}
    (hvar : W.var? Tryd.prog tabName = some cs) (hd : DataW.trod enc Tryd.prog W 0 (fun _ => true) true fuel 36 cs.toList = some (d, p)) (hlt : ∀ x ∈ p, x.block < W.heap.size) (h0 : 0 < W.heap.size) (hB : Below W.heap.size W W') :
    DataW.TrodVars enc Tryd.prog W' (fun b => decide (b < W.heap.size)) [tabName] [d] (MemPlace.row ⟨0, 0, none⟩ cs.size ++ p) := by
  obtain ⟨fuel', hd'⟩ := Below.trod laidOut (by kernel_rfl) (of_decide_eq_true (by kernel_rfl)) (v := .agg cs) (⟨fuel, by simpa [Value.cells] using hd⟩ : DataW.Trod enc Tryd.prog W 0 (fun _ => true) true 36 (.agg cs) d p) hB hlt
  exact trodVars_mk1 (enc := enc) (spare := fun b => decide (b < W.heap.size)) gTab tTab (var?_below hB gTab h0 hvar) (by simpa [Value.cells] using hd')
end Go.Proofs.YtopjmmkkdabjpaaDoor
