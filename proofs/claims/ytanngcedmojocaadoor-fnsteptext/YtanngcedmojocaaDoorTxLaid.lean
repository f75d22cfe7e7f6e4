/- What the row's condition on the tables gives: they lie in memory; the variables read again as they did. -/
import Derived.Test.YtanngcedmojocaaDoorTxTab
import Derived.LaidMore
import Derived.LaidLaws
import Derived.LaidSub
import Derived.OpenVars
import Derived.Stop.Joined
import Derived.ChangeVars
import Derived.WalkSmall
import Derived.Carry
namespace Go.Proofs.YtanngcedmojocaaDoor
open Go.ChangeShapes Go.WideShapes Go.ChangeAt Go.RowKit
set_option linter.unusedVariables false

theorem own : ownKnob Tryd.prog.godebug = none := by kernel_rfl
theorem laidOutT : laidOutB Tryd.prog = true := by kernel_rfl
theorem cForm : Tryd.prog.cellsOf 58 = 4 := by kernel_rfl
theorem cPart : Tryd.prog.cellsOf 51 = 1 := by kernel_rfl
theorem cStrT : Tryd.prog.cellsOf 9 = 1 := by kernel_rfl

/-- The heap that the start leaves meets the condition. -/
theorem door_met (os : Os) (args : Array Value) : laidMetH Tryd.prog Rows.fnExactStepTextRow.laid ((World.doorLaid Tryd.prog 400 os).forCall (fun _ _ => 0) ⟨#[], args, []⟩).memory :=
  laidMetH_of_parts3 (fuel := 8) (laidMet_of_run' 8 (by kernel_rfl) (by kernel_rfl)) (by kernel_rfl) (by kernel_rfl)

def formD (f : FormD) : DataW Unit := .agg [.lit (.int .i64 f.r), .lit (.int .i64 f.a), .lit (.int .i64 f.b), .lit (.int .i64 f.n)]
def formParts : List (DataW Unit) := (List.range 12).map (fun i => formD (formAt i))
def textParts (f : Nat → List UInt8) (n : Nat) : List (DataW Unit) := (List.range n).map (fun i => .lit (.string (f i)))
theorem form_part (i : Nat) (hi : i < 12) : formParts[i]? = some (formD (formAt i)) := by simp [formParts, hi]
theorem text_part (f : Nat → List UInt8) {n i : Nat} (hi : i < n) : (textParts f n)[i]? = some (.lit (.string (f i))) := by simp [textParts, hi]

theorem part_cell {H : Type} {enc : TypeId × Value → H} {w : World} {base : Nat} {spare : Nat → Bool} {held : Bool} {fuel : Nat} {cs : List Value} {y : DataW H × List MemPlace} {j : Nat} {z : Int}
    (h : DataW.trod enc Tryd.prog w base spare held fuel 51 ((cs.drop j).take 1) = some y) (hz : y.1 = .lit (.int .i64 z)) : cs[j]? = some (.int .i64 z) := by
  obtain ⟨z', hc, rfl, _⟩ := DataW.trod_int Tryd.underlying51 h
  have e : z' = z := by
    have h1 := DataW.lit.inj hz
    cases h1
    rfl
  subst e
  exact take_one hc
set_option maxRecDepth 100000 in
theorem form_cells {W : World} {held : Bool} {fuel : Nat} {cs : List Value} {y : DataW Unit × List MemPlace} {f : FormD}
    (h : DataW.trod (fun _ => ()) Tryd.prog W 0 (fun _ => true) held fuel 58 cs = some y) (hy : y.1 = formD f) : cs[0]? = some (.int .i64 f.r) ∧ cs[1]? = some (.int .i64 f.a) ∧ cs[2]? = some (.int .i64 f.b) ∧ cs[3]? = some (.int .i64 f.n) := by
  obtain ⟨ys, n2, _, rfl, hl2, hlen2, hf2⟩ := DataW.trod_struct Tryd.underlying58 h
  have hys : ys.map (·.1) = [.lit (.int .i64 f.r), .lit (.int .i64 f.a), .lit (.int .i64 f.b), .lit (.int .i64 f.n)] := DataW.agg.inj hy
  match ys, hys with
  | [y0, y1, y2, y3], e =>
    simp only [List.map_cons, List.map_nil, List.cons.injEq, and_true] at e
    obtain ⟨e0, e1, e2, e3⟩ := e
    refine ⟨?_, ?_, ?_, ?_⟩
    · exact part_cell (hf2 0 _ rfl) e0
    · exact part_cell (hf2 1 _ rfl) e1
    · exact part_cell (hf2 2 _ rfl) e2
    · exact part_cell (hf2 3 _ rfl) e3

/-- One variable of the list. -/
theorem laid_one {W : World} {l : List (String × DataW Unit)} (h : laidMet Tryd.prog l W) (n : String) {d : DataW Unit} (hf : l.filter (fun x => x.1 == n) = [(n, d)]) : laidMet Tryd.prog [(n, d)] W := by
  have h9 := h.filter (fun x => x.1 == n)
  rw [hf] at h9
  exact h9
theorem ftab_of {W : World} {n : String} {g : Nat} (hgn : Tryd.prog.globalNamed n = some g) (hgt : (Tryd.prog.globals[g]?).map (·.type) = some 80) (h : laidMet Tryd.prog [(n, .agg formParts)] W) (i : Nat) (hi : i < 12) :
    W.cell? ⟨g, i * 4, none⟩ = some (.int .i64 (formAt i).r) ∧ W.cell? ⟨g, i * 4 + 1, none⟩ = some (.int .i64 (formAt i).a) ∧ W.cell? ⟨g, i * 4 + 2, none⟩ = some (.int .i64 (formAt i).b) ∧ W.cell? ⟨g, i * 4 + 3, none⟩ = some (.int .i64 (formAt i).n) := by
  obtain ⟨ps, ⟨g0, t0, cs0, f0, p0, q0, hg0, ht0, hv0, hd0, _, _⟩, _, _⟩ := h
  obtain rfl := Option.some.inj (hgn.symm.trans hg0)
  obtain rfl := Option.some.inj (hgt.symm.trans ht0)
  obtain ⟨xs, m1, rfl, hx1, hlen, hn, hel⟩ := DataW.trod_array Tryd.underlying80 hd0
  have hd : formParts = xs.map (·.1) := DataW.agg.inj (congrArg Prod.fst hx1)
  have hi' := hel i hi
  rw [List.getElem?_eq_getElem (by omega), cForm] at hi'
  have hp := form_part i hi
  rw [hd, List.getElem?_map, List.getElem?_eq_getElem (by omega)] at hp
  simp only [Option.map_some, Option.some.injEq] at hp
  obtain ⟨c0, c1, c2, c3⟩ := form_cells hi' hp
  have hc := fun j => World.var?_cell hg0 hv0 (i * 4 + j)
  have hk : ∀ (j : Nat) (v : Value), j < 4 → (List.take 4 (List.drop (i * 4) cs0.toList))[j]? = some v → W.cell? ⟨g, i * 4 + j, none⟩ = some v := by
    intro j v hj h
    rw [List.getElem?_take_of_lt hj, List.getElem?_drop] at h
    rw [hc j]
    simpa using h
  exact ⟨hk 0 _ (by omega) c0, hk 1 _ (by omega) c1, hk 2 _ (by omega) c2, hk 3 _ (by omega) c3⟩
theorem ntab_of {W : World} {n : String} {g t m : Nat} {f : Nat → List UInt8} (ht : Tryd.prog.underlying t = some (.array m 9)) (hgn : Tryd.prog.globalNamed n = some g) (hgt : (Tryd.prog.globals[g]?).map (·.type) = some t) (h : laidMet Tryd.prog [(n, .agg (textParts f m))] W) (i : Nat) (hi : i < m) :
    W.cell? ⟨g, i, none⟩ = some (.string (bs (f i))) := by
  obtain ⟨ps, ⟨g0, t0, cs0, f0, p0, q0, hg0, ht0, hv0, hd0, _, _⟩, _, _⟩ := h
  obtain rfl := Option.some.inj (hgn.symm.trans hg0)
  obtain rfl := Option.some.inj (hgt.symm.trans ht0)
  obtain ⟨xs, m1, rfl, hx1, hlen, hn, hel⟩ := DataW.trod_array ht hd0
  have hd : textParts f m = xs.map (·.1) := DataW.agg.inj (congrArg Prod.fst hx1)
  have hi' := hel i hi
  rw [List.getElem?_eq_getElem (by omega), cStrT] at hi'
  obtain ⟨s, e1, e2, _⟩ := DataW.trod_string Tryd.underlying9 hi'
  have hp := text_part f hi
  rw [hd, List.getElem?_map, List.getElem?_eq_getElem (by omega), e2] at hp
  have hs : s = bs (f i) := by
    apply Go.WideShapes.bytes_inj
    simpa [bs] using hp
  have hc := World.var?_cell hg0 hv0 i
  rw [hc, ← hs]
  have e3 : cs0.toList[i]? = some (.string s) := by
    have := congrArg (fun l => l[0]?) e1
    simpa using this
  simpa using e3

theorem gForms : Tryd.prog.globalNamed "loop.example/g00192/impl.stepForms" = some 1 := by kernel_rfl
theorem gNames : Tryd.prog.globalNamed "loop.example/g00192/impl.stepNames" = some 0 := by kernel_rfl
theorem gWords : Tryd.prog.globalNamed "loop.example/g00192/impl.wordNames" = some 2 := by kernel_rfl
theorem of_laid {W : World} (h : laidMetH Tryd.prog Rows.fnExactStepTextRow.laid W) : Tabs W := by
  rw [MakeChecks.laidMetH_plain _ _ _ (by kernel_rfl)] at h
  refine ⟨fun i hi => ?_, fun i hi => ?_, fun i hi => ?_, ?_⟩
  · exact ftab_of gForms (by kernel_rfl) (laid_one h "loop.example/g00192/impl.stepForms" (by kernel_rfl)) i hi
  · exact ntab_of (f := opNm) Tryd.underlying75 gNames (by kernel_rfl) (laid_one h "loop.example/g00192/impl.stepNames" (by kernel_rfl)) i hi
  · exact ntab_of (f := wNm) Tryd.underlying82 gWords (by kernel_rfl) (laid_one h "loop.example/g00192/impl.wordNames" (by kernel_rfl)) i hi
  · exact Lib.tabIs_of_head (n := 20) gPow (t := 95) (by kernel_rfl) Tryd.underlying95 Tryd.underlying88 (by kernel_rfl) (by kernel_rfl) (laid_one h "internal/strconv.uint64pow10" (d := Lib.tabData .u64 Lib.pow10Tab) (by kernel_rfl))
end Go.Proofs.YtanngcedmojocaaDoor
