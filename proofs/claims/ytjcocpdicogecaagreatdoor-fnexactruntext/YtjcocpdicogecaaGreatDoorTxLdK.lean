/- What the row's condition on the tables gives: they lie in memory; the variables read again as they did. -/
import Derived.Test.YtjcocpdicogecaaGreatDoorTxRlK
import Derived.Lay
import Derived.Stop.LaidErr
import Derived.HandedShaped
import Derived.Shelf.Vars
import Derived.LaidMore
import Derived.LaidLaws
import Derived.LaidSub
import Derived.OpenVars
import Derived.Stop.Joined
import Derived.ChangeVars
import Derived.WalkSmall
import Derived.Carry
namespace Go.Proofs.YtjcocpdicogecaaGreatDoor
open Go.ChangeShapes Go.WideShapes Go.ChangeAt Go.RowKit
set_option linter.unusedVariables false

theorem own : ownKnob Tryz.prog.godebug = none := by kernel_rfl
theorem laidOutT : laidOutB Tryz.prog = true := by kernel_rfl
theorem cForm : Tryz.prog.cellsOf 108 = 4 := by kernel_rfl
theorem cPart : Tryz.prog.cellsOf 88 = 1 := by kernel_rfl
theorem cStrT : Tryz.prog.cellsOf 9 = 1 := by kernel_rfl

def formD (f : FormD) : DataW Unit := .agg [.lit (.int .i64 f.r), .lit (.int .i64 f.a), .lit (.int .i64 f.b), .lit (.int .i64 f.n)]
def formParts : List (DataW Unit) := (List.range 12).map (fun i => formD (formAt i))
def textParts (f : Nat → List UInt8) (n : Nat) : List (DataW Unit) := (List.range n).map (fun i => .lit (.string (f i)))
theorem form_part (i : Nat) (hi : i < 12) : formParts[i]? = some (formD (formAt i)) := by simp [formParts, hi]
theorem text_part (f : Nat → List UInt8) {n i : Nat} (hi : i < n) : (textParts f n)[i]? = some (.lit (.string (f i))) := by simp [textParts, hi]

theorem part_cell {H : Type} {enc : TypeId × Value → H} {w : World} {base : Nat} {spare : Nat → Bool} {held : Bool} {fuel : Nat} {cs : List Value} {y : DataW H × List MemPlace} {j : Nat} {z : Int}
    (h : DataW.trod enc Tryz.prog w base spare held fuel 88 ((cs.drop j).take 1) = some y) (hz : y.1 = .lit (.int .i64 z)) : cs[j]? = some (.int .i64 z) := by
  obtain ⟨z', hc, rfl, _⟩ := DataW.trod_int Tryz.underlying88 h
  have e : z' = z := by
    have h1 := DataW.lit.inj hz
    cases h1
    rfl
  subst e
  exact take_one hc
set_option maxRecDepth 100000 in
theorem form_cells {W : World} {held : Bool} {fuel : Nat} {cs : List Value} {y : DataW Unit × List MemPlace} {f : FormD}
    (h : DataW.trod (fun _ => ()) Tryz.prog W 0 (fun _ => true) held fuel 108 cs = some y) (hy : y.1 = formD f) : cs[0]? = some (.int .i64 f.r) ∧ cs[1]? = some (.int .i64 f.a) ∧ cs[2]? = some (.int .i64 f.b) ∧ cs[3]? = some (.int .i64 f.n) := by
  obtain ⟨ys, n2, _, rfl, hl2, hlen2, hf2⟩ := DataW.trod_struct Tryz.underlying108 h
  have hys : ys.map (·.1) = [.lit (.int .i64 f.r), .lit (.int .i64 f.a), .lit (.int .i64 f.b), .lit (.int .i64 f.n)] := DataW.agg.inj hy
  match ys, hys with
  | [y0, y1, y2, y3], e =>
    simp only [List.map_cons, List.map_nil, List.cons.injEq, and_true] at e
    obtain ⟨e0, e1, e2, e3⟩ := e
    refine ⟨?_, ?_, ?_, ?_⟩
    · exact part_cell (hf2 0 _ rfl) e0
    · exact part_cell (hf2 1 _ rfl) e1
    · exact part_cell (hf2 2 _ rfl) e2
    · exact part_cell (hf2 3 _ rfl) e3

/-- One variable of the list. -/
theorem laid_one {W : World} {l : List (String × DataW Unit)} (h : laidMet Tryz.prog l W) (n : String) {d : DataW Unit} (hf : l.filter (fun x => x.1 == n) = [(n, d)]) : laidMet Tryz.prog [(n, d)] W := by
  have h9 := h.filter (fun x => x.1 == n)
  rw [hf] at h9
  exact h9
theorem ftab_of {W : World} {n : String} {g : Nat} (hgn : Tryz.prog.globalNamed n = some g) (hgt : (Tryz.prog.globals[g]?).map (·.type) = some 122) (h : laidMet Tryz.prog [(n, .agg formParts)] W) (i : Nat) (hi : i < 12) :
    W.cell? ⟨g, i * 4, none⟩ = some (.int .i64 (formAt i).r) ∧ W.cell? ⟨g, i * 4 + 1, none⟩ = some (.int .i64 (formAt i).a) ∧ W.cell? ⟨g, i * 4 + 2, none⟩ = some (.int .i64 (formAt i).b) ∧ W.cell? ⟨g, i * 4 + 3, none⟩ = some (.int .i64 (formAt i).n) := by
  obtain ⟨ps, ⟨g0, t0, cs0, f0, p0, q0, hg0, ht0, hv0, hd0, _, _⟩, _, _⟩ := h
  obtain rfl := Option.some.inj (hgn.symm.trans hg0)
  obtain rfl := Option.some.inj (hgt.symm.trans ht0)
  obtain ⟨xs, m1, rfl, hx1, hlen, hn, hel⟩ := DataW.trod_array Tryz.underlying122 hd0
  have hd : formParts = xs.map (·.1) := DataW.agg.inj (congrArg Prod.fst hx1)
  have hi' := hel i hi
  rw [List.getElem?_eq_getElem (by omega), cForm] at hi'
  have hp := form_part i hi
  rw [hd, List.getElem?_map, List.getElem?_eq_getElem (by omega)] at hp
  simp only [Option.map_some, Option.some.injEq] at hp
  obtain ⟨c0, c1, c2, c3⟩ := form_cells hi' hp
  have hc := fun j => World.var?_cell hg0 hv0 (i * 4 + j)
  have hk : ∀ (j : Nat) (v : Value), j < 4 → (List.take 4 (List.drop (i * 4) cs0.toList))[j]? = some v → W.cell? ⟨g, i * 4 + j, none⟩ = some v := by
    intro j v hj h
    rw [List.getElem?_take_of_lt hj, List.getElem?_drop] at h
    rw [hc j]
    simpa using h
  exact ⟨hk 0 _ (by omega) c0, hk 1 _ (by omega) c1, hk 2 _ (by omega) c2, hk 3 _ (by omega) c3⟩
theorem ntab_of {W : World} {n : String} {g t m : Nat} {f : Nat → List UInt8} (ht : Tryz.prog.underlying t = some (.array m 9)) (hgn : Tryz.prog.globalNamed n = some g) (hgt : (Tryz.prog.globals[g]?).map (·.type) = some t) (h : laidMet Tryz.prog [(n, .agg (textParts f m))] W) (i : Nat) (hi : i < m) :
    W.cell? ⟨g, i, none⟩ = some (.string (bs (f i))) := by
  obtain ⟨ps, ⟨g0, t0, cs0, f0, p0, q0, hg0, ht0, hv0, hd0, _, _⟩, _, _⟩ := h
  obtain rfl := Option.some.inj (hgn.symm.trans hg0)
  obtain rfl := Option.some.inj (hgt.symm.trans ht0)
  obtain ⟨xs, m1, rfl, hx1, hlen, hn, hel⟩ := DataW.trod_array ht hd0
  have hd : textParts f m = xs.map (·.1) := DataW.agg.inj (congrArg Prod.fst hx1)
  have hi' := hel i hi
  rw [List.getElem?_eq_getElem (by omega), cStrT] at hi'
  obtain ⟨s, e1, e2, _⟩ := DataW.trod_string Tryz.underlying9 hi'
  have hp := text_part f hi
  rw [hd, List.getElem?_map, List.getElem?_eq_getElem (by omega), e2] at hp
  have hs : s = bs (f i) := by
    apply Go.WideShapes.bytes_inj
    simpa [bs] using hp
  have hc := World.var?_cell hg0 hv0 i
  rw [hc, ← hs]
  have e3 : cs0.toList[i]? = some (.string s) := by
    have := congrArg (fun l => l[0]?) e1
    simpa using this
  simpa using e3

theorem gForms : Tryz.prog.globalNamed "loop.example/g00192/impl.stepForms" = some 1 := by kernel_rfl
theorem gNames : Tryz.prog.globalNamed "loop.example/g00192/impl.stepNames" = some 2 := by kernel_rfl
theorem gWords : Tryz.prog.globalNamed "loop.example/g00192/impl.wordNames" = some 3 := by kernel_rfl
theorem of_laid {W : World} (h : laidMetH Tryz.prog Rows.fnExactParseRow.laid W) : Tabs W := by
  rw [MakeChecks.laidMetH_plain _ _ _ (by kernel_rfl)] at h
  refine ⟨fun i hi => ?_, fun i hi => ?_, fun i hi => ?_, ?_⟩
  · exact ftab_of gForms (by kernel_rfl) (laid_one h "loop.example/g00192/impl.stepForms" (by kernel_rfl)) i hi
  · exact ntab_of (f := opNm) Tryz.underlying127 gNames (by kernel_rfl) (laid_one h "loop.example/g00192/impl.stepNames" (by kernel_rfl)) i hi
  · exact ntab_of (f := wNm) Tryz.underlying141 gWords (by kernel_rfl) (laid_one h "loop.example/g00192/impl.wordNames" (by kernel_rfl)) i hi
  · exact Lib.tabIs_of_head (n := 20) gPow (t := 171) (by kernel_rfl) Tryz.underlying171 Tryz.underlying142 (by kernel_rfl) (by kernel_rfl) (laid_one h "internal/strconv.uint64pow10" (d := Lib.tabData .u64 Lib.pow10Tab) (by kernel_rfl))
theorem star : "*" ++ "errors.errorString" = "*errors.errorString" := by decide
theorem rowErr (u : TypeId) (h : Tryz.prog.typeName? 3 u = some "*errors.errorString") : u = 156 :=
  typeName_ptr_named (nm := "errors.errorString") (by rw [star]; kernel_rfl) (by kernel_rfl) (by decide) u (by rw [star]; exact h)
theorem gEno : Tryz.prog.globalNamed "loop.example/g00192/impl.errNoLine" = some 0 := by kernel_rfl
theorem gSyn : Tryz.prog.globalNamed "strconv.ErrSyntax" = some 4 := by kernel_rfl
theorem gRng : Tryz.prog.globalNamed "strconv.ErrRange" = some 5 := by kernel_rfl
theorem cErr : Tryz.prog.cellsOf 158 = 1 := by kernel_rfl
theorem sentinel_of {W : World} {n : String} {g : Nat} {text : List UInt8} (hg : Tryz.prog.globalNamed n = some g) (hgt : (Tryz.prog.globals[g]?).map (·.type) = some 41)
    (h : laidMet Tryz.prog [(n, .iface "*errors.errorString" (.ptr (.agg [.lit (.string text)])))] W) : ∃ a : Addr, W.cell? ⟨g, 0, none⟩ = some (.iface 156 (.pointer (some a))) := by
  obtain ⟨a, s, hv, _⟩ := laid_sentinel h hg hgt Tryz.underlying41 rowErr Tryz.underlying156 Tryz.underlying158 rfl rfl Tryz.underlying9 cErr cStrT
  exact ⟨a, by have h0 := World.var?_cell hg hv 0; simpa using h0⟩
theorem libs_of {W : World} (h : laidMetH Tryz.prog Rows.fnExactParseRow.laid W) (hsh : W.ShapedOpen Tryz.prog) : ∃ EP, Libs W EP := by
  have ht := of_laid h
  rw [MakeChecks.laidMetH_plain _ _ _ (by kernel_rfl)] at h
  obtain ⟨EP, he⟩ := sentinel_of gEno (by kernel_rfl) (laid_one h "loop.example/g00192/impl.errNoLine" (d := Rows.laid_loop_example_g00192_impl_errNoLine) (by kernel_rfl))
  obtain ⟨a1, h1⟩ := sentinel_of gSyn (by kernel_rfl) (laid_one h "strconv.ErrSyntax" (d := Rows.laid_strconv_ErrSyntax) (by kernel_rfl))
  obtain ⟨a2, h2⟩ := sentinel_of gRng (by kernel_rfl) (laid_one h "strconv.ErrRange" (d := Rows.laid_strconv_ErrRange) (by kernel_rfl))
  obtain ⟨m, hm⟩ := cell_of_shapedOpen_int (P := Tryz.prog) (g := 6) (t := 3) (zero := #[.int .i64 0]) hsh (of_decide_eq_true (by kernel_rfl)) (by kernel_rfl) rfl (by kernel_rfl) (by kernel_rfl) Tryz.underlying3
  exact ⟨EP, ht, he, ⟨_, _, h1⟩, ⟨_, _, h2⟩, ⟨m, hm⟩⟩
/-- The row's form, with what is laid and the world's shape. -/
theorem returnsInHanded_laid_shaped {H : Type} {enc : TypeId × Value → H} {a : Assume} {C : Checked} {os : Os} {f : FuncId} {fn : Func} {s : ChangeSpec} {conds : List PathCond} {apart fresh handsOn again : Bool} {X : World → Array Value → Prop}
    (hX : ∀ (w w' : World) (args : Array Value), w.heap = w'.heap → X w args → X w' args)
    (own : ownKnob C.prog.godebug = none) (started : os.Started) (noInit : C.prog.inits.idxOf? f = none) (hfn : C.prog.funcs[f]? = some fn)
    (witness : ∃ (w : World) (tape : Tape) (i : Input), w.os = os ∧ (w.forCall tape i).Shaped C.prog ∧ i.vars = [] ∧ Input.okWide C.prog (w.forCall tape i) .any w.heap.size f i ∧
      ((s.pre enc C.prog fn conds apart (w.forCall tape i).memory i.args ∧ X (w.forCall tape i).memory i.args) ∧ sizedMet enc C.prog fn (OpenSpec.ofChange s) apart (w.forCall tape i).memory i.args) ∧ a.holds C.prog (lone (Frame.enter C.prog f i.args .normal) [] (w.forCall tape i)))
    (contract : ∀ (W : World) (base : Nat) (args : Array Value) (ds gs : List (DataW H)) (before : List MemPlace),
      (∀ (j : Nat) t v, fn.params[j]? = some t → args[j]? = some v → Value.okWide C.prog W .any base t v) →
      DataW.Whole enc C.prog fn.params.toList s.vars apart W args.toList ds gs before → X W args → W.ShapedOpen C.prog →
      Calls C.prog f args W fun e W' => ∃ v, e = .returned v ∧ s.post enc C.prog fn apart fresh handsOn again W args v W') :
    ReturnsInHanded a C os f .any (fun w args => (s.pre enc C.prog fn conds apart w args ∧ X w args) ∧ sizedMet enc C.prog fn (OpenSpec.ofChange s) apart w args) (s.post enc C.prog fn apart fresh handsOn again) := by
  refine returnsInHanded_of_calls own started noInit witness ?_
  intro w tape i _ hsh _ hok hpre hholds
  obtain ⟨_, _, _, fn', hfn', _, _, _, _, hval⟩ := hok
  have e : fn' = fn := Option.some.inj (hfn'.symm.trans hfn)
  subst e
  obtain ⟨⟨⟨ds, gs, before, hw, hc⟩, hx⟩, hz⟩ := hpre
  have hw' := DataW.Whole.of_heap (w' := w.forCall tape i) (by rfl) hw
  refine (contract (w.forCall tape i) w.heap.size i.args ds gs before hval hw' (hX _ _ _ (by rfl) hx) hsh).mono fun e W' ⟨v, he, hp⟩ => ?_
  subst he
  exact ChangeSpec.post_blind hp
/-- As many data as names. -/
theorem trodVars_lengthP {H : Type} {enc : TypeId × Value → H} {P : Program} {w : World} {sp : Nat → Bool} : ∀ {ns : List String} {gs : List (DataW H)} {ps : List MemPlace}, DataW.TrodVars enc P w sp ns gs ps → gs.length = ns.length
  | [], [], _, _ => rfl
  | [], _ :: _, _, h => h.elim
  | _ :: _, [], _, h => h.elim
  | _ :: _, _ :: _, _, ⟨_, _, _, _, _, _, _, _, _, _, hs, _⟩ => by
    have h9 := trodVars_lengthP hs
    simp [h9]
theorem trodVars_four {H : Type} {enc : TypeId × Value → H} {P : Program} {w : World} {sp : Nat → Bool} {n0 n1 n2 n3 : String} {gs : List (DataW H)} {ps : List MemPlace} (h : DataW.TrodVars enc P w sp [n0, n1, n2, n3] gs ps) : ∃ a b c d, gs = [a, b, c, d] := by
  have h9 := trodVars_lengthP h
  match gs, h9 with
  | [a, b, c, d], _ => exact ⟨a, b, c, d, rfl⟩
end Go.Proofs.YtjcocpdicogecaaGreatDoor
