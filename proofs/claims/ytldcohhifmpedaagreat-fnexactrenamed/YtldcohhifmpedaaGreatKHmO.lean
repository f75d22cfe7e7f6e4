/- Homes that are right. A program renamed to its homes, as mathematics. The pairs are gone through: do two that clash have one home? -/
import Derived.Test.YtldcohhifmpedaaGreatKClM
import Derived.Test.YtldcohhifmpedaaGreatKHm
import Derived.Test.YtldcohhifmpedaaGreatClMapK
import Derived.Maps.RangeWalk
namespace Go.Proofs.YtldcohhifmpedaaGreat
open Go.ChangeShapes Go.WideShapes Go.ChangeAt Go.RowKit Go.Shelf
set_option linter.unusedVariables false

def Apart (S : Int → Int → Prop) (l : List Int) : Prop := ∀ a b : Nat, S a b → l.getD a 0 ≠ l.getD b 0
def HomesOkP (F : FnD) (l : List Int) : Prop := FnPlain F ∧ (l.length : Int) = F.values ∧ HomesIn l ∧ Apart (Clsh F) l
open Classical in
noncomputable def homesOkOf (F : FnD) (l : List Int) : Bool := decide (HomesOkP F l)
theorem homesOkOf_iff {F : FnD} {l : List Int} : homesOkOf F l = true ↔ HomesOkP F l := by unfold homesOkOf; simp
theorem homesOkOf_eq {F : FnD} {l : List Int} {r : Bool} (h : r = true ↔ HomesOkP F l) : homesOkOf F l = r := by
  cases r
  · cases h2 : homesOkOf F l with
    | false => rfl
    | true => have := h.2 (homesOkOf_iff.1 h2); cases this
  · exact homesOkOf_iff.2 (h.1 rfl)

end Go.Proofs.YtldcohhifmpedaaGreat

namespace Go.Proofs.YtldcohhifmpedaaGreat
open Go.ChangeShapes Go.WideShapes Go.ChangeAt Go.RowKit Go.Shelf
set_option linter.unusedVariables false

def homeAt (l : List Int) (v : Int) : Int := l.getD v.toNat 0
def renX (l : List Int) (x : InsD) : InsD := ⟨x.op, if 0 ≤ insDefV x.op x.d then homeAt l x.d else x.d, if 0 < (usesV x.op x.a x.b).length then homeAt l x.a else x.a, if 1 < (usesV x.op x.a x.b).length then homeAt l x.b else x.b, x.n⟩
def renT (l : List Int) (t : TermD) : TermD := ⟨t.k, if 0 < (endsV t.k t.a).length then homeAt l t.a else t.a, t.t, t.e⟩
def selfC (x : InsD) : Bool := decide (x.op = 25) && decide (x.d = x.a)
def renL (l : List Int) (xs : List InsD) : List InsD := (xs.map (renX l)).filter (fun y => !selfC y)
def renB (l : List Int) (b : BlockD) : BlockD := ⟨[], renL l b.list, renT l b.term⟩
def renF (l : List Int) (F : FnD) : FnD := ⟨F.blocks.map (renB l), 40⟩
theorem renL_nil (l : List Int) (xs : List InsD) : renL l (xs.take 0) = [] := by simp [renL]
theorem renL_stay {l : List Int} {xs : List InsD} {k : Nat} {y : InsD} (hy : xs[k]? = some y) (hs : selfC (renX l y) = true) : renL l (xs.take (k + 1)) = renL l (xs.take k) := by
  unfold renL
  rw [List.take_add_one, hy]
  simp [hs]
theorem renL_more {l : List Int} {xs : List InsD} {k : Nat} {y : InsD} (hy : xs[k]? = some y) (hs : selfC (renX l y) = false) : renL l (xs.take (k + 1)) = renL l (xs.take k) ++ [renX l y] := by
  unfold renL
  rw [List.take_add_one, hy]
  simp [hs]
theorem renL_len (l : List Int) (xs : List InsD) : (renL l xs).length ≤ xs.length := by
  unfold renL
  exact Nat.le_trans (List.length_filter_le _ _) (by simp)
theorem renB_next {l : List Int} {bs : List BlockD} {k : Nat} {x : BlockD} (hx : bs[k]? = some x) : (bs.take (k + 1)).map (renB l) = (bs.take k).map (renB l) ++ [⟨[], renL l x.list, renT l x.term⟩] := by
  rw [List.take_add_one, hx]
  simp [renB]
open Classical in
noncomputable def renamedOf (F : FnD) (l : List Int) : FnD := if HomesOkP F l then renF l F else ⟨[], 0⟩
theorem renamedOf_yes {F : FnD} {l : List Int} (h : HomesOkP F l) : renamedOf F l = renF l F := by unfold renamedOf; rw [if_pos h]
theorem renamedOf_no {F : FnD} {l : List Int} (h : ¬ HomesOkP F l) : renamedOf F l = ⟨[], 0⟩ := by unfold renamedOf; rw [if_neg h]
theorem homeAt_get {l : List Int} {V : Nat} (hl : l.length = V) {v : Int} (h0 : 0 ≤ v) (h1 : v < V) : ∃ k : Nat, v = (k : Int) ∧ k < V ∧ l[k]? = some (homeAt l v) := by
  refine ⟨v.toNat, by omega, by omega, ?_⟩
  unfold homeAt
  rw [List.getD_eq_getElem?_getD, List.getElem?_eq_getElem (by omega)]
  simp
end Go.Proofs.YtldcohhifmpedaaGreat

namespace Go.Proofs.YtldcohhifmpedaaGreat
open Go.ChangeShapes Go.WideShapes Go.ChangeAt Go.RowKit Go.Shelf
open Maps
set_option linter.unusedVariables false
set_option maxRecDepth 100000

theorem wpList_next_pair {P : Program} (w : World) {ops : Array Oper} {rest : List Oper} {o : Oper} {a : Act} {Q : Exit → Act → World → Prop} (hP : P = Tryz.prog) (hg : o.guard = none) (it : Operand) (hop : o.op = Op.next it false) (b r n : Nat) (D : DataW Unit) (S : Int → Int → Prop) (hD : PairsD D S) (left : Lit → Bool) (cnt : Nat)
    (hit : a.eval it = .pointer (some ⟨r, 0, none⟩)) (h : w.ranges P 150 (unitElem (H := Unit)) b r n D left cnt)
    (hDone : cnt = 0 → (∀ kl, left kl = false) → wpList P ops Q rest (a.put o.dst (.tuple #[.bool false])) w)
    (hMore : ∀ (x y : Int) (w' : World) (cnt' : Nat), Wf x → Wf y → x ≤ y → S x y → left (pk x y) = true → w'.ranges P 150 (unitElem (H := Unit)) b r n D (fun z => left z && !z.sameKey (pk x y)) cnt' → cnt' < cnt →
      w.grownBy w' (some r) → w'.heap.size = w.heap.size → (Instr.entry (.pointer (some ⟨r, 0, none⟩))).run P w' = .ok (.tuple #[.agg #[.int .i64 x, .int .i64 y], .agg #[]]) w' → wpList P ops Q rest (a.put o.dst (.tuple #[.bool true, .agg #[.int .i64 x, .int .i64 y], .agg #[]])) w') :
    wpList P ops Q (o :: rest) a w := by
  subst hP
  refine wpList_next_ranges w hg it hop 150 pair_keyed (unitElem (H := Unit)) (id : Value → Value) (fun _ : Unit => .agg #[]) (fun key kl hkey => ⟨key, rfl⟩) (fun v y hv => ⟨(), (unitElem_inv hv).1⟩)
    b r n D left cnt hit h hDone (fun x c kl y w' cnt' hkey hlk hv hat hrg hlt hgr hsz hen => ?_)
  obtain ⟨p, q, hp, hq, hpq, rfl⟩ := hD.2 kl (Maps.has_true_of_atKey hat)
  have ex := pair_keyed.inj hkey (pk_key hp hq)
  have hS : S p q := by
    have h9 := hD.1 p q hp hq
    rw [show min p q = p by omega, show max p q = q by omega] at h9
    exact h9.1 (Maps.has_true_of_atKey hat)
  unfold pairV id at ex
  subst ex
  exact hMore p q w' cnt' hp hq hpq hS hlk hrg hlt hgr hsz hen

theorem ranges_drew {w : World} {P : Program} {k : TypeId} {H : Type} {R : Value → Option (DataW H × List MemPlace)} {b r n : Nat} {D : DataW H} {left : Lit → Bool} {cnt : Nat} (h : w.ranges P k R b r n D left cnt) : w.drew.ranges P k R b r n D left cnt := h

set_option maxHeartbeats 4000000 in
theorem apart_any (mb N V : Nat) (S : Int → Int → Prop) (a : Option Addr) (cap : Nat) (l : List Int) (w : World) (hm : MapP w mb N S) (hS : ∀ x y, S x y ↔ S y x) (hin : ∀ x y, S x y → (0 ≤ x ∧ x < V) ∧ (0 ≤ y ∧ y < V)) (hV : V ≤ 80) (hl : IntsAt w (.slice a V cap) l) :
    Calls Tryz.prog 71 #[.map (some mb), .slice a V cap] w fun e w' => GivesIff w (Apart S l) e w' := by
  obtain ⟨D, hown, hD⟩ := hm
  have HD : Hid (PairsD D S) := hD
  have HL : Hid (IntsAt w (.slice a V cap) l) := hl
  have HLN : Hid (l.length = V) := intsAt_len hl
  have HIN : Hid (∀ x y, S x y → (0 ≤ x ∧ x < V) ∧ (0 ≤ y ∧ y < V)) := hin
  have HSS : Hid (∀ x y, S x y ↔ S y x) := hS
  clear hD hl hin hS
  go_enter Tryz.func71, Tryz.ntmps71
  go_wp2_with (at_range; refine wpList_range_own _ rfl _ 81 rfl 150 192 pair_keyed Tryz.underlying81 _ mb N _ rfl hown ?_; intro w0 hrg0 hg0 hs0)
  go_frame
  go_loopw [9] (fun _ wr => ∃ (left : Lit → Bool) (cnt : Nat), wr.ranges Tryz.prog 150 (unitElem (H := Unit)) mb w.heap.size N D left cnt ∧ Below w.heap.size w wr ∧ ∀ x y : Nat, S x y → left (pk (min x y) (max x y)) = false → l.getD x 0 ≠ l.getD y 0)
    (fun _ wr => wr.rangeLeft mb w.heap.size)
  case atStart => exact ⟨_, _, hrg0, (Below.refl _ w).grown hg0 (Nat.le_refl _) (fun j e => by cases e), fun x y hxy hl0 => by
    have h8 := HIN.out _ _ hxy
    rw [(HD.out.1 x y (wf_of (by omega) (by omega)) (wf_of (by omega) (by omega))).2 hxy] at hl0
    cases hl0⟩
  case round =>
    obtain ⟨left, cnt, hrg, hB, hno⟩ := hrel
    have HB : Hid (Below w.heap.size w wr) := hB
    have HNO : Hid (∀ x y : Nat, S x y → left (pk (min x y) (max x y)) = false → l.getD x 0 ≠ l.getD y 0) := hno
    have HRG : Hid (wr.ranges Tryz.prog 150 (unitElem (H := Unit)) mb w.heap.size N D left cnt) := hrg
    clear hB hno hown hrg0 hg0 hs0
    go_wp2_with (at_next; refine wpList_next_pair _ rfl rfl _ rfl mb w.heap.size N _ S HD.out _ _ rfl hrg ?_ ?_)
    · intro _ hl0
      have HL0 : Hid (∀ kl, left kl = false) := hl0
      clear hl0 hrg
      go_wp2
      go_ret
      exact ⟨true, rfl, ⟨fun _ x y hxy => HNO.out x y hxy (HL0.out _), fun _ => rfl⟩, HB.out⟩
    · intro x y w1 cnt1 hwx hwy hxy hsxy hlk hrg1 hlt hg1 hs1 hen
      obtain ⟨⟨hx0, hxV⟩, hy0, hyV⟩ := HIN.out _ _ hsxy
      obtain ⟨x, rfl⟩ : ∃ z : Nat, x = (z : Int) := ⟨x.toNat, by omega⟩
      obtain ⟨y, rfl⟩ : ∃ z : Nat, y = (z : Int) := ⟨y.toNat, by omega⟩
      have HSX : Hid (S x y) := hsxy
      have HG1 : Hid (Below w.heap.size w w1) := HB.out.grown hg1 HB.out.size (fun j e => by cases e; exact Nat.le_refl _)
      have HRG1 : Hid (w1.ranges Tryz.prog 150 (unitElem (H := Unit)) mb w.heap.size N D (fun z => left z && !z.sameKey (pk x y)) cnt1) := hrg1
      have HWF : Hid (Wf x ∧ Wf y) := ⟨hwx, hwy⟩
      have HXY : Hid ((x : Int) ≤ y) := hxy
      have hsz1 := HG1.out.size
      obtain ⟨hx, HX⟩ : ∃ z, Hid (l[x]? = some z) := ⟨l[x]'(by have := HLN.out; omega), List.getElem?_eq_getElem _⟩
      obtain ⟨hy, HY⟩ : ∃ z, Hid (l[y]? = some z) := ⟨l[y]'(by have := HLN.out; omega), List.getElem?_eq_getElem _⟩
      obtain ⟨sb, soff, rfl, c1⟩ := intsAt_cell HL.out HX.out
      obtain ⟨sb', soff', e9, c2⟩ := intsAt_cell HL.out HY.out
      simp at e9
      obtain ⟨rfl, rfl⟩ := e9
      replace c1 := Bel.keeps HG1.out c1
      replace c2 := Bel.keeps HG1.out c2
      have HGX : Hid (l.getD x 0 = hx) := by show l.getD x 0 = hx; rw [List.getD_eq_getElem?_getD, HX.out]; rfl
      have HGY : Hid (l.getD y 0 = hy) := by show l.getD y 0 = hy; rw [List.getD_eq_getElem?_getD, HY.out]; rfl
      have hsb : sb < w1.heap.size := World.block_lt_of_cell? w1 _ c1
      have hxV' : (x : Int) < (V : Int) := hxV
      have hyV' : (y : Int) < (V : Int) := hyV
      clear hlk hrg1 hg1 hs1 hrg hwx hwy hxy hsxy
      by_cases hv : hx = hy
      · subst hv
        have hee : (hx == hx) = true := by simp
        go_wp2
        go_region_held3 (fun w' => w'.cell? ⟨w1.heap.size, 0, none⟩ = some (.int .i64 x) ∧ w'.cell? ⟨w1.heap.size, 1, none⟩ = some (.int .i64 y) ∧ w'.cell? ⟨sb, soff + x, none⟩ = some (.int .i64 hx) ∧ w'.cell? ⟨sb, soff + y, none⟩ = some (.int .i64 hx)) (go_keep) (fail)
        simp only [Exit.then]
        go_at_K
        go_wp2
        go_ret
        exact ⟨false, rfl, ⟨fun h => (by cases h), fun h => absurd (HGX.out.trans HGY.out.symm) (h x y HSX.out)⟩, (HG1.out.alloc hsz1 _).drew⟩
      · have hee : (hx == hy) = false := by simpa using hv
        have HV : Hid (¬ hx = hy) := hv
        clear hv
        go_wp2
        go_region_held3 (fun w' => w'.cell? ⟨w1.heap.size, 0, none⟩ = some (.int .i64 x) ∧ w'.cell? ⟨w1.heap.size, 1, none⟩ = some (.int .i64 y) ∧ w'.cell? ⟨sb, soff + x, none⟩ = some (.int .i64 hx) ∧ w'.cell? ⟨sb, soff + y, none⟩ = some (.int .i64 hy)) (go_keep) (fail)
        simp only [Exit.then]
        go_at_K
        go_wp2
        go_roundw
        case rel =>
          refine ⟨_, cnt1, ranges_drew (HRG1.out.alloc _), (HG1.out.alloc hsz1 _).drew, fun p q hpq hl => ?_⟩
          by_cases e : pk (min (p : Int) q) (max (p : Int) q) = pk x y
          · have h8 := HIN.out _ _ hpq
            have h7 := pk_inj (wf_min (wf_of (by omega) (by omega)) (wf_of (by omega) (by omega))) (wf_max (wf_of (by omega) (by omega)) (wf_of (by omega) (by omega))) HWF.out.1 HWF.out.2 e
            by_cases h6 : p = x
            · have h5 : q = y := by omega
              rw [h6, h5, HGX.out, HGY.out]
              exact HV.out
            · have h5 : q = x ∧ p = y := by omega
              rw [h5.1, h5.2, HGX.out, HGY.out]
              exact fun h => HV.out h.symm
          · rw [Maps.sameKey_ne e] at hl
            simp at hl
            exact HNO.out p q hpq hl
        case measure => rw [(ranges_drew (HRG1.out.alloc (.cells #[.int .i64 (x : Int), .int .i64 (y : Int)] 150))).left_eq, HRG.out.left_eq]; exact hlt
end Go.Proofs.YtldcohhifmpedaaGreat
