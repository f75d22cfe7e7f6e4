/- Doms, of the program and of the model. -/
import Derived.Test.YtlmkipmkanhcfaaImplDom
import Derived.Test.YtlmkipmkanhcfaaLDoms
namespace Go.Proofs.Ytlmkipmkanhcfaa
open Go.ChangeShapes Go.WideShapes Go.ChangeAt Go.RowKit Go.Shelf
set_option linter.unusedVariables false

/-- A list of lists in memory of the call's own. -/
def OwnLists (w : World) (lo : Nat) (v : Value) (D : List (List Int)) : Prop := ∃ g us, v = .slice (some ⟨g, 0, none⟩) D.length D.length ∧ OwnRows w lo g D.length us (fun i => D.getD i [])
def GivesLists (w : World) (D : List (List Int)) (e : Ending) (w' : World) : Prop := ∃ v, e = .returned v ∧ OwnLists w' w.heap.size v D ∧ Below w.heap.size w w'
theorem ownLists_new {w : World} {g lo : Nat} (hg : w.heap.size = g) (hl : lo ≤ g) : OwnLists (w.alloc (.cells #[] 29)) lo (.slice (some ⟨g, 0, none⟩) 0 0) [] := by
  subst hg
  exact ⟨w.heap.size, #[], rfl, World.alloc_heap_new w _, rfl, hl, fun i hi => absurd hi (by simp), fun i j hi => absurd hi (by simp)⟩
theorem ownLists_rows {w : World} {lo g n : Nat} {us : Array Value} {ls : Nat → List Int} (h : OwnRows w lo g n us ls) : OwnLists w lo (.slice (some ⟨g, 0, none⟩) n n) ((List.range n).map ls) := by
  refine ⟨g, us, by simp, ?_⟩
  rw [List.length_map, List.length_range]
  exact h.congr (fun i hi => by simp [List.getD, hi])

set_option maxRecDepth 100000 in
set_option maxHeartbeats 4000000 in
theorem spec_doms (v : Value) (F : FnD) (w : World) (hF : FnAt w v F) :
    Calls Try.prog 25 #[v] w fun e w' => GivesLists w (domsOf F) e w' := by
  have HF : Hid (FnAt w v F) := hF
  obtain ⟨n, HN⟩ : ∃ n, Hid (F.blocks.length = n) := ⟨_, rfl⟩
  obtain ⟨vals, HV⟩ : ∃ x, Hid (F.values = x) := ⟨_, rfl⟩
  obtain ⟨ba, bcap, rfl⟩ := hF.out HN.out HV.out
  clear hF
  go_enter Try.func25, Try.ntmps25
  go_wp2_with fail
  refine (spec_shapeOk _ F _ (HF.out.later (by repeat (first | exact Below.refl _ _ | apply Below.drew | refine Below.alloc ?_ (by simp <;> omega) _ | refine Below.setCell ?_ (by simp <;> omega) _)))).mono ?_
  rintro e w1 ⟨s1, rfl, hs1, b1⟩
  have S1 : Hid (s1 = true ↔ FnShape F) := hs1
  have B1 : Hid (Below w.heap.size w w1) := Bel.after (by repeat (first | exact Below.refl _ _ | apply Below.drew | refine Below.alloc ?_ (by simp <;> omega) _ | refine Below.setCell ?_ (by simp <;> omega) _)) b1
  have c0 : w1.cell? ⟨w.heap.size, 0, none⟩ = some (.slice ba n bcap) := Bel.keeps b1 (by simp [go_sem])
  have c1 : w1.cell? ⟨w.heap.size, 1, none⟩ = some (.int .i64 vals) := Bel.keeps b1 (by simp [go_sem])
  clear b1 hs1
  cases s1 with
  | false =>
    have HE : Hid (domsOf F = []) := domsOf_no (fun h => by have := S1.out.2 h; cases this)
    go_wp2_with fail
    go_ret
    rw [HE.out]
    exact ⟨_, rfl, ownLists_new rfl B1.out.size, Bel.after B1.out (by repeat (first | exact Below.refl _ _ | apply Below.drew | refine Below.alloc ?_ (by simp <;> omega) _ | refine Below.setCell ?_ (by simp <;> omega) _))⟩
  | true =>
    have hyes : Hid (FnShape F) := S1.out.1 rfl
    have HE : Hid (domsOf F = (List.range n).map (domsN F)) := by rw [← HN.out]; exact domsOf_yes hyes.out
    go_wp2_with fail
    refine (l4Doms_any _ F _ (HF.out.later B1.out) hyes.out).mono ?_
    rw [HN.out]
    rintro e w2 ⟨g, us, rfl, r2, b2⟩
    have R2 : Hid (OwnRows w2 w1.heap.size g n us (domsN F)) := r2
    have B2 : Hid (Below w.heap.size w w2) := Bel.after B1.out b2
    clear r2 b2
    go_wp2_with fail
    go_ret
    rw [HE.out]
    exact ⟨_, rfl, ownLists_rows (R2.out.lower B1.out.size), B2.out⟩

theorem wpList_load_rowOf {ops : Array Oper} {rest : List Oper} {o : Oper} {a : Act} {w : World} {Q : Exit → Act → World → Prop} (hg : o.guard = none) (x : Operand) (ho : o.op = .load 81 x) (B b : Nat) (hb : b < 16) (hx : a.eval x = .pointer (some ⟨B, b * 16, none⟩)) (T : Tab) (hT : TabAt w B T)
    (h : wpList Try.prog ops Q rest (a.put o.dst (setV (T b))) w) : wpList Try.prog ops Q (o :: rest) a w :=
  wpList_load_mid hg 81 x ho B (b * 16) hx (rowC (T b)) _ (hT.row hb) Try.underlying81 rfl (by rw [rowC_len]; exact info_set) h
theorem listUp_doms {F : FnD} (hS : FnShape F) (b : Nat) : listUp (fun a => domB F a b) 16 = domsN F b := by
  have h16 : F.blocks.length ≤ 16 := hS.2.1
  unfold listUp domsN domsUp
  congr 1
  have key : ∀ d, (List.range (F.blocks.length + d)).filter (fun a => domB F a b) = (List.range F.blocks.length).filter (fun a => domB F a b) := by
    intro d
    induction d with
    | zero => rfl
    | succ d ih =>
      have hf : domB F (F.blocks.length + d) b = false := by
        cases h : domB F (F.blocks.length + d) b with
        | false => rfl
        | true =>
          have := (dom_lt hS (domB_iff.1 h)).1
          omega
      rw [← Nat.add_assoc, List.range_succ, List.filter_append, ih]
      simp [hf]
  have := key (16 - F.blocks.length)
  rw [Nat.add_sub_cancel' h16] at this
  exact this

set_option maxRecDepth 100000 in
set_option maxHeartbeats 4000000 in
theorem impl_doms (v : Value) (F : FnD) (w : World) (hF : FnAt w v F) :
    Calls Try.prog 24 #[v] w fun e w' => GivesLists w (domsOf F) e w' := by
  have HF : Hid (FnAt w v F) := hF
  obtain ⟨n, HN⟩ : ∃ n, Hid (F.blocks.length = n) := ⟨_, rfl⟩
  obtain ⟨vals, HV⟩ : ∃ x, Hid (F.values = x) := ⟨_, rfl⟩
  obtain ⟨ba, bcap, rfl⟩ := hF.out HN.out HV.out
  clear hF
  go_enter Try.func24, Try.ntmps24
  go_wp2_with fail
  refine (impl_shapeOk _ F _ (HF.out.later (by repeat (first | exact Below.refl _ _ | apply Below.drew | refine Below.alloc ?_ (by simp <;> omega) _ | refine Below.setCell ?_ (by simp <;> omega) _)))).mono ?_
  rintro e w1 ⟨s1, rfl, hs1, b1⟩
  have S1 : Hid (s1 = true ↔ FnShape F) := hs1
  have B1 : Hid (Below w.heap.size w w1) := Bel.after (by repeat (first | exact Below.refl _ _ | apply Below.drew | refine Below.alloc ?_ (by simp <;> omega) _ | refine Below.setCell ?_ (by simp <;> omega) _)) b1
  have c0 : w1.cell? ⟨w.heap.size, 0, none⟩ = some (.slice ba n bcap) := Bel.keeps b1 (by simp [go_sem])
  have c1 : w1.cell? ⟨w.heap.size, 1, none⟩ = some (.int .i64 vals) := Bel.keeps b1 (by simp [go_sem])
  clear b1 hs1
  cases s1 with
  | false =>
    have HE : Hid (domsOf F = []) := domsOf_no (fun h => by have := S1.out.2 h; cases this)
    go_wp2_with fail
    go_ret
    rw [HE.out]
    exact ⟨_, rfl, ownLists_new rfl B1.out.size, Bel.after B1.out (by repeat (first | exact Below.refl _ _ | apply Below.drew | refine Below.alloc ?_ (by simp <;> omega) _ | refine Below.setCell ?_ (by simp <;> omega) _))⟩
  | true =>
    have hyes : Hid (FnShape F) := S1.out.1 rfl
    have h16 : n ≤ 16 := by rw [← HN.out]; exact hyes.out.2.1
    have HE : Hid (domsOf F = (List.range n).map (domsN F)) := by rw [← HN.out]; exact domsOf_yes hyes.out
    have hmr := make_rows n (by omega)
    go_wp2_with fail
    refine (domsOf_any _ F _ (HF.out.later B1.out) hyes.out).mono ?_
    rintro e w2 ⟨rfl, b2⟩
    have B2 : Hid (Below w.heap.size w w2) := Bel.after B1.out b2
    replace c0 := Bel.keeps b2 c0
    replace c1 := Bel.keeps b2 c1
    clear b2
    go_wp2_with (first
        | (refine wpList_store_tab rfl _ _ rfl w2.heap.size rfl (fun _ _ => false) (fun b a => domB F a b) rfl (tab_alloc w2) ?_; obtain ⟨w4, hw4⟩ : ∃ w4, (w2.alloc (.cells Try.zeroCells83 83)).setRow w2.heap.size (tabC (fun b a => domB F a b)).toArray = w4 := ⟨_, rfl⟩; have b4 : Below w2.heap.size w2 w4 := (by rw [← hw4]; exact below_setRow (Bel.alloc _ _) (Nat.le_refl _) _); have T4 : Hid (TabAt w4 w2.heap.size (fun b a => domB F a b)) := (by rw [← hw4]; exact (tab_alloc w2).put); have B4 : Hid (Below w.heap.size w w4) := Bel.after B2.out b4; have d0 := Bel.keeps b4 c0; have d1 := Bel.keeps b4 c1; rw [hw4]; clear hw4 b4 c0 c1)
        | fail)
    obtain ⟨w5, hw5⟩ : ∃ w5, w4.alloc (.cells (madeCells #[.slice none 0 0] n) 29) = w5 := ⟨_, rfl⟩
    have R5 : Hid (OwnRows w5 w4.heap.size w4.heap.size n (madeCells #[.slice none 0 0] n) (fun _ => [])) := by rw [← hw5]; exact ownRows_new rfl (Nat.le_refl _)
    have T5 : Hid (TabAt w5 w2.heap.size (fun b a => domB F a b)) := by rw [← hw5]; exact T4.out.keep (Bel.alloc _ _)
    have B5 : Hid (Below w4.heap.size w4 w5) := by rw [← hw5]; exact Bel.alloc _ _
    have hT4 : w2.heap.size < w4.heap.size := T4.out.lt
    rw [hw5]
    clear hw5 hmr d0 d1
    go_loopw [18] (fun i wr => ∃ (k : Nat) (us : Array Value), k ≤ n ∧ i = .int .i64 k ∧ OwnRows wr w4.heap.size w4.heap.size n us (fun i => if i < k then domsN F i else []) ∧ TabAt wr w2.heap.size (fun b a => domB F a b) ∧ Below w4.heap.size w4 wr) (fun i _ => n - (intOf i).toNat)
    case atStart => exact ⟨0, _, Nat.zero_le _, rfl, R5.out.congr (fun i _ => by simp), T5.out, B5.out⟩
    case round =>
      obtain ⟨k, us, hk, rfl, hR, hT, hB⟩ := hrel
      have HR : Hid (OwnRows wr w4.heap.size w4.heap.size n us (fun i => if i < k then domsN F i else [])) := hR
      have HT : Hid (TabAt wr w2.heap.size (fun b a => domB F a b)) := hT
      have HB : Hid (Below w4.heap.size w4 wr) := hB
      clear hR hT hB
      by_cases hlt : (k : Int) < (n : Int)
      · have hkn : k < n := by omega
        have HL : Hid (listUp (fun a => domB F a k) 16 = domsN F k) := listUp_doms hyes.out k
        go_wp2_with (refine wpList_load_rowOf rfl _ rfl w2.heap.size k (by omega) rfl _ HT.out ?_)
        refine (list_any (fun a => domB F a k) _).mono ?_
        rw [HL.out]
        rintro e w6 ⟨v6, rfl, o6, b6⟩
        have O6 : Hid (OwnInts w6 wr.heap.size v6 (domsN F k)) := o6
        have R6 : Hid (OwnRows w6 w4.heap.size w4.heap.size n us (fun i => if i < k then domsN F i else [])) := HR.out.keep b6
        have T6 : Hid (TabAt w6 w2.heap.size (fun b a => domB F a b)) := HT.out.keep b6
        have B6 : Hid (Below w4.heap.size w4 w6) := Bel.after HB.out b6
        have q1 := R6.out.cell hkn
        have q2 := R6.out.frozen k
        obtain ⟨ua, ucap, hu, _⟩ := o6.row
        obtain ⟨ul, HUL⟩ : ∃ ul, Hid ((domsN F k).length = ul) := ⟨_, rfl⟩
        rw [HUL.out] at hu
        subst hu
        have HP : Hid (OwnRows (w6.setCell ⟨w4.heap.size, k, none⟩ (.slice ua ul ucap)) w4.heap.size w4.heap.size n (us.setIfInBounds k (.slice ua ul ucap)) (fun i => if i = k then domsN F k else if i < k then domsN F i else [])) :=
          R6.out.put hkn (O6.out.low HB.out.size) (fun i hi _ b hb hb2 => by
            have h1 := (World.ownsRow.lt (HR.out.row i hi) b hb).2
            have h2 := (World.ownsRow.lt O6.out b hb2).1
            omega)
        have HT7 : Hid (TabAt (w6.setCell ⟨w4.heap.size, k, none⟩ (.slice ua ul ucap)) w2.heap.size (fun b a => domB F a b)) := (Below.heap_setCell _ _ _ _ (by show w2.heap.size ≠ w4.heap.size; omega)).trans T6.out
        clear o6 b6
        go_wp2_with fail
        go_roundw
        case rel =>
          refine ⟨k + 1, _, by omega, by go_num, HP.out.congr (fun i _ => ?_), HT7.out, B6.out.setCell (p := ⟨w4.heap.size, k, none⟩) (Nat.le_refl _) _⟩
          by_cases e : i = k
          · subst e
            simp
          · have e2 : i < k + 1 ↔ i < k := by omega
            simp [e, e2]
        case measure => simp [intOf]; omega
      · have hkn : k = n := by omega
        subst hkn
        go_wp2_with fail
        go_ret
        rw [HE.out]
        exact ⟨_, rfl, ownLists_rows ((HR.out.congr (fun i hi => by simp [hi])).lower B4.out.size), Bel.after B4.out HB.out⟩
end Go.Proofs.Ytlmkipmkanhcfaa
