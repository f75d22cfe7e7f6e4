/- The program's Above. -/
import Derived.Test.YtkolfddajcmnaaaAboveB
namespace Go.Proofs.Ytkolfddajcmnaaa
open Go.ChangeShapes Go.WideShapes Go.ChangeAt Go.RowKit Go.Shelf
set_option linter.unusedVariables false

/-- The first of a list that has a property. -/
theorem find_at {α : Type} (q : α → Bool) : ∀ (l : List α) (i : Nat) (x : α), (∀ j, j < i → ∀ y, l[j]? = some y → q y = false) → l[i]? = some x → q x = true → l.find? q = some x
  | [], i, x, _, hx, _ => by simp at hx
  | y :: l, 0, x, _, hx, hq => by
    simp at hx
    subst hx
    simp [hq]
  | y :: l, i + 1, x, h, hx, hq => by
    have hy := h 0 (by omega) y (by simp)
    rw [List.find?_cons, hy]
    exact find_at q l i x (fun j hj z hz => h (j + 1) (by omega) z (by simpa using hz)) (by simpa using hx) hq
theorem find_none {α : Type} (q : α → Bool) (l : List α) (h : ∀ (j : Nat) (y : α), l[j]? = some y → q y = false) : l.find? q = none := by
  rw [List.find?_eq_none]
  intro x hx
  obtain ⟨j, hj, rfl⟩ := List.getElem_of_mem hx
  rw [h j _ (List.getElem?_eq_getElem hj)]
  simp
theorem aboveOf_no {F : FnD} {b : Int} (h : ¬ (FnShape F ∧ 0 ≤ b ∧ b < F.blocks.length)) : aboveOf F b = -1 := if_neg h
theorem aboveOf_at {F : FnD} (hS : FnShape F) {b n : Nat} (hN : F.blocks.length = n) (hb : b < n) {k : Nat} (hk : k < n) (h : ∀ j, j < k → aboveS F b j = false) (hq : aboveS F b k = true) : aboveOf F (b : Int) = (k : Int) := by
  unfold aboveOf
  rw [if_pos ⟨hS, by omega, by omega⟩, hN]
  have : (List.range n).find? (aboveS F ((b : Int)).toNat) = some k := by
    have e : ((b : Int)).toNat = b := by simp
    rw [e]
    exact find_at _ _ k k (fun j hj y hy => by
      have hy2 := hy
      rw [List.getElem?_range (by omega)] at hy2
      cases hy2
      exact h j hj) (by simp [hk]) hq
  rw [this]
theorem aboveOf_none {F : FnD} (hS : FnShape F) {b n : Nat} (hN : F.blocks.length = n) (hb : b < n) (h : ∀ j, j < n → aboveS F b j = false) : aboveOf F (b : Int) = -1 := by
  unfold aboveOf
  rw [if_pos ⟨hS, by omega, by omega⟩, hN]
  have : (List.range n).find? (aboveS F ((b : Int)).toNat) = none := by
    have e : ((b : Int)).toNat = b := by simp
    rw [e]
    refine find_none _ _ (fun j y hy => ?_)
    have hjn : j < n := by
      have := (List.getElem?_eq_some_iff.1 hy).1
      simpa using this
    rw [List.getElem?_range hjn] at hy
    cases hy
    exact h j hjn
  rw [this]

theorem wpList_load_part {ops : Array Oper} {rest : List Oper} {o : Oper} {a : Act} {w : World} {Q : Exit → Act → World → Prop} (hg : o.guard = none) (x : Operand) (ho : o.op = .load 57 x) (B b : Nat) (hb : b < 16) (hx : a.eval x = .pointer (some ⟨B, b * 16, none⟩)) (T : Tab) (hT : TabAt w B T)
    (h : wpList Try.prog ops Q rest (a.put o.dst (setV (T b))) w) : wpList Try.prog ops Q (o :: rest) a w :=
  wpList_load_mid hg 57 x ho B (b * 16) hx (rowC (T b)) _ (hT.row hb) Try.underlying57 rfl (by rw [rowC_len]; exact info_set) h
theorem wpList_store_set {ops : Array Oper} {rest : List Oper} {o : Oper} {a : Act} {w : World} {Q : Exit → Act → World → Prop} (hg : o.guard = none) (x y : Operand) (ho : o.op = .store 57 x y) (B : Nat) (hx : a.eval x = .pointer (some ⟨B, 0, none⟩)) (f g : Nat → Bool) (hy : a.eval y = setV g) (hT : SetAt w B f)
    (h : wpList Try.prog ops Q rest (a.put o.dst undef) (w.setRow B (rowC g).toArray)) : wpList Try.prog ops Q (o :: rest) a w :=
  wpList_store_row hg 57 x y ho B (rowC f).toArray (rowC g).toArray _ hx hy hT (by rw [List.size_toArray, rowC_len]; exact info_set) (by simp [rowC_len]) (all_oneCell_toArray (rowC_one _)) h

theorem set_alloc (w : World) : SetAt (w.alloc (.cells #[.bool false, .bool false, .bool false, .bool false, .bool false, .bool false, .bool false, .bool false, .bool false, .bool false, .bool false, .bool false, .bool false, .bool false, .bool false, .bool false] 57)) w.heap.size (fun _ => false) := by
  rw [zero_set]
  exact World.alloc_heap_new _ _

set_option maxRecDepth 100000 in
set_option maxHeartbeats 4000000 in
theorem impl_above (v : Value) (F : FnD) (b : Int) (w : World) (hF : FnAt w v F) :
    Calls Try.prog 21 #[v, .int .i64 b] w fun e w' => e = .returned (.int .i64 (aboveOf F b)) ∧ Below w.heap.size w w' := by
  have HF : Hid (FnAt w v F) := hF
  obtain ⟨n, HN⟩ : ∃ n, Hid (F.blocks.length = n) := ⟨_, rfl⟩
  obtain ⟨vals, HV⟩ : ∃ x, Hid (F.values = x) := ⟨_, rfl⟩
  obtain ⟨ba, bcap, rfl⟩ := hF.out HN.out HV.out
  clear hF
  go_enter Try.func21, Try.ntmps21
  go_wp2_with fail
  refine (impl_shapeOk _ F _ (HF.out.later (by repeat (first | exact Below.refl _ _ | apply Below.drew | refine Below.alloc ?_ (by simp <;> omega) _ | refine Below.setCell ?_ (by simp <;> omega) _)))).mono ?_
  rintro e w1 ⟨s1, rfl, hs1, b1⟩
  have S1 : Hid (s1 = true ↔ FnShape F) := hs1
  have B1 : Hid (Below w.heap.size w w1) := Bel.after (by repeat (first | exact Below.refl _ _ | apply Below.drew | refine Below.alloc ?_ (by simp <;> omega) _ | refine Below.setCell ?_ (by simp <;> omega) _)) b1
  have c0 : w1.cell? ⟨w.heap.size, 0, none⟩ = some (.slice ba n bcap) := Bel.keeps b1 (by simp [go_sem])
  have c1 : w1.cell? ⟨w.heap.size, 1, none⟩ = some (.int .i64 vals) := Bel.keeps b1 (by simp [go_sem])
  clear b1 hs1
  cases s1 with
  | false =>
    have HE : Hid (aboveOf F b = -1) := aboveOf_no (fun h => by have := S1.out.2 h.1; cases this)
    go_wp2_with fail
    go_ret
    exact ⟨by rw [HE.out]; rfl, B1.out⟩
  | true =>
    have hyes : Hid (FnShape F) := S1.out.1 rfl
    have h16 : n ≤ 16 := by rw [← HN.out]; exact hyes.out.2.1
    go_wp2_with fail
    refine (blockIn_any ba n bcap vals b _).mono ?_
    rintro e w2 ⟨rfl, b2⟩
    have B2 : Hid (Below w.heap.size w w2) := Bel.after B1.out b2
    replace c0 := Bel.keeps b2 c0
    replace c1 := Bel.keeps b2 c1
    clear b2
    cases hvb : valIn (n : Int) b with
    | false =>
      have HE : Hid (aboveOf F b = -1) := aboveOf_no (fun h => by
        have h2 := h.2.2
        rw [HN.out] at h2
        rw [valIn_yes h.2.1 h2] at hvb
        cases hvb)
      go_wp2_with fail
      go_ret
      exact ⟨by rw [HE.out]; rfl, B2.out⟩
    | true =>
      obtain ⟨hb0, hb1⟩ := valIn_iff.1 hvb
      obtain ⟨bn, rfl⟩ : ∃ bn : Nat, b = (bn : Int) := ⟨b.toNat, by omega⟩
      clear hvb
      go_wp2_with fail
      refine (domsOf_any _ F _ (HF.out.later B2.out) hyes.out).mono ?_
      rintro e w3 ⟨rfl, b3⟩
      have B3 : Hid (Below w.heap.size w w3) := Bel.after B2.out b3
      replace c0 := Bel.keeps b3 c0
      replace c1 := Bel.keeps b3 c1
      clear b3
      go_wp2_with (first
        | (refine wpList_store_tab rfl _ _ rfl w3.heap.size rfl (fun _ _ => false) (fun b a => domB F a b) rfl (tab_alloc w3) ?_; obtain ⟨w4, hw4⟩ : ∃ w4, (w3.alloc (.cells Try.zeroCells59 59)).setRow w3.heap.size (tabC (fun b a => domB F a b)).toArray = w4 := ⟨_, rfl⟩; have b4 : Below w3.heap.size w3 w4 := (by rw [← hw4]; exact below_setRow (Bel.alloc _ _) (Nat.le_refl _) _); have T4 : Hid (TabAt w4 w3.heap.size (fun b a => domB F a b)) := (by rw [← hw4]; exact (tab_alloc w3).put); have B4 : Hid (Below w.heap.size w w4) := Bel.after B3.out b4; have d0 := Bel.keeps b4 c0; have d1 := Bel.keeps b4 c1; rw [hw4]; clear hw4 b4 c0 c1)
        | refine wpList_load_part rfl _ rfl w3.heap.size bn (by omega) rfl _ T4.out ?_)
      refine (without_any (fun a => domB F a bn) bn (by omega) _).mono ?_
      rintro e w5 ⟨rfl, b5⟩
      have T5 : Hid (TabAt w5 w3.heap.size (fun b a => domB F a b)) := T4.out.keep b5
      have B5 : Hid (Below w.heap.size w w5) := Bel.after B4.out b5
      replace d0 := Bel.keeps b5 d0
      replace d1 := Bel.keeps b5 d1
      clear b5
      obtain ⟨f, HFF⟩ : ∃ f : Nat → Bool, Hid ((fun a => domB F a bn && decide (a ≠ bn)) = f) := ⟨_, rfl⟩
      rw [HFF.out]
      go_wp2_with (refine wpList_store_set rfl _ _ rfl w5.heap.size rfl (fun _ => false) f rfl (set_alloc w5) ?_; obtain ⟨w6, hw6⟩ : ∃ w6, (w5.alloc (.cells #[.bool false, .bool false, .bool false, .bool false, .bool false, .bool false, .bool false, .bool false, .bool false, .bool false, .bool false, .bool false, .bool false, .bool false, .bool false, .bool false] 57)).setRow w5.heap.size (rowC f).toArray = w6 := ⟨_, rfl⟩; have b6 : Below w5.heap.size w5 w6 := (by rw [← hw6]; exact below_setRow (Bel.alloc _ _) (Nat.le_refl _) _); have T6 : Hid (TabAt w6 w3.heap.size (fun b a => domB F a b)) := T5.out.keep b6; have S6 : Hid (SetAt w6 w5.heap.size f) := (by rw [← hw6]; exact (set_alloc w5).put); have B6 : Hid (Below w.heap.size w w6) := Bel.after B5.out b6; have g0 := Bel.keeps b6 d0; have g1 := Bel.keeps b6 d1; rw [hw6]; clear hw6 b6 d0 d1)
      obtain ⟨TB, hTB⟩ : ∃ x, w3.heap.size = x := ⟨_, rfl⟩
      obtain ⟨OB, hOB⟩ : ∃ x, w5.heap.size = x := ⟨_, rfl⟩
      rw [hTB] at T6 ⊢
      rw [hOB] at S6 ⊢
      clear hTB hOB
      go_loopw [27] (fun i wr => ∃ k : Nat, k ≤ n ∧ i = .int .i64 k ∧ TabAt wr TB (fun b a => domB F a b) ∧ SetAt wr OB f ∧ Below w.heap.size w wr ∧ ∀ j, j < k → aboveS F bn j = false) (fun i _ => n - (intOf i).toNat)
      case atStart => exact ⟨0, Nat.zero_le _, rfl, T6.out, S6.out, B6.out, fun j hj => absurd hj (by omega)⟩
      case round =>
        obtain ⟨k, hk, rfl, hT, hS, hB, hA⟩ := hrel
        have HT : Hid (TabAt wr TB (fun b a => domB F a b)) := hT
        have HS : Hid (SetAt wr OB f) := hS
        have HB : Hid (Below w.heap.size w wr) := hB
        have HA : Hid (∀ j, j < k → aboveS F bn j = false) := hA
        clear hT hS hB hA
        by_cases hlt : (k : Int) < (n : Int)
        · have HP : Hid (aboveS F bn k = (f k && sameS (fun c => domB F c k) f)) := by
            rw [← above_same hyes.out, ← HFF.out]
            unfold aboveP
            congr 1
            rw [Bool.eq_iff_iff, sameS_iff]
            simp
          cases hf : f k with
          | true =>
            obtain ⟨s, hs⟩ : ∃ s, sameS (fun c => domB F c k) f = s := ⟨_, rfl⟩
            have hp2 : aboveS F bn k = s := by rw [HP.out, hf, hs]; simp
            have HP2 : Hid (aboveS F bn k = s) := hp2
            clear hp2
            go_wp2_with fail
            refine region_only 100 (fun W => SetAt W OB f ∧ TabAt W TB (fun b a => domB F a b)) (by kernel_rfl) ?_
            refine aboveYes TB OB (fun b a => domB F a b) f k (by omega) hf s hs _ ?_ ?_ ?_ ?_ wr.drew HS.out HT.out _ ?_ ?_
            · rfl
            · rfl
            · rfl
            · rfl
            · exact fun c a w h => h
            intro W' bW
            have B7 : Hid (Below w.heap.size w W') := Bel.after HB.out.drew bW
            have T7 : Hid (TabAt W' TB (fun b a => domB F a b)) := (show TabAt wr.drew TB _ from HT.out).keep bW
            have S7 : Hid (SetAt W' OB f) := (show SetAt wr.drew OB _ from HS.out).keep bW
            clear bW hs hf
            simp only [onlyNormal, Act.put, Exit.then, List.setIfInBounds_toArray, List.set_cons_succ, List.set_cons_zero]
            go_at_K
            cases s with
            | true =>
              have HE : Hid (aboveOf F (bn : Int) = (k : Int)) := aboveOf_at hyes.out HN.out (by omega) (by omega) HA.out HP2.out
              go_wp2_with fail
              go_ret
              exact ⟨by rw [HE.out]; rfl, B7.out⟩
            | false =>
              go_wp2_with fail
              go_roundw
              case rel =>
                refine ⟨k + 1, by omega, by go_num, T7.out, S7.out, B7.out, fun j hj => ?_⟩
                by_cases e : j = k
                · rw [e]; exact HP2.out
                · exact HA.out j (by omega)
              case measure => simp [intOf]; omega
          | false =>
            have hp2 : aboveS F bn k = false := by rw [HP.out, hf]; simp
            have HP2 : Hid (aboveS F bn k = false) := hp2
            clear hp2
            go_wp2_with fail
            refine region_only 100 (fun W => SetAt W OB f ∧ TabAt W TB (fun b a => domB F a b)) (by kernel_rfl) ?_
            refine aboveNo TB OB (fun b a => domB F a b) f k (by omega) hf _ ?_ ?_ ?_ ?_ wr.drew HS.out HT.out _ ?_ ?_
            · rfl
            · rfl
            · rfl
            · rfl
            · exact fun c a w h => h
            intro W' bW
            have B7 : Hid (Below w.heap.size w W') := Bel.after HB.out.drew bW
            have T7 : Hid (TabAt W' TB (fun b a => domB F a b)) := (show TabAt wr.drew TB _ from HT.out).keep bW
            have S7 : Hid (SetAt W' OB f) := (show SetAt wr.drew OB _ from HS.out).keep bW
            clear bW hf
            simp only [onlyNormal, Act.put, Exit.then, List.setIfInBounds_toArray, List.set_cons_succ, List.set_cons_zero]
            go_at_K
            go_wp2_with fail
            go_roundw
            case rel =>
              refine ⟨k + 1, by omega, by go_num, T7.out, S7.out, B7.out, fun j hj => ?_⟩
              by_cases e : j = k
              · rw [e]; exact HP2.out
              · exact HA.out j (by omega)
            case measure => simp [intOf]; omega
        · have hkn : k = n := by omega
          subst hkn
          have HE : Hid (aboveOf F (bn : Int) = -1) := aboveOf_none hyes.out HN.out (by omega) HA.out
          go_wp2_with fail
          go_ret
          exact ⟨by rw [HE.out]; rfl, HB.out⟩
end Go.Proofs.Ytkolfddajcmnaaa
