/- Preds of the model and of the program, whole. -/
import Derived.Test.YtggcpefhaijeiaaPreds
namespace Go.Proofs.Ytggcpefhaijeiaa
open Go.ChangeShapes Go.WideShapes Go.ChangeAt Go.RowKit Go.Shelf
set_option linter.unusedVariables false

set_option maxHeartbeats 1000000 in
theorem spec_preds (v : Value) (F : FnD) (b : Int) (w : World) (hF : FnAt w v F) :
    Calls Try.prog 17 #[v, .int .i64 b] w fun e w' => GivesOwn w (predsOf F b) e w' := by
  have HF : Hid (FnAt w v F) := hF
  obtain ⟨n, HN⟩ : ∃ n, Hid (F.blocks.length = n) := ⟨_, rfl⟩
  obtain ⟨vals, HV⟩ : ∃ x, Hid (F.values = x) := ⟨_, rfl⟩
  obtain ⟨ba, bcap, rfl⟩ := hF.out HN.out HV.out
  clear hF
  go_enter Try.func17, Try.ntmps17
  go_wp2_with fail
  refine (l3Right_any _ F b _ (HF.out.later (by repeat (first | exact Below.refl _ _ | apply Below.drew | refine Below.alloc ?_ (by simp <;> omega) _ | refine Below.setCell ?_ (by simp <;> omega) _)))).mono ?_
  rintro e w1 ⟨s1, rfl, hs1, b1⟩
  have c0 : w1.cell? ⟨w.heap.size, 0, none⟩ = some (.slice ba n bcap) := Bel.keeps b1 (by simp [go_sem])
  have c1 : w1.cell? ⟨w.heap.size, 1, none⟩ = some (.int .i64 vals) := Bel.keeps b1 (by simp [go_sem])
  have hB1 : Below w.heap.size w w1 := Bel.after (by repeat (first | exact Below.refl _ _ | apply Below.drew | refine Below.alloc ?_ (by simp <;> omega) _ | refine Below.setCell ?_ (by simp <;> omega) _)) b1
  have S1 : Hid (s1 = true ↔ RightAt F b) := hs1
  clear b1 hs1
  cases s1 with
  | false =>
    have HE : Hid (predsOf F b = []) := predsOf_no (fun h => by have := S1.out.2 h; cases this)
    go_wp2_with fail
    go_ret
    rw [HE.out]
    exact ⟨_, rfl, ownInts_nil rfl hB1.size, Bel.after hB1 (by repeat (first | exact Below.refl _ _ | apply Below.drew | refine Below.alloc ?_ (by simp <;> omega) _ | refine Below.setCell ?_ (by simp <;> omega) _))⟩
  | true =>
    obtain ⟨h1, h2, h3⟩ := S1.out.1 rfl
    have HE : Hid (predsOf F b = predsN F b) := predsOf_yes h1 h2 h3
    have h16 : F.blocks.length ≤ 16 := h1.2.1
    have H16 : Hid (F.blocks.length ≤ 16) := h16
    clear S1 h1 h2 h3 h16
    go_wp2_with fail
    refine (l3Preds_any _ F b _ (HF.out.later hB1) H16.out).mono ?_
    rintro e w2 ⟨v2, rfl, o2, b2⟩
    go_wp2_with fail
    go_ret
    rw [HE.out]
    exact ⟨_, rfl, o2.low hB1.size, Bel.after hB1 b2⟩

set_option maxRecDepth 100000 in
set_option maxHeartbeats 4000000 in
theorem impl_preds (v : Value) (F : FnD) (b : Int) (w : World) (hF : FnAt w v F) :
    Calls Try.prog 15 #[v, .int .i64 b] w fun e w' => GivesOwn w (predsOf F b) e w' := by
  have HF : Hid (FnAt w v F) := hF
  obtain ⟨n, HN⟩ : ∃ n, Hid (F.blocks.length = n) := ⟨_, rfl⟩
  obtain ⟨vals, HV⟩ : ∃ x, Hid (F.values = x) := ⟨_, rfl⟩
  obtain ⟨ba, bcap, rfl⟩ := hF.out HN.out HV.out
  clear hF
  obtain ⟨i0, hi, hz0, hz1, hz2⟩ := info_parts info_int
  have hmx : 100 ≤ maxLen := by decide
  go_enter Try.func15, Try.ntmps15
  go_wp2_with fail
  refine (impl_shapeOk _ F _ (HF.out.later (by repeat (first | exact Below.refl _ _ | apply Below.drew | refine Below.alloc ?_ (by simp <;> omega) _ | refine Below.setCell ?_ (by simp <;> omega) _)))).mono ?_
  rintro e w1 ⟨s1, rfl, hs1, b1⟩
  have S1 : Hid (s1 = true ↔ FnShape F) := hs1
  have HB1 : Hid (Below w.heap.size w w1) := Bel.after (by repeat (first | exact Below.refl _ _ | apply Below.drew | refine Below.alloc ?_ (by simp <;> omega) _ | refine Below.setCell ?_ (by simp <;> omega) _)) b1
  have c0 : w1.cell? ⟨w.heap.size, 0, none⟩ = some (.slice ba n bcap) := Bel.keeps b1 (by simp [go_sem])
  have c1 : w1.cell? ⟨w.heap.size, 1, none⟩ = some (.int .i64 vals) := Bel.keeps b1 (by simp [go_sem])
  have HX1 : Hid (w1.heap[w.heap.size]? = some (.cells #[.slice ba n bcap, .int .i64 vals] 26 (0, 0))) := by
    refine (b1.block _ (by simp <;> omega)).trans ?_
    rw [Below.heap_alloc _ _ _ (by simp)]
    exact World.alloc_heap_new w _
  have O1 : Hid (OwnInts w1 w.heap.size (.slice (some ⟨w.heap.size + 1, 0, none⟩) 0 0) []) := OwnInts.keep (ownInts_nil (by simp) (by omega)) b1
  clear b1 hs1
  cases s1 with
  | false =>
    have HE : Hid (predsOf F b = []) := predsOf_no (fun h => by have := S1.out.2 h.1; cases this)
    go_wp2_with fail
    go_ret
    rw [HE.out]
    exact ⟨_, rfl, O1.out, HB1.out⟩
  | true =>
    have hyes : Hid (FnShape F) := S1.out.1 rfl
    have h16 : n ≤ 16 := by have := hyes.out.2.1; rw [HN.out] at this; exact this
    go_wp2_with fail
    refine (blockIn_any ba n bcap vals b _).mono ?_
    rintro e w2 ⟨rfl, b2⟩
    have HB2 : Hid (Below w.heap.size w w2) := Bel.after HB1.out b2
    have HX2 : Hid (w2.heap[w.heap.size]? = some (.cells #[.slice ba n bcap, .int .i64 vals] 26 (0, 0))) := (b2.block _ (Array.getElem?_eq_some_iff.1 HX1.out).1).trans HX1.out
    have O2 : Hid (OwnInts w2 w.heap.size (.slice (some ⟨w.heap.size + 1, 0, none⟩) 0 0) []) := O1.out.keep b2
    replace c0 := Bel.keeps b2 c0
    replace c1 := Bel.keeps b2 c1
    clear b2
    cases hv : valIn (n : Int) b with
    | false =>
      have hn2 : ¬ (0 ≤ b ∧ b < (n : Int)) := fun h => by rw [valIn_yes h.1 h.2] at hv; cases hv
      have HE : Hid (predsOf F b = []) := predsOf_no (fun h => hn2 ⟨h.2.1, by have := h.2.2; rw [HN.out] at this; exact this⟩)
      clear hn2
      go_wp2_with fail
      go_ret
      rw [HE.out]
      exact ⟨_, rfl, O2.out, HB2.out⟩
    | true =>
      obtain ⟨hb0, hb1⟩ := valIn_iff.1 hv
      have HE : Hid (predsOf F b = predsN F b) := predsOf_yes hyes.out hb0 (by rw [HN.out]; exact hb1)
      clear hv
      go_wp2_with fail
      go_loopw [5, 21] (fun s i wr => ∃ k : Nat, k ≤ n ∧ i = .int .i64 k ∧ OwnInts wr w.heap.size s (predsUp F b k) ∧ Below w.heap.size w wr ∧ wr.heap[w.heap.size]? = some (.cells #[.slice ba n bcap, .int .i64 vals] 26 (0, 0))) (fun _ i _ => n - (intOf i).toNat)
      case atStart => exact ⟨0, Nat.zero_le _, rfl, O2.out, HB2.out, HX2.out⟩
      case round =>
        obtain ⟨k, hk, rfl, ho, hB, hbx⟩ := hrel
        have c0 : wr.cell? ⟨w.heap.size, 0, none⟩ = some (.slice ba n bcap) := by simp [World.cell?, hbx]
        have c1 : wr.cell? ⟨w.heap.size, 1, none⟩ = some (.int .i64 vals) := by simp [World.cell?, hbx]
        have HO : Hid (OwnInts wr w.heap.size u5 (predsUp F b k)) := ho
        have HB : Hid (Below w.heap.size w wr) := hB
        have HX : Hid (wr.heap[w.heap.size]? = some (.cells #[.slice ba n bcap, .int .i64 vals] 26 (0, 0))) := hbx
        have hpl := predsUp_len F b k
        clear ho hB hbx
        by_cases hlt2 : (k : Int) < (n : Int)
        · obtain ⟨bb, off, x, rfl, hx, t0, t1, t2, t3⟩ := (HF.out.later HB.out).end (j := k) (by omega)
          have HS : Hid (succsN F k = succsT x.term) := succsN_at hx
          obtain ⟨xp, xl, xk, xa, xt, xe⟩ := x
          dsimp only at t0 t1 t2 t3
          clear hx
          go_wp2_with fail
          refine (goesTo_any xk xa xt xe b _).mono ?_
          rintro e w3 ⟨rfl, b3⟩
          have HO1 : Hid (OwnInts w3 w.heap.size u5 (predsUp F b k)) := HO.out.keep b3
          have HB3 : Hid (Below w.heap.size w w3) := Bel.after HB.out b3
          have HX3 : Hid (w3.heap[w.heap.size]? = some (.cells #[.slice (some ⟨bb, off, none⟩) n bcap, .int .i64 vals] 26 (0, 0))) := (b3.block _ (Array.getElem?_eq_some_iff.1 HX.out).1).trans HX.out
          clear b3 c0 c1 t0 t1 t2 t3
          have hse : succsV xk xt xe = succsN F k := HS.out.symm
          rw [hse]
          by_cases hin : b ∈ succsN F k
          · rw [decide_eq_true hin]
            go_wp2_with (at_builtin; refine wpList_append_own _ rfl _ _ 29 rfl w.heap.size 3 i0 (.int .i64 0) 1 8 Try.underlying29 hi hz0 hz1 hz2 rfl (by decide) _ _ _ rfl (World.ownsRow.alloc HO1.out _) ⟨w3.heap.size, 0, none⟩ 1 1 [.int .i64 (k : Int)] rfl rfl (cell_one_new _ _ _) (by simp [Value.oneCell']) (by omega) (by omega) (by have := HB3.out.size; simp; omega) ?_; intro v' wa hown' hgrow _; have HO' : Hid (OwnInts wa w.heap.size v' (predsUp F b k ++ [(k : Int)])) := OwnInts.next hown'; have HG : Hid (World.grownBy _ _ _) := hgrow; clear hown' hgrow)
            go_roundw
            case rel => exact ⟨k + 1, by omega, by go_num, by rw [predsUp_yes hin]; exact HO'.out, HB3.out.trans (HO1.out.grown HB3.out.size HG.out), (HG.out.block _ (by have := (Array.getElem?_eq_some_iff.1 HX3.out).1; simp; omega) (HO1.out.not_box HX3.out (by decide))).trans ((Below.heap_alloc _ _ _ (Array.getElem?_eq_some_iff.1 HX3.out).1).trans HX3.out)⟩
            case measure => simp [intOf]; omega
          · rw [decide_eq_false hin]
            go_wp2_with fail
            go_roundw
            case rel => exact ⟨k + 1, by omega, by go_num, by rw [predsUp_not hin]; exact HO1.out, HB3.out, HX3.out⟩
            case measure => simp [intOf]; omega
        · have hkn : k = n := by omega
          subst hkn
          go_wp2_with fail
          go_ret
          rw [HE.out]
          refine ⟨_, rfl, ?_, HB.out⟩
          unfold predsN
          rw [HN.out]
          exact HO.out
end Go.Proofs.Ytggcpefhaijeiaa
