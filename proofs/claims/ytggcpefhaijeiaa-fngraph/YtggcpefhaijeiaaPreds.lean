/- Preds, of the program and of the model: the blocks that come ahead, ascending. -/
import Derived.Test.YtggcpefhaijeiaaSSuccs
namespace Go.Proofs.Ytggcpefhaijeiaa
open Go.ChangeShapes Go.WideShapes Go.ChangeAt Go.RowKit Go.Shelf
set_option linter.unusedVariables false

/-- The block in which the list lies is none of another type. -/
theorem OwnInts.not_box {w : World} {lo : Nat} {v : Value} {l : List Int} (h : OwnInts w lo v l) {B : Nat} {c : Array Value} {t : TypeId} {z : Nat × Nat} (hB : w.heap[B]? = some (.cells c t z)) (ht : t ≠ 3) : some B ≠ v.ownBlock := by
  rcases h.2 with ⟨rfl, _⟩ | ⟨g, cap, cur, rfl, _, hgb, _⟩
  · simp [Value.ownBlock]
  · intro e'
    obtain rfl : B = g := by simpa [Value.ownBlock] using e'
    have := hB.symm.trans hgb
    simp at this
    exact ht this.2.1

theorem OwnInts.next {w : World} {lo : Nat} {v : Value} {l : List Int} {x : Int} (h : w.ownsRow lo 3 1 v (l.length + 1) (l.map (fun x => Value.int .i64 x) ++ [Value.int .i64 x])) : OwnInts w lo v (l ++ [x]) := by
  unfold OwnInts
  simpa using h
theorem OwnInts.grown {W w1 : World} {lo : Nat} {v : Value} {l : List Int} (h : OwnInts W lo v l) (hlo : lo ≤ W.heap.size) {o : Obj} (hg : (W.alloc o).grownBy w1 v.ownBlock) : Below lo W w1 := by
  refine ((Below.refl lo W).alloc hlo o).grown hg (by simp; omega) fun j ej => ?_
  rcases h.2 with ⟨rfl, _⟩ | ⟨g, cap, cur, rfl, hb, _, _⟩
  · simp [Value.ownBlock] at ej
  · obtain rfl : g = j := by simpa [Value.ownBlock] using ej
    exact hb

set_option maxHeartbeats 1000000 in
theorem l3Has_any (v : Value) (l : List Int) (x : Int) (w : World) (hl : IntsAt w v l) :
    Calls Try.prog 56 #[v, .int .i64 x] w fun e w' => e = .returned (.bool (decide (x ∈ l))) ∧ w' = w := by
  obtain ⟨a, cap, rfl, hm, hc⟩ := hl
  obtain ⟨n, HN⟩ : ∃ n, Hid (l.length = n) := ⟨_, rfl⟩
  rw [HN.out] at hm hc ⊢
  have HC : Hid (0 < n → ∃ b off, a = some ⟨b, off, none⟩ ∧ ∀ i, i < n → w.cell? ⟨b, off + i, none⟩ = some (.int .i64 (l.getD i 0))) := hc
  clear hc
  go_enter Try.func56, Try.ntmps56
  go_wp2
  go_loop [5] (fun i => ∃ k : Nat, k ≤ n ∧ i = .int .i64 k ∧ ∀ j, j < k → l.getD j 0 ≠ x) (fun i => n - (intOf i).toNat)
  case atStart => exact ⟨0, Nat.zero_le _, rfl, fun j hj => absurd hj (by omega)⟩
  case round =>
    obtain ⟨k, hk, rfl, hd⟩ := hrel
    have HD : Hid (∀ j, j < k → l.getD j 0 ≠ x) := hd
    clear hd
    by_cases hlt2 : (k : Int) < (n : Int)
    · obtain ⟨b, off, rfl, hc1⟩ := HC.out (by omega)
      have q1 := hc1 k (by omega)
      clear hc1
      obtain ⟨y, HY⟩ : ∃ y, Hid (l.getD k 0 = y) := ⟨_, rfl⟩
      rw [HY.out] at q1
      by_cases hyx : y = x
      · subst hyx
        go_wp2
        go_ret
        have hkl : k < l.length := by have := HN.out; omega
        have e : l[k] = y := by have := HY.out; simpa [List.getD, hkl] using this
        have hmem : y ∈ l := by rw [← e]; exact List.getElem_mem hkl
        rw [decide_eq_true hmem]
        exact ⟨rfl, rfl⟩
      · have hb : (y == x) = false := by simp [hyx]
        go_wp2
        go_round
        case rel =>
          refine ⟨k + 1, by omega, by go_num, fun j hj => ?_⟩
          by_cases hjk : j = k
          · subst hjk
            rw [HY.out]
            exact hyx
          · exact HD.out j (by omega)
        case measure => simp [intOf]; omega
    · have hkn : k = n := by omega
      subst hkn
      go_wp2
      go_ret
      have hno : ¬ x ∈ l := fun hx => by
        obtain ⟨j, hj, e⟩ := List.getElem_of_mem hx
        exact HD.out j (by have := HN.out; omega) (by simp [List.getD, hj, e])
      rw [decide_eq_false hno]
      exact ⟨rfl, rfl⟩

set_option maxRecDepth 100000 in
set_option maxHeartbeats 4000000 in
theorem l3Preds_any (v : Value) (F : FnD) (b : Int) (w : World) (hF : FnAt w v F) (h16 : F.blocks.length ≤ 16) :
    Calls Try.prog 39 #[v, .int .i64 b] w fun e w' => GivesOwn w (predsN F b) e w' := by
  have HF : Hid (FnAt w v F) := hF
  obtain ⟨n, HN⟩ : ∃ n, Hid (F.blocks.length = n) := ⟨_, rfl⟩
  obtain ⟨vals, HV⟩ : ∃ x, Hid (F.values = x) := ⟨_, rfl⟩
  obtain ⟨ba, bcap, rfl⟩ := hF.out HN.out HV.out
  clear hF
  rw [HN.out] at h16
  obtain ⟨i0, hi, hz0, hz1, hz2⟩ := info_parts info_int
  have hmx : 100 ≤ maxLen := by decide
  go_enter Try.func39, Try.ntmps39
  go_wp2_with fail
  go_loopw [5, 6] (fun s i wr => ∃ k : Nat, k ≤ n ∧ i = .int .i64 k ∧ OwnInts wr w.heap.size s (predsUp F b k) ∧ Below w.heap.size w wr ∧ wr.heap[w.heap.size]? = some (.cells #[.slice ba n bcap, .int .i64 vals] 26 (0, 0))) (fun _ i _ => n - (intOf i).toNat)
  case atStart =>
    refine ⟨0, Nat.zero_le _, rfl, ownInts_nil (by simp) (by omega), by repeat (first | exact Below.refl _ _ | apply Below.drew | refine Below.alloc ?_ (by simp <;> omega) _ | refine Below.setCell ?_ (by simp <;> omega) _), ?_⟩
    rw [Below.heap_alloc _ _ _ (by simp)]
    exact World.alloc_heap_new w _
  case round =>
    obtain ⟨k, hk, rfl, ho, hB, hbx⟩ := hrel
    have c0 : wr.cell? ⟨w.heap.size, 0, none⟩ = some (.slice ba n bcap) := by simp [World.cell?, hbx]
    have c1 : wr.cell? ⟨w.heap.size, 1, none⟩ = some (.int .i64 vals) := by simp [World.cell?, hbx]
    have HO : Hid (OwnInts wr w.heap.size u5 (predsUp F b k)) := ho
    have HB : Hid (Below w.heap.size w wr) := hB
    have HX : Hid (wr.heap[w.heap.size]? = some (.cells #[.slice ba n bcap, .int .i64 vals] 26 (0, 0))) := hbx
    have hpl := predsUp_len F b k
    clear ho hB hbx
    by_cases hlt2 : (k : Int) < (n : Int)
    · go_wp2_with fail
      refine (l3Succs_any _ F k _ (HF.out.later HB.out) (by rw [HN.out]; omega)).mono ?_
      rintro e w1 ⟨v1, rfl, o1, b1⟩
      have O1 : Hid (OwnInts w1 wr.heap.size v1 (succsN F k)) := o1
      have HO1 : Hid (OwnInts w1 w.heap.size u5 (predsUp F b k)) := HO.out.keep b1
      have HB2 : Hid (Below w.heap.size w w1) := Bel.after HB.out b1
      have HX1 : Hid (w1.heap[w.heap.size]? = some (.cells #[.slice ba n bcap, .int .i64 vals] 26 (0, 0))) := (b1.block _ (Array.getElem?_eq_some_iff.1 HX.out).1).trans HX.out
      clear o1 b1 c0 c1
      go_wp2_with fail
      refine (l3Has_any v1 _ b _ O1.out.at).mono ?_
      rintro e w2 ⟨rfl, hw2⟩
      subst hw2
      by_cases hin : b ∈ succsN F k
      · rw [decide_eq_true hin]
        go_wp2_with (at_builtin; refine wpList_append_own _ rfl _ _ 29 rfl w.heap.size 3 i0 (.int .i64 0) 1 8 Try.underlying29 hi hz0 hz1 hz2 rfl (by decide) _ _ _ rfl (World.ownsRow.alloc HO1.out _) ⟨w2.heap.size, 0, none⟩ 1 1 [.int .i64 (k : Int)] rfl rfl (cell_one_new _ _ _) (by simp [Value.oneCell']) (by omega) (by omega) (by have := HB2.out.size; simp; omega) ?_; intro v' wa hown' hgrow _; have HO' : Hid (OwnInts wa w.heap.size v' (predsUp F b k ++ [(k : Int)])) := OwnInts.next hown'; have HG : Hid (World.grownBy _ _ _) := hgrow; clear hown' hgrow)
        go_roundw
        case rel => exact ⟨k + 1, by omega, by go_num, by rw [predsUp_yes hin]; exact HO'.out, HB2.out.trans (HO1.out.grown HB2.out.size HG.out), (HG.out.block _ (by have := (Array.getElem?_eq_some_iff.1 HX1.out).1; simp; omega) (HO1.out.not_box HX1.out (by decide))).trans ((Below.heap_alloc _ _ _ (Array.getElem?_eq_some_iff.1 HX1.out).1).trans HX1.out)⟩
        case measure => simp [intOf]; omega
      · rw [decide_eq_false hin]
        go_wp2_with fail
        go_roundw
        case rel => exact ⟨k + 1, by omega, by go_num, by rw [predsUp_not hin]; exact HO1.out, HB2.out, HX1.out⟩
        case measure => simp [intOf]; omega
    · have hkn : k = n := by omega
      subst hkn
      go_wp2_with fail
      go_ret
      refine ⟨_, rfl, ?_, HB.out⟩
      unfold predsN
      rw [HN.out]
      exact HO.out
end Go.Proofs.Ytggcpefhaijeiaa
