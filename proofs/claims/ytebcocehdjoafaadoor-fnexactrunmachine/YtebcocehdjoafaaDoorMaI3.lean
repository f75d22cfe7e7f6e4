/- The table of the steps' functions. -/
import Derived.Test.YtebcocehdjoafaaDoorMaI2
import Derived.Laws.EntriesVeiled
namespace Go.Proofs.YtebcocehdjoafaaDoor
open Go.ChangeShapes Go.WideShapes Go.ChangeAt Go.RowKit Go.Shelf
set_option linter.unusedVariables false

/-- The function of an op. -/
def doF (i : Nat) : Nat := match i with
  | 1 => 55
  | 2 => 56
  | 3 => 57
  | 4 => 58
  | 5 => 59
  | 6 => 60
  | 7 => 61
  | 8 => 62
  | 9 => 63
  | 10 => 63
  | 11 => 64
  | _ => 65
def fnAt (k i : Nat) : Value := if i = 0 then .nilFunc else if i < k then .func (.func (doF i)) #[] #[] else .nilFunc
/-- The table, filled up to k. -/
def fnC (k : Nat) : List Value := (List.range 22).map (fnAt k)
theorem fnC_len (k : Nat) : (fnC k).length = 22 := by simp [fnC]
theorem fnC_at (k : Nat) {i : Nat} (h : i < 22) : (fnC k)[i]? = some (fnAt k i) := by simp [fnC, h]
theorem fnC_set (k : Nat) (h1 : 12 ≤ k) (h2 : k < 22) : (fnC k).toArray.setIfInBounds k (.func (.func 65) #[] #[]) = (fnC (k + 1)).toArray := by
  apply Array.ext
  · simp [fnC]
  · intro i g1 g2
    have hi : i < 22 := by simpa [fnC] using g1
    rw [Array.getElem_setIfInBounds (by simpa [fnC] using hi)]
    by_cases e : k = i
    · subst e
      have hd : doF k = 65 := by unfold doF; split <;> omega
      simp [fnC, fnAt, hd]
      omega
    · simp [fnC, fnAt, e]
      by_cases e0 : i = 0
      · simp [e0]
      · by_cases e1 : i < k
        · have : i < k + 1 := by omega
          simp [e0, e1, this]
        · have : ¬ i < k + 1 := by omega
          simp [e0, e1, this]
theorem fnC_one (k : Nat) : (fnC k).toArray.all (·.oneCell') = true := by
  refine all_oneCell_toArray fun v hv => ?_
  obtain ⟨i, _, rfl⟩ := List.mem_map.1 hv
  unfold fnAt
  split
  · rfl
  · split <;> rfl
def zeroF : Array Value := #[.nilFunc, .nilFunc, .nilFunc, .nilFunc, .nilFunc, .nilFunc, .nilFunc, .nilFunc, .nilFunc, .nilFunc, .nilFunc, .nilFunc, .nilFunc, .nilFunc, .nilFunc, .nilFunc, .nilFunc, .nilFunc, .nilFunc, .nilFunc, .nilFunc, .nilFunc]
theorem zeroF_is : zeroF = #[.nilFunc, .nilFunc, .nilFunc, .nilFunc, .nilFunc, .nilFunc, .nilFunc, .nilFunc, .nilFunc, .nilFunc, .nilFunc, .nilFunc, .nilFunc, .nilFunc, .nilFunc, .nilFunc, .nilFunc, .nilFunc, .nilFunc, .nilFunc, .nilFunc, .nilFunc] := rfl
theorem info_fns : (Tryd.prog.info? 90).map (·.size) = some 22 := by kernel_rfl
/-- The table is given. -/
def GivesFns (w : World) (e : Ending) (w' : World) : Prop := e = .returned (.agg (fnC 22).toArray) ∧ Below w.heap.size w w'

/-- The table while it is filled: at block b, where what it is returned by lies at block a. -/
def FnSt (w wr : World) (a b k : Nat) : Prop := wr.heap[b]? = some (.cells (fnC k).toArray 90 (0, 0)) ∧ (∃ c, c.size = 22 ∧ wr.heap[a]? = some (.cells c 90 (0, 0))) ∧ Below w.heap.size w wr
theorem FnSt.next {w wr : World} {a b k : Nat} (h : FnSt w wr a b k) (hab : a ≠ b) (hb : w.heap.size ≤ b) (h1 : 12 ≤ k) (h2 : k < 22) : FnSt w (wr.setCell ⟨b, k, none⟩ (.func (.func 65) #[] #[])) a b (k + 1) := by
  obtain ⟨h3, ⟨c, hc, h4⟩, h5⟩ := h
  refine ⟨?_, ⟨c, hc, ?_⟩, h5.setCell (p := ⟨b, k, none⟩) hb _⟩
  · rw [← fnC_set k h1 h2]
    exact heap_setCell_same _ _ _ _ _ _ h3
  · rw [heap_setCell_other _ _ _ _ hab]
    exact h4
theorem run_buildFns {op : Oper} (ho : op.op = .build 90 #[(1, Operand.func 55), (2, Operand.func 56), (3, Operand.func 57), (4, Operand.func 58), (5, Operand.func 59), (6, Operand.func 60), (7, Operand.func 61), (8, Operand.func 62), (9, Operand.func 63), (10, Operand.func 63), (11, Operand.func 64)]) (a : Act) (w : World) : (execOp a.eval op).run Tryd.prog w = .ok (.value (.agg (fnC 12).toArray)) w := by
  obtain ⟨dst, o, ty, pos, aft, gd⟩ := op
  dsimp only at ho
  subst ho
  kernel_rfl

set_option maxRecDepth 100000 in
set_option maxHeartbeats 4000000 in
theorem stepFuncs_any (w : World) :
    Calls Tryd.prog 48 #[] w fun e w' => GivesFns w e w' := by
  obtain ⟨c0, hc0⟩ : ∃ c, (fnC 12).toArray = c := ⟨_, rfl⟩
  have hs0 : c0.size = 22 := by rw [← hc0]; simp [fnC_len]
  have H1 : Hid (c0.all (·.oneCell') = true) := by show c0.all (·.oneCell') = true; rw [← hc0]; exact fnC_one 12
  have HC0 : Hid ((fnC 12).toArray = c0) := hc0
  have HBD : Hid (∀ (op : Oper) (a : Act) (W : World), op.op = .build 90 #[(1, Operand.func 55), (2, Operand.func 56), (3, Operand.func 57), (4, Operand.func 58), (5, Operand.func 59), (6, Operand.func 60), (7, Operand.func 61), (8, Operand.func 62), (9, Operand.func 63), (10, Operand.func 63), (11, Operand.func 64)] → (execOp a.eval op).run Tryd.prog W = .ok (.value (.agg c0)) W) := fun op a W ho => by rw [← hc0]; exact run_buildFns ho a W
  clear hc0
  go_enter Tryd.func48, Tryd.ntmps48
  go_wp2_with (first
    | refine wpList_plain rfl (fun _ hK => wp_value (HBD.out _ _ _ rfl) (hK _ _ ?_))
    | refine wpList_store_row rfl 90 _ _ rfl (w.heap.size + 1) _ c0 _ rfl rfl (heap_last (by simp)) (by rw [hs0]; exact info_fns) (by rw [hs0]; rfl) H1.out ?_)
  obtain ⟨W2, hW2, HST⟩ : ∃ W2, W2 = (((w.alloc (.cells zeroF 90)).alloc (.cells zeroF 90)).setRow (w.heap.size + 1) c0) ∧ Hid (FnSt w W2 w.heap.size (w.heap.size + 1) 12) := by
    refine ⟨_, rfl, ?_, ⟨zeroF, rfl, ?_⟩, below_setRow ?_ (by omega) _⟩
    · rw [HC0.out]
      exact setRow_heap _ _ _ _ _ _ (heap_last (by simp))
    · rw [setRow_other _ _ _ _ (by omega), Below.heap_alloc _ _ _ (by simp)]
      exact World.alloc_heap_new w _
    · repeat (first | exact Below.refl _ _ | apply Below.drew | refine Below.alloc ?_ (by simp <;> omega) _ | refine Below.setCell ?_ (by simp <;> omega) _)
  rw [← zeroF_is]
  rw [← hW2]
  clear hW2
  go_loopw [2] (fun i wr => ∃ k : Nat, 12 ≤ k ∧ k ≤ 22 ∧ i = .int .i64 k ∧ FnSt w wr w.heap.size (w.heap.size + 1) k) (fun i _ => 22 - (intOf i).toNat)
  case atStart => exact ⟨12, by omega, by omega, rfl, HST.out⟩
  case round =>
    obtain ⟨k, hk1, hk2, rfl, hst⟩ := hrel
    have HK : Hid (FnSt w wr w.heap.size (w.heap.size + 1) k) := hst
    clear hst
    by_cases hlt : (k : Int) < 22
    · have q0 : wr.cell? ⟨w.heap.size + 1, k, none⟩ = some (fnAt k k) := by
        have h := HK.out.1
        have h2 := fnC_at k (i := k) (by omega)
        simp only [World.cell?]
        rw [h]
        simpa using h2
      have q1 : wr.frozen? ⟨w.heap.size + 1, k, none⟩ = false := frozen_of_cells ⟨_, HK.out.1⟩ k
      generalize fnAt k k = fv at q0
      go_wp2_with fail
      go_roundw
      case rel => exact ⟨k + 1, by omega, by omega, by go_num, HK.out.next (by omega) (by omega) hk1 (by omega)⟩
      case measure => simp [intOf]; omega
    · have hkn : k = 22 := by omega
      subst hkn
      obtain ⟨h3, ⟨c, hc, h4⟩, h5⟩ := HK.out
      obtain ⟨c1, HC1⟩ : ∃ c, Hid ((fnC 22).toArray = c) := ⟨_, rfl⟩
      have hs1 : c1.size = 22 := by rw [← HC1.out]; simp [fnC_len]
      have H2 : Hid (c1.all (·.oneCell') = true) := by show c1.all (·.oneCell') = true; rw [← HC1.out]; exact fnC_one 22
      rw [HC1.out] at h3
      have H3 : Hid (wr.heap[w.heap.size + 1]? = some (.cells c1 90 (0, 0))) := h3
      have H4 : Hid (wr.heap[w.heap.size]? = some (.cells c 90 (0, 0))) := h4
      have H5 : Hid (Below w.heap.size w wr) := h5
      clear h3 h4 h5
      go_wp2_with (first
        | refine wpList_load_row rfl 90 _ rfl (w.heap.size + 1) rfl c1 90 (0, 0) _ H3.out Tryd.underlying90 rfl (by rw [hs1]; exact info_fns) ?_
        | refine wpList_store_row rfl 90 _ _ rfl w.heap.size c c1 _ rfl rfl H4.out (by rw [hs1]; exact info_fns) (by rw [hs1]; exact hc) H2.out ?_)
      refine bodyPost_ret (v := .agg c1) (row_results rfl rfl (setRow_heap _ _ _ _ _ _ H4.out) Tryd.underlying90 rfl (by rw [hs1]; exact info_fns)) rfl ?_
      exact ⟨by rw [HC1.out], below_setRow H5.out (by omega) _⟩
end Go.Proofs.YtebcocehdjoafaaDoor
