/- The table of the steps' functions. One contract for the functions of all ops of the machine. The program's machine goes on till it is over. RunMachine, of the program. -/
import Derived.Test.YtjcocpdicogecaaGreatDoorMaI2K
import Derived.Laws.EntriesVeiled
import Derived.Test.YtjcocpdicogecaaGreatDoorMaOkK
namespace Go.Proofs.YtjcocpdicogecaaGreatDoor
open Go.ChangeShapes Go.WideShapes Go.ChangeAt Go.RowKit Go.Shelf
set_option linter.unusedVariables false

/-- The function of an op. -/
def doF (i : Nat) : Nat := match i with
  | 1 => 69
  | 2 => 70
  | 3 => 71
  | 4 => 72
  | 5 => 73
  | 6 => 74
  | 7 => 75
  | 8 => 76
  | 9 => 77
  | 10 => 77
  | 11 => 78
  | _ => 79
def fnAt (k i : Nat) : Value := if i = 0 then .nilFunc else if i < k then .func (.func (doF i)) #[] #[] else .nilFunc
/-- The table, filled up to k. -/
def fnC (k : Nat) : List Value := (List.range 22).map (fnAt k)
theorem fnC_len (k : Nat) : (fnC k).length = 22 := by simp [fnC]
theorem fnC_at (k : Nat) {i : Nat} (h : i < 22) : (fnC k)[i]? = some (fnAt k i) := by simp [fnC, h]
theorem fnC_set (k : Nat) (h1 : 12 ≤ k) (h2 : k < 22) : (fnC k).toArray.setIfInBounds k (.func (.func 79) #[] #[]) = (fnC (k + 1)).toArray := by
  apply Array.ext
  · simp [fnC]
  · intro i g1 g2
    have hi : i < 22 := by simpa [fnC] using g1
    rw [Array.getElem_setIfInBounds (by simpa [fnC] using hi)]
    by_cases e : k = i
    · subst e
      have hd : doF k = 79 := by unfold doF; split <;> omega
      simp [fnC, fnAt, hd]
      omega
    · simp [fnC, fnAt, e]
      by_cases e0 : i = 0
      · simp [e0]
      · by_cases e1 : i < k
        · have : i < k + 1 := by omega
          simp [e0, e1, this]
        · have : ¬ i < k + 1 := by omega
          simp [e0, e1, this]
theorem fnC_one (k : Nat) : (fnC k).toArray.all (·.oneCell') = true := by
  refine all_oneCell_toArray fun v hv => ?_
  obtain ⟨i, _, rfl⟩ := List.mem_map.1 hv
  unfold fnAt
  split
  · rfl
  · split <;> rfl
def zeroF : Array Value := #[.nilFunc, .nilFunc, .nilFunc, .nilFunc, .nilFunc, .nilFunc, .nilFunc, .nilFunc, .nilFunc, .nilFunc, .nilFunc, .nilFunc, .nilFunc, .nilFunc, .nilFunc, .nilFunc, .nilFunc, .nilFunc, .nilFunc, .nilFunc, .nilFunc, .nilFunc]
theorem zeroF_is : zeroF = #[.nilFunc, .nilFunc, .nilFunc, .nilFunc, .nilFunc, .nilFunc, .nilFunc, .nilFunc, .nilFunc, .nilFunc, .nilFunc, .nilFunc, .nilFunc, .nilFunc, .nilFunc, .nilFunc, .nilFunc, .nilFunc, .nilFunc, .nilFunc, .nilFunc, .nilFunc] := rfl
theorem info_fns : (Tryz.prog.info? 115).map (·.size) = some 22 := by kernel_rfl
/-- The table is given. -/
def GivesFns (w : World) (e : Ending) (w' : World) : Prop := e = .returned (.agg (fnC 22).toArray) ∧ Below w.heap.size w w'

/-- The table while it is filled: at block b, where what it is returned by lies at block a. -/
def FnSt (w wr : World) (a b k : Nat) : Prop := wr.heap[b]? = some (.cells (fnC k).toArray 115 (0, 0)) ∧ (∃ c, c.size = 22 ∧ wr.heap[a]? = some (.cells c 115 (0, 0))) ∧ Below w.heap.size w wr
theorem FnSt.next {w wr : World} {a b k : Nat} (h : FnSt w wr a b k) (hab : a ≠ b) (hb : w.heap.size ≤ b) (h1 : 12 ≤ k) (h2 : k < 22) : FnSt w (wr.setCell ⟨b, k, none⟩ (.func (.func 79) #[] #[])) a b (k + 1) := by
  obtain ⟨h3, ⟨c, hc, h4⟩, h5⟩ := h
  refine ⟨?_, ⟨c, hc, ?_⟩, h5.setCell (p := ⟨b, k, none⟩) hb _⟩
  · rw [← fnC_set k h1 h2]
    exact heap_setCell_same _ _ _ _ _ _ h3
  · rw [heap_setCell_other _ _ _ _ hab]
    exact h4
theorem run_buildFns {op : Oper} (ho : op.op = .build 115 #[(1, Operand.func 69), (2, Operand.func 70), (3, Operand.func 71), (4, Operand.func 72), (5, Operand.func 73), (6, Operand.func 74), (7, Operand.func 75), (8, Operand.func 76), (9, Operand.func 77), (10, Operand.func 77), (11, Operand.func 78)]) (a : Act) (w : World) : (execOp a.eval op).run Tryz.prog w = .ok (.value (.agg (fnC 12).toArray)) w := by
  obtain ⟨dst, o, ty, pos, aft, gd⟩ := op
  dsimp only at ho
  subst ho
  kernel_rfl

set_option maxRecDepth 100000 in
set_option maxHeartbeats 4000000 in
theorem stepFuncs_any (w : World) :
    Calls Tryz.prog 57 #[] w fun e w' => GivesFns w e w' := by
  obtain ⟨c0, hc0⟩ : ∃ c, (fnC 12).toArray = c := ⟨_, rfl⟩
  have hs0 : c0.size = 22 := by rw [← hc0]; simp [fnC_len]
  have H1 : Hid (c0.all (·.oneCell') = true) := by show c0.all (·.oneCell') = true; rw [← hc0]; exact fnC_one 12
  have HC0 : Hid ((fnC 12).toArray = c0) := hc0
  have HBD : Hid (∀ (op : Oper) (a : Act) (W : World), op.op = .build 115 #[(1, Operand.func 69), (2, Operand.func 70), (3, Operand.func 71), (4, Operand.func 72), (5, Operand.func 73), (6, Operand.func 74), (7, Operand.func 75), (8, Operand.func 76), (9, Operand.func 77), (10, Operand.func 77), (11, Operand.func 78)] → (execOp a.eval op).run Tryz.prog W = .ok (.value (.agg c0)) W) := fun op a W ho => by rw [← hc0]; exact run_buildFns ho a W
  clear hc0
  go_enter Tryz.func57, Tryz.ntmps57
  go_wp2_with (first
    | refine wpList_plain rfl (fun _ hK => wp_value (HBD.out _ _ _ rfl) (hK _ _ ?_))
    | refine wpList_store_row rfl 115 _ _ rfl (w.heap.size + 1) _ c0 _ rfl rfl (heap_last (by simp)) (by rw [hs0]; exact info_fns) (by rw [hs0]; rfl) H1.out ?_)
  obtain ⟨W2, hW2, HST⟩ : ∃ W2, W2 = (((w.alloc (.cells zeroF 115)).alloc (.cells zeroF 115)).setRow (w.heap.size + 1) c0) ∧ Hid (FnSt w W2 w.heap.size (w.heap.size + 1) 12) := by
    refine ⟨_, rfl, ?_, ⟨zeroF, rfl, ?_⟩, below_setRow ?_ (by omega) _⟩
    · rw [HC0.out]
      exact setRow_heap _ _ _ _ _ _ (heap_last (by simp))
    · rw [setRow_other _ _ _ _ (by omega), Below.heap_alloc _ _ _ (by simp)]
      exact World.alloc_heap_new w _
    · repeat (first | exact Below.refl _ _ | apply Below.drew | refine Below.alloc ?_ (by simp <;> omega) _ | refine Below.setCell ?_ (by simp <;> omega) _)
  rw [← zeroF_is]
  rw [← hW2]
  clear hW2
  go_loopw [2] (fun i wr => ∃ k : Nat, 12 ≤ k ∧ k ≤ 22 ∧ i = .int .i64 k ∧ FnSt w wr w.heap.size (w.heap.size + 1) k) (fun i _ => 22 - (intOf i).toNat)
  case atStart => exact ⟨12, by omega, by omega, rfl, HST.out⟩
  case round =>
    obtain ⟨k, hk1, hk2, rfl, hst⟩ := hrel
    have HK : Hid (FnSt w wr w.heap.size (w.heap.size + 1) k) := hst
    clear hst
    by_cases hlt : (k : Int) < 22
    · have q0 : wr.cell? ⟨w.heap.size + 1, k, none⟩ = some (fnAt k k) := by
        have h := HK.out.1
        have h2 := fnC_at k (i := k) (by omega)
        simp only [World.cell?]
        rw [h]
        simpa using h2
      have q1 : wr.frozen? ⟨w.heap.size + 1, k, none⟩ = false := frozen_of_cells ⟨_, HK.out.1⟩ k
      generalize fnAt k k = fv at q0
      go_wp2_with fail
      go_roundw
      case rel => exact ⟨k + 1, by omega, by omega, by go_num, HK.out.next (by omega) (by omega) hk1 (by omega)⟩
      case measure => simp [intOf]; omega
    · have hkn : k = 22 := by omega
      subst hkn
      obtain ⟨h3, ⟨c, hc, h4⟩, h5⟩ := HK.out
      obtain ⟨c1, HC1⟩ : ∃ c, Hid ((fnC 22).toArray = c) := ⟨_, rfl⟩
      have hs1 : c1.size = 22 := by rw [← HC1.out]; simp [fnC_len]
      have H2 : Hid (c1.all (·.oneCell') = true) := by show c1.all (·.oneCell') = true; rw [← HC1.out]; exact fnC_one 22
      rw [HC1.out] at h3
      have H3 : Hid (wr.heap[w.heap.size + 1]? = some (.cells c1 115 (0, 0))) := h3
      have H4 : Hid (wr.heap[w.heap.size]? = some (.cells c 115 (0, 0))) := h4
      have H5 : Hid (Below w.heap.size w wr) := h5
      clear h3 h4 h5
      go_wp2_with (first
        | refine wpList_load_row rfl 115 _ rfl (w.heap.size + 1) rfl c1 115 (0, 0) _ H3.out Tryz.underlying115 rfl (by rw [hs1]; exact info_fns) ?_
        | refine wpList_store_row rfl 115 _ _ rfl w.heap.size c c1 _ rfl rfl H4.out (by rw [hs1]; exact info_fns) (by rw [hs1]; exact hc) H2.out ?_)
      refine bodyPost_ret (v := .agg c1) (row_results rfl rfl (setRow_heap _ _ _ _ _ _ H4.out) Tryz.underlying115 rfl (by rw [hs1]; exact info_fns)) rfl ?_
      exact ⟨by rw [HC1.out], below_setRow H5.out (by omega) _⟩
end Go.Proofs.YtjcocpdicogecaaGreatDoor

namespace Go.Proofs.YtjcocpdicogecaaGreatDoor
open Go.ChangeShapes Go.WideShapes Go.ChangeAt Go.RowKit Go.Shelf
set_option linter.unusedVariables false

/-- The machine behind a step. -/
def doneM (i : InsD) (m : MacS) : MacS := if i.op = 11 then { m with pc := m.pc + 1 } else (macDo wordV i m).2
def doneE (i : InsD) (m : MacS) (x : MacE) : MacE := if i.op = 11 then ⟨x.fuel, true, 0, m.regs i.a.toNat⟩ else if (macDo wordV i m).1 = 0 then x else ⟨x.fuel, true, (macDo wordV i m).1, 0⟩

theorem doF_word {k : Nat} (h1 : 12 ≤ k) : doF k = 79 := by
  unfold doF
  split <;> omega
theorem enters_do {k : Nat} (h1 : 1 ≤ k) (h2 : k ≤ 21) : Enters Tryz.prog (doF k) := by
  by_cases h : 12 ≤ k
  · rw [doF_word h]
    exact enters_of Tryz.func79 (by kernel_rfl) rfl
  · have : k = 1 ∨ k = 2 ∨ k = 3 ∨ k = 4 ∨ k = 5 ∨ k = 6 ∨ k = 7 ∨ k = 8 ∨ k = 9 ∨ k = 10 ∨ k = 11 := by omega
    rcases this with rfl | rfl | rfl | rfl | rfl | rfl | rfl | rfl | rfl | rfl | rfl
    · exact enters_of Tryz.func69 (by kernel_rfl) rfl
    · exact enters_of Tryz.func70 (by kernel_rfl) rfl
    · exact enters_of Tryz.func71 (by kernel_rfl) rfl
    · exact enters_of Tryz.func72 (by kernel_rfl) rfl
    · exact enters_of Tryz.func73 (by kernel_rfl) rfl
    · exact enters_of Tryz.func74 (by kernel_rfl) rfl
    · exact enters_of Tryz.func75 (by kernel_rfl) rfl
    · exact enters_of Tryz.func76 (by kernel_rfl) rfl
    · exact enters_of Tryz.func77 (by kernel_rfl) rfl
    · exact enters_of Tryz.func77 (by kernel_rfl) rfl
    · exact enters_of Tryz.func78 (by kernel_rfl) rfl

theorem part0 {x n : Int} (h : holdsB 0 x n = true) : x = 0 := by simpa [holdsB] using h
theorem part1 {x n : Int} (h : holdsB 1 x n = true) : ∃ k : Nat, x = (k : Int) ∧ k < 8 := by
  simp [holdsB] at h
  exact ⟨x.toNat, by omega, by omega⟩
theorem part2 {x n : Int} (h : holdsB 2 x n = true) : ∃ k : Nat, x = (k : Int) ∧ k < 40 := by
  simp [holdsB] at h
  exact ⟨x.toNat, by omega, by omega⟩
theorem part3 {x n : Int} (h : holdsB 3 x n = true) : ∃ k : Nat, x = (k : Int) ∧ (k : Int) < n := by
  simp [holdsB] at h
  exact ⟨x.toNat, by omega, by omega⟩
theorem cellNat {v : Int} (h : cellOk v) : ∃ n : Nat, v = (n : Int) ∧ n < 8 := ⟨v.toNat, by unfold cellOk at h; omega, by unfold cellOk at h; omega⟩

section
variable {W0 : World} {M : Nat} {x : MacE}

theorem mdo_any (i : InsD) (len : Int) (hok : stepOkB i len = true) (m : MacS) (hl : m.told.length ≤ 40000) (w : World) (h : MacIs W0 w M { m with pc := m.pc + 1 } x) :
    Calls Tryz.prog (doF i.op.toNat) #[.pointer (some ⟨M, 0, none⟩), .agg #[.int .i64 i.op, .int .i64 i.d, .int .i64 i.a, .int .i64 i.b, .int .i64 i.n]] w fun e w' => (∃ v, e = .returned v) ∧ MacTo W0 M w (doneM i m) (doneE i m x) w' := by
  obtain ⟨h0, h1, h2, h3, h4⟩ := stepOkB_parts hok
  obtain ⟨op, d, a, b, n⟩ := i
  dsimp only at h0 h1 h2 h3 h4 ⊢
  clear hok
  rcases op_kinds op with rfl | rfl | rfl | rfl | rfl | rfl | rfl | rfl | rfl | rfl | rfl | h5 | h5
  · obtain ⟨d, rfl, hd⟩ := part1 (show holdsB 1 d len = true from h1)
    obtain rfl := part0 (show holdsB 0 a len = true from h2)
    obtain rfl := part0 (show holdsB 0 b len = true from h3)
    exact mset_any (m := { m with pc := m.pc + 1 }) (x := x) d n hd w h
  · obtain ⟨d, rfl, hd⟩ := part1 (show holdsB 1 d len = true from h1)
    obtain ⟨a, rfl, ha⟩ := part1 (show holdsB 1 a len = true from h2)
    obtain rfl := part0 (show holdsB 0 b len = true from h3)
    obtain rfl := part0 (show holdsB 0 n len = true from h4)
    exact mmove_any (m := { m with pc := m.pc + 1 }) (x := x) d a hd ha w h
  · obtain ⟨d, rfl, hd⟩ := part1 (show holdsB 1 d len = true from h1)
    obtain rfl := part0 (show holdsB 0 a len = true from h2)
    obtain rfl := part0 (show holdsB 0 b len = true from h3)
    obtain ⟨n, rfl, hn⟩ := part2 (show holdsB 2 n len = true from h4)
    exact mget_any (m := { m with pc := m.pc + 1 }) (x := x) d n hd hn w h
  · obtain rfl := part0 (show holdsB 0 d len = true from h1)
    obtain ⟨a, rfl, ha⟩ := part1 (show holdsB 1 a len = true from h2)
    obtain rfl := part0 (show holdsB 0 b len = true from h3)
    obtain ⟨n, rfl, hn⟩ := part2 (show holdsB 2 n len = true from h4)
    exact mput_any (m := { m with pc := m.pc + 1 }) (x := x) a n ha hn w h
  · obtain ⟨d, rfl, hd⟩ := part1 (show holdsB 1 d len = true from h1)
    obtain ⟨a, rfl, ha⟩ := part1 (show holdsB 1 a len = true from h2)
    obtain rfl := part0 (show holdsB 0 b len = true from h3)
    obtain rfl := part0 (show holdsB 0 n len = true from h4)
    by_cases hc0 : cellOk (m.regs a)
    · have e1 : doneM ⟨5, (d : Int), (a : Int), 0, 0⟩ m = { m with pc := m.pc + 1, regs := updN m.regs d (m.cells (m.regs a).toNat) } := by
        show (if cellOk (m.regs a) then _ else _ : Int × MacS).2 = _
        rw [if_pos hc0]
        rfl
      have e2 : doneE ⟨5, (d : Int), (a : Int), 0, 0⟩ m x = x := by
        show (if (if cellOk (m.regs a) then _ else _ : Int × MacS).1 = 0 then x else _) = x
        rw [if_pos hc0]
        rfl
      rw [e1, e2]
      obtain ⟨c, ec, hc⟩ := cellNat hc0
      rw [ec]
      exact mload_yes (m := { m with pc := m.pc + 1 }) (x := x) d a c hd ha hc ec w h
    · have e1 : doneM ⟨5, (d : Int), (a : Int), 0, 0⟩ m = { m with pc := m.pc + 1 } := by
        show (if cellOk (m.regs a) then _ else _ : Int × MacS).2 = _
        rw [if_neg hc0]
      have e2 : doneE ⟨5, (d : Int), (a : Int), 0, 0⟩ m x = ⟨x.fuel, true, 2, 0⟩ := by
        show (if (if cellOk (m.regs a) then _ else _ : Int × MacS).1 = 0 then x else ⟨x.fuel, true, (if cellOk (m.regs a) then _ else _ : Int × MacS).1, 0⟩) = _
        rw [if_neg hc0]
        rfl
      rw [e1, e2]
      exact mload_no (m := { m with pc := m.pc + 1 }) (x := x) d a ha hc0 w h
  · obtain rfl := part0 (show holdsB 0 d len = true from h1)
    obtain ⟨a, rfl, ha⟩ := part1 (show holdsB 1 a len = true from h2)
    obtain ⟨b, rfl, hb⟩ := part1 (show holdsB 1 b len = true from h3)
    obtain rfl := part0 (show holdsB 0 n len = true from h4)
    by_cases hc0 : cellOk (m.regs a)
    · have e1 : doneM ⟨6, 0, (a : Int), (b : Int), 0⟩ m = { m with pc := m.pc + 1, cells := updN m.cells (m.regs a).toNat (m.regs b) } := by
        show (if cellOk (m.regs a) then _ else _ : Int × MacS).2 = _
        rw [if_pos hc0]
        rfl
      have e2 : doneE ⟨6, 0, (a : Int), (b : Int), 0⟩ m x = x := by
        show (if (if cellOk (m.regs a) then _ else _ : Int × MacS).1 = 0 then x else _) = x
        rw [if_pos hc0]
        rfl
      rw [e1, e2]
      obtain ⟨c, ec, hc⟩ := cellNat hc0
      rw [ec]
      exact mstore_yes (m := { m with pc := m.pc + 1 }) (x := x) a b c ha hb hc ec w h
    · have e1 : doneM ⟨6, 0, (a : Int), (b : Int), 0⟩ m = { m with pc := m.pc + 1 } := by
        show (if cellOk (m.regs a) then _ else _ : Int × MacS).2 = _
        rw [if_neg hc0]
      have e2 : doneE ⟨6, 0, (a : Int), (b : Int), 0⟩ m x = ⟨x.fuel, true, 2, 0⟩ := by
        show (if (if cellOk (m.regs a) then _ else _ : Int × MacS).1 = 0 then x else ⟨x.fuel, true, (if cellOk (m.regs a) then _ else _ : Int × MacS).1, 0⟩) = _
        rw [if_neg hc0]
        rfl
      rw [e1, e2]
      exact mstore_no (m := { m with pc := m.pc + 1 }) (x := x) a b ha hc0 w h
  · obtain rfl := part0 (show holdsB 0 d len = true from h1)
    obtain ⟨a, rfl, ha⟩ := part1 (show holdsB 1 a len = true from h2)
    obtain rfl := part0 (show holdsB 0 b len = true from h3)
    obtain rfl := part0 (show holdsB 0 n len = true from h4)
    exact mout_any (m := { m with pc := m.pc + 1 }) (x := x) a ha hl w h
  · obtain ⟨d, rfl, hd⟩ := part1 (show holdsB 1 d len = true from h1)
    obtain rfl := part0 (show holdsB 0 a len = true from h2)
    obtain rfl := part0 (show holdsB 0 b len = true from h3)
    obtain rfl := part0 (show holdsB 0 n len = true from h4)
    exact mreadstep_any (m := { m with pc := m.pc + 1 }) (x := x) d hd w h
  · obtain rfl := part0 (show holdsB 0 d len = true from h1)
    obtain rfl := part0 (show holdsB 0 a len = true from h2)
    obtain rfl := part0 (show holdsB 0 b len = true from h3)
    obtain ⟨n, rfl, hn⟩ := part3 (show holdsB 3 n len = true from h4)
    exact mjump_any (m := { m with pc := m.pc + 1 }) (x := x) n w h
  · obtain rfl := part0 (show holdsB 0 d len = true from h1)
    obtain ⟨a, rfl, ha⟩ := part1 (show holdsB 1 a len = true from h2)
    obtain rfl := part0 (show holdsB 0 b len = true from h3)
    obtain ⟨n, rfl, hn⟩ := part3 (show holdsB 3 n len = true from h4)
    by_cases hz : m.regs a = 0
    · have e1 : doneM ⟨10, 0, (a : Int), 0, (n : Int)⟩ m = { m with pc := n } := by
        show (if m.regs a = 0 then _ else _ : Int × MacS).2 = _
        rw [if_pos hz]
        rfl
      have e2 : doneE ⟨10, 0, (a : Int), 0, (n : Int)⟩ m x = x := by
        show (if (if m.regs a = 0 then _ else _ : Int × MacS).1 = 0 then x else _) = x
        rw [if_pos hz]
        rfl
      rw [e1, e2]
      exact mzero_yes (m := { m with pc := m.pc + 1 }) (x := x) a n ha hz w h
    · have e1 : doneM ⟨10, 0, (a : Int), 0, (n : Int)⟩ m = { m with pc := m.pc + 1 } := by
        show (if m.regs a = 0 then _ else _ : Int × MacS).2 = _
        rw [if_neg hz]
      have e2 : doneE ⟨10, 0, (a : Int), 0, (n : Int)⟩ m x = x := by
        show (if (if m.regs a = 0 then _ else _ : Int × MacS).1 = 0 then x else _) = x
        rw [if_neg hz]
        rfl
      rw [e1, e2]
      exact mzero_no (m := { m with pc := m.pc + 1 }) (x := x) a n ha hz w h
  · obtain rfl := part0 (show holdsB 0 d len = true from h1)
    obtain ⟨a, rfl, ha⟩ := part1 (show holdsB 1 a len = true from h2)
    obtain rfl := part0 (show holdsB 0 b len = true from h3)
    obtain rfl := part0 (show holdsB 0 n len = true from h4)
    exact mend_any (m := { m with pc := m.pc + 1 }) (x := x) a ha w h
  · rw [formV_word h5.1 h5.2] at h1 h2 h3 h4
    obtain ⟨d, rfl, hd⟩ := part1 h1
    obtain ⟨a, rfl, ha⟩ := part1 h2
    obtain ⟨b, rfl, hb⟩ := part1 h3
    obtain rfl := part0 h4
    have em : macDo wordV ⟨op, (d : Int), (a : Int), (b : Int), 0⟩ m = (0, { m with pc := m.pc + 1, regs := updN m.regs d (wordV (op - 11) (m.regs a) (m.regs b)) }) := by
      unfold macDo
      dsimp only
      rw [if_neg (by omega), if_neg (by omega), if_neg (by omega), if_neg (by omega), if_neg (by omega), if_neg (by omega), if_neg (by omega), if_neg (by omega), if_neg (by omega), if_neg (by omega)]
      rfl
    have e1 : doneM ⟨op, (d : Int), (a : Int), (b : Int), 0⟩ m = { m with pc := m.pc + 1, regs := updN m.regs d (wordV (op - 11) (m.regs a) (m.regs b)) } := by
      unfold doneM
      dsimp only
      rw [if_neg (by omega), em]
    have e2 : doneE ⟨op, (d : Int), (a : Int), (b : Int), 0⟩ m x = x := by
      unfold doneE
      dsimp only
      rw [if_neg (by omega), em]
      rfl
    rw [e1, e2, doF_word (by omega)]
    exact mword_any (m := { m with pc := m.pc + 1 }) (x := x) op d a b hd ha hb h5 w h
  · omega
end
end Go.Proofs.YtjcocpdicogecaaGreatDoor

namespace Go.Proofs.YtjcocpdicogecaaGreatDoor
open Go.ChangeShapes Go.WideShapes Go.ChangeAt Go.RowKit Go.Shelf
set_option linter.unusedVariables false

theorem runCallV {P : Program} {o : Oper} {a : Act} {f : FuncId} {c x y : Operand} {ts : Array TypeId} (ho : o.op = Op.call { callee := Callee.value c, args := #[x, y], argTypes := ts }) {u v : Value} (hc : a.eval c = .func (.func f) #[] #[]) (hx : a.eval x = u) (hy : a.eval y = v) (he : ∀ args w, (callFunc f args).run P w = .ok (.enter f args) w) (w : World) : (execOp a.eval o).run P w = .ok (.enter f #[u, v]) w := by
  simp only [Act.eval] at hc hx hy
  simp [execOp, ho, resolve, invoke, Act.eval, go_sem]
  simp at hc hx hy
  simp [hc, hx, hy, he, go_sem]
/-- The fuel, read off the memory. -/
def fuelOf (M : Nat) (w : World) : Nat := match w.cell? ⟨M, 1, none⟩ with
  | some v => (intOf v).toNat
  | none => 0
theorem fuelOf_is {W0 w : World} {M : Nat} {m : MacS} {x : MacE} (h : MacIs W0 w M m x) : fuelOf M w = x.fuel := by
  obtain ⟨rv, tv, h⟩ := h
  unfold fuelOf
  rw [h.cells.c1]
  simp [intOf]
/-- How a machine stands between two steps. -/
def AllSt (W0 wr : World) (M FB : Nat) (l : List InsD) (res : List Int × Int × Int) : Prop :=
  ∃ m x, MacIs W0 wr M m x ∧ wr.heap[FB]? = some (.cells (fnC 22).toArray 115 (0, 0)) ∧ (x.over = true → (m.told, x.how, x.en) = res) ∧ (x.over = false → macN wordV l x.fuel m = res ∧ m.pc < l.length ∧ m.told.length + x.fuel ≤ 40000)
def GivesAll (W0 : World) (M : Nat) (res : List Int × Int × Int) (e : Ending) (w' : World) : Prop := (∃ r, e = .returned r) ∧ ∃ m x, MacIs W0 w' M m x ∧ (m.told, x.how, x.en) = res
theorem told_more (i : InsD) (m : MacS) : (doneM i m).told.length ≤ m.told.length + 1 := by
  unfold doneM
  by_cases e11 : i.op = 11
  · rw [if_pos e11]; exact Nat.le_succ _
  rw [if_neg e11]
  unfold macDo
  by_cases e1 : i.op = 1
  · rw [if_pos e1]; exact Nat.le_succ _
  rw [if_neg e1]
  by_cases e2 : i.op = 2
  · rw [if_pos e2]; exact Nat.le_succ _
  rw [if_neg e2]
  by_cases e3 : i.op = 3
  · rw [if_pos e3]; exact Nat.le_succ _
  rw [if_neg e3]
  by_cases e4 : i.op = 4
  · rw [if_pos e4]; exact Nat.le_succ _
  rw [if_neg e4]
  by_cases e5 : i.op = 5
  · rw [if_pos e5]
    by_cases c : cellOk (m.regs i.a.toNat)
    · rw [if_pos c]; exact Nat.le_succ _
    · rw [if_neg c]; exact Nat.le_succ _
  rw [if_neg e5]
  by_cases e6 : i.op = 6
  · rw [if_pos e6]
    by_cases c : cellOk (m.regs i.a.toNat)
    · rw [if_pos c]; exact Nat.le_succ _
    · rw [if_neg c]; exact Nat.le_succ _
  rw [if_neg e6]
  by_cases e7 : i.op = 7
  · rw [if_pos e7]; simp
  rw [if_neg e7]
  by_cases e8 : i.op = 8
  · rw [if_pos e8]; exact Nat.le_succ _
  rw [if_neg e8]
  by_cases e9 : i.op = 9
  · rw [if_pos e9]; exact Nat.le_succ _
  rw [if_neg e9]
  by_cases e10 : i.op = 10
  · rw [if_pos e10]
    by_cases c : m.regs i.a.toNat = 0
    · rw [if_pos c]; exact Nat.le_succ _
    · rw [if_neg c]; exact Nat.le_succ _
  rw [if_neg e10]
  exact Nat.le_succ _

theorem doneE_fuel (i : InsD) (m : MacS) (x : MacE) : (doneE i m x).fuel = x.fuel := by
  unfold doneE
  split
  · rfl
  · split <;> rfl
/-- What a step leaves to be done. -/
theorem step_res {l : List InsD} {m : MacS} {i : InsD} {k : Nat} {hw en : Int} {res : List Int × Int × Int} (hi : l[m.pc]? = some i) (hok : machineOkB l = true) (hr : macN wordV l (k + 1) m = res) (htl : m.told.length + (k + 1) ≤ 40000) :
    ((doneE i m ⟨k, false, hw, en⟩).over = true → ((doneM i m).told, (doneE i m ⟨k, false, hw, en⟩).how, (doneE i m ⟨k, false, hw, en⟩).en) = res) ∧ ((doneE i m ⟨k, false, hw, en⟩).over = false → macN wordV l (doneE i m ⟨k, false, hw, en⟩).fuel (doneM i m) = res ∧ (doneM i m).pc < l.length ∧ (doneM i m).told.length + (doneE i m ⟨k, false, hw, en⟩).fuel ≤ 40000) := by
  rw [macN_step hi] at hr
  have ht := told_more i m
  rw [doneE_fuel]
  by_cases h11 : i.op = 11
  · rw [if_pos h11] at hr
    have e1 : doneE i m ⟨k, false, hw, en⟩ = ⟨k, true, 0, m.regs i.a.toNat⟩ := by unfold doneE; rw [if_pos h11]
    have e2 : doneM i m = { m with pc := m.pc + 1 } := by unfold doneM; rw [if_pos h11]
    rw [e1, e2]
    exact ⟨fun _ => hr, fun h => by cases h⟩
  · rw [if_neg h11] at hr
    have e2 : doneM i m = (macDo wordV i m).2 := by unfold doneM; rw [if_neg h11]
    by_cases h0 : (macDo wordV i m).1 = 0
    · rw [if_pos h0] at hr
      have e1 : doneE i m ⟨k, false, hw, en⟩ = ⟨k, false, hw, en⟩ := by unfold doneE; rw [if_neg h11, if_pos h0]
      rw [e1]
      refine ⟨fun h => (by cases h), fun _ => ⟨by rw [e2]; exact hr, by rw [e2]; exact macDo_stays hok hi h11, ?_⟩⟩
      show (doneM i m).told.length + k ≤ 40000
      omega
    · rw [if_neg h0] at hr
      have e1 : doneE i m ⟨k, false, hw, en⟩ = ⟨k, true, (macDo wordV i m).1, 0⟩ := by unfold doneE; rw [if_neg h11, if_neg h0]
      rw [e1, e2]
      exact ⟨fun _ => hr, fun h => by cases h⟩

set_option maxRecDepth 100000 in
set_option maxHeartbeats 8000000 in
theorem all_any (W0 : World) (M : Nat) (v : Value) (l : List InsD) (m : MacS) (x : MacE) (w : World) (h : MacIs W0 w M m x) (hov : x.over = false) (hpc : m.pc < l.length) (htl : m.told.length + x.fuel ≤ 40000) (hl : StepsAt W0 v l) (hok : machineOkB l = true) :
    Calls Tryz.prog 39 #[.pointer (some ⟨M, 0, none⟩), v] w fun e w' => GivesAll W0 M (macN wordV l x.fuel m) e w' := by
  obtain ⟨res, HRS⟩ : ∃ r, Hid (macN wordV l x.fuel m = r) := ⟨_, rfl⟩
  rw [HRS.out]
  have HH0 : Hid (MacIs W0 w M m x) := h
  have HP0 : Hid (m.pc < l.length ∧ m.told.length + x.fuel ≤ 40000) := ⟨hpc, htl⟩
  have HV0 : Hid (x.over = false) := hov
  have HOK : Hid (machineOkB l = true) := hok
  have hl1 := (machineOkB_parts hok).1
  have hl9 := (machineOkB_parts hok).2.1
  obtain ⟨a, cap, rfl, hm, hc⟩ := hl
  obtain ⟨n, HN⟩ : ∃ n, Hid (l.length = n) := ⟨_, rfl⟩
  rw [HN.out] at hm hc hl1 hl9 ⊢
  obtain ⟨b, off, rfl, _, hc1⟩ := hc (by omega)
  have HC : Hid (∀ i x, l[i]? = some x → InsAt W0 b (off + i * 5) x) := hc1
  clear h hov hpc htl hok hc hc1
  obtain ⟨c1, HC1⟩ : ∃ c, Hid ((fnC 22).toArray = c) := ⟨_, rfl⟩
  have hs1 : c1.size = 22 := by rw [← HC1.out]; simp [fnC_len]
  have H2 : Hid (c1.all (·.oneCell') = true) := by show c1.all (·.oneCell') = true; rw [← HC1.out]; exact fnC_one 22
  go_enter Tryz.func39, Tryz.ntmps39
  go_wp2_with (first
    | (go_at_call 57; refine (stepFuncs_any _).mono ?_; rintro e w1 ⟨rfl, b1⟩; rw [HC1.out]; have B1 : Hid (Below w.heap.size w w1) := b1; clear b1)
    | refine wpList_store_row rfl 115 _ _ rfl w1.heap.size _ c1 _ rfl rfl (heap_last (by simp)) (by rw [hs1]; exact info_fns) (by rw [hs1]; rfl) H2.out ?_)
  obtain ⟨W2, hW2, HST, hFM⟩ : ∃ W2, W2 = (w1.alloc (.cells zeroF 115)).setRow w1.heap.size c1 ∧ Hid (AllSt W0 W2 M w1.heap.size l res) ∧ w1.heap.size ≠ M := by
    have hB : Below w1.heap.size w1 ((w1.alloc (.cells zeroF 115)).setRow w1.heap.size c1) := below_setRow (Bel.alloc _ _) (Nat.le_refl _) _
    have hlt := HH0.out.lt
    have hsz := B1.out.size
    refine ⟨_, rfl, ⟨m, x, (HH0.out.later B1.out).later hB, ?_, fun h => (by rw [HV0.out] at h; cases h), fun _ => ⟨HRS.out, HP0.out⟩⟩, by omega⟩
    rw [HC1.out]
    exact setRow_heap _ _ _ _ _ _ (heap_last rfl)
  rw [← zeroF_is]
  rw [← hW2]
  clear hW2
  generalize w1.heap.size = FB at HST hFM ⊢
  dsimp only [Act.put]
  go_loopw [7] (fun _ wr => AllSt W0 wr M FB l res) (fun _ wr => fuelOf M wr)
  case atStart => exact HST.out
  case round =>
    obtain ⟨wq, hwq⟩ : ∃ q, q = wr := ⟨_, rfl⟩
    subst hwq
    obtain ⟨m1, x1, hm1, hfb, hyes, hno⟩ := hrel
    have HM1 : Hid (MacIs W0 wq M m1 x1) := hm1
    have HFB : Hid (wq.heap[FB]? = some (.cells c1 115 (0, 0))) := by rw [← HC1.out]; exact hfb
    have HFU : Hid (fuelOf M wq = x1.fuel) := fuelOf_is hm1
    have c60 : wq.cell? ⟨M, 60, none⟩ = some (.bool x1.over) := by
      obtain ⟨rv, tv, h⟩ := hm1
      exact h.cells.c60
    have HY : Hid (x1.over = true → (m1.told, x1.how, x1.en) = res) := hyes
    have HX : Hid (x1.over = false → macN wordV l x1.fuel m1 = res ∧ m1.pc < l.length ∧ m1.told.length + x1.fuel ≤ 40000) := hno
    clear hm1 hfb hyes hno
    obtain ⟨fu, ov, hw, en⟩ := x1
    dsimp only at c60 HY HX HFU
    cases ov with
    | true =>
      go_wp2_with fail
      go_end0
      exact ⟨⟨_, rfl⟩, m1, _, HM1.out, HY.out trivial⟩
    | false =>
      obtain ⟨hres, hpc, htl⟩ := HX.out rfl
      have HRES : Hid (macN wordV l fu m1 = res) := hres
      have HTL : Hid (m1.told.length + fu ≤ 40000) := htl
      have HPC : Hid (m1.pc < l.length) := hpc
      clear hres htl hpc HX HY
      cases fu with
      | zero =>
        go_wp2_with fail
        refine (mburn_none (W0 := W0) _ HM1.out rfl).mono ?_
        rintro e w2 ⟨rfl, hw2⟩
        replace hw2 := hw2.symm
        subst hw2
        go_wp2_with fail
        refine (mstop_any (W0 := W0) 1 0 _ HM1.out).mono ?_
        rintro e w3 ⟨⟨r3, rfl⟩, h3, f3⟩
        have H3 : Hid (MacIs W0 w3 M m1 ⟨0, true, 1, 0⟩) := h3
        clear h3 f3
        go_wp2_with fail
        go_end0
        exact ⟨⟨_, rfl⟩, m1, _, H3.out, HRES.out⟩
      | succ k =>
        go_wp2_with fail
        refine (mburn_one (W0 := W0) _ HM1.out rfl (by have := HTL.out; omega)).mono ?_
        rintro e w2 ⟨rfl, h2, f2⟩
        have H2m : Hid (MacIs W0 w2 M m1 ⟨k, false, hw, en⟩) := h2
        have HF2 : Hid (w2.heap[FB]? = some (.cells c1 115 (0, 0))) := f2.box HFB.out hFM hFM (by decide)
        clear f2
        obtain ⟨i, HI⟩ : ∃ i, Hid (l[m1.pc]? = some i) := ⟨l[m1.pc]'HPC.out, List.getElem?_eq_getElem HPC.out⟩
        have hlt2 := h2.lt
        obtain ⟨rv, tv, h2⟩ := h2
        have c11 := h2.cells.c11
        have f11 := h2.frozen 11
        obtain ⟨d0, d1, d2, d3, d4⟩ := (HC.out m1.pc i HI.out).keep (Keeps.of_below h2.below 0) (Nat.zero_le _)
        clear h2
        obtain ⟨pc, HPN⟩ : ∃ p, Hid (m1.pc = p) := ⟨_, rfl⟩
        have hpn : pc < n := by have := HPC.out; rw [HPN.out, HN.out] at this; exact this
        rw [HPN.out] at c11 d0 d1 d2 d3 d4
        obtain ⟨i0, i1, i2, i3, i4⟩ := i
        dsimp only at d0 d1 d2 d3 d4
        go_wp2_with fail
        have hokx := (machineOkB_parts HOK.out).2.2.1 _ (List.mem_of_getElem? HI.out)
        have HOKX : Hid (stepOkB ⟨i0, i1, i2, i3, i4⟩ l.length = true) := hokx
        obtain ⟨o, rfl, ho1, ho2⟩ : ∃ o : Nat, i0 = (o : Int) ∧ 1 ≤ o ∧ o ≤ 21 := by
          have := (stepOkB_parts hokx).1
          dsimp only at this
          exact ⟨i0.toNat, by omega, by omega, by omega⟩
        clear hokx
        obtain ⟨w3, hw3⟩ : ∃ W, (w2.setCell ⟨M, 11, none⟩ (.int .i64 ((pc : Int) + 1))).alloc (.cells #[.int .i64 (o : Int), .int .i64 i1, .int .i64 i2, .int .i64 i3, .int .i64 i4] 36) = W := ⟨_, rfl⟩
        obtain ⟨B, HBB⟩ : ∃ B, Hid (w2.heap.size = B) := ⟨_, rfl⟩
        have hMB : B ≠ M := by rw [← HBB.out]; omega
        have HBX : Hid (w3.heap[B]? = some (.cells #[.int .i64 (o : Int), .int .i64 i1, .int .i64 i2, .int .i64 i3, .int .i64 i4] 36 (0, 0))) := by
          show w3.heap[B]? = _
          rw [← hw3, ← HBB.out]
          exact heap_last (by simp)
        have HF3 : Hid (w3.heap[FB]? = some (.cells c1 115 (0, 0))) := by
          show w3.heap[FB]? = _
          rw [← hw3, Below.heap_alloc _ _ _ (by simp; exact (Array.getElem?_eq_some_iff.1 HF2.out).1), heap_setCell_other _ _ _ _ hFM]
          exact HF2.out
        have H3m : Hid (MacIs W0 w3 M { m1 with pc := m1.pc + 1 } ⟨k, false, hw, en⟩) := by
          obtain ⟨rv, tv, h2⟩ := H2m.out
          refine ⟨rv, tv, ?_⟩
          have h3 := (h2.setPc (m1.pc + 1)).later (Bel.alloc _ (.cells #[.int .i64 (o : Int), .int .i64 i1, .int .i64 i2, .int .i64 i3, .int .i64 i4] 36))
          have e : ((m1.pc + 1 : Nat) : Int) = (pc : Int) + 1 := by rw [HPN.out]; rfl
          rw [e, hw3] at h3
          exact h3
        rw [hw3, HBB.out]
        clear hw3 c11 f11 d0 d1 d2 d3 d4 hlt2
        have x0 : w3.cell? ⟨B, 0, none⟩ = some (.int .i64 (o : Int)) := by simp [World.cell?, HBX.out]
        have x1 : w3.cell? ⟨B, 1, none⟩ = some (.int .i64 i1) := by simp [World.cell?, HBX.out]
        have x2 : w3.cell? ⟨B, 2, none⟩ = some (.int .i64 i2) := by simp [World.cell?, HBX.out]
        have x3 : w3.cell? ⟨B, 3, none⟩ = some (.int .i64 i3) := by simp [World.cell?, HBX.out]
        have x4 : w3.cell? ⟨B, 4, none⟩ = some (.int .i64 i4) := by simp [World.cell?, HBX.out]
        have fcell : ∀ W : World, W.heap[FB]? = some (.cells c1 115 (0, 0)) → W.cell? ⟨FB, o, none⟩ = some (.func (.func (doF o)) #[] #[]) := by
          intro W hW
          have e := fnC_at 22 (i := o) (by omega)
          have e2 : fnAt 22 o = .func (.func (doF o)) #[] #[] := by
            unfold fnAt
            rw [if_neg (by omega), if_pos (by omega)]
          rw [e2] at e
          simp only [World.cell?]
          rw [hW, ← HC1.out]
          simpa using e
        have HFC : Hid (∀ W : World, W.heap[FB]? = some (.cells c1 115 (0, 0)) → W.cell? ⟨FB, o, none⟩ = some (.func (.func (doF o)) #[] #[])) := fcell
        have xf := fcell w3 HF3.out
        have HEN : Hid (Enters Tryz.prog (doF o)) := enters_do ho1 ho2
        have HDO := mdo_any (W0 := W0) (M := M) (x := ⟨k, false, hw, en⟩) ⟨(o : Int), i1, i2, i3, i4⟩ l.length HOKX.out m1 (by have := HTL.out; omega) w3.drew (H3m.out.later ((Below.refl _ _).drew))
        have ho22 : (o : Int) < 22 := by omega
        clear fcell
        obtain ⟨F, HFF⟩ : ∃ F, Hid (doF o = F) := ⟨_, rfl⟩
        rw [show ((⟨(o : Int), i1, i2, i3, i4⟩ : InsD).op.toNat) = o by simp] at HDO
        dsimp only at HDO
        rw [HFF.out] at HDO xf HEN HFC
        have HDOH : Hid (Calls Tryz.prog F #[.pointer (some ⟨M, 0, none⟩), .agg #[.int .i64 (o : Int), .int .i64 i1, .int .i64 i2, .int .i64 i3, .int .i64 i4]] w3.drew fun e w' => (∃ v, e = .returned v) ∧ MacTo W0 M w3.drew (doneM ⟨(o : Int), i1, i2, i3, i4⟩ m1) (doneE ⟨(o : Int), i1, i2, i3, i4⟩ m1 ⟨k, false, hw, en⟩) w') := HDO
        clear HDO
        refine wp_noThrow (wp_region_held_drew (S := fun w' => w'.cell? ⟨B, 0, none⟩ = some (.int .i64 (o : Int)) ∧ w'.cell? ⟨B, 1, none⟩ = some (.int .i64 i1) ∧ w'.cell? ⟨B, 2, none⟩ = some (.int .i64 i2) ∧ w'.cell? ⟨B, 3, none⟩ = some (.int .i64 i3) ∧ w'.cell? ⟨B, 4, none⟩ = some (.int .i64 i4) ∧ w'.cell? ⟨FB, o, none⟩ = some (.func (.func F) #[] #[])) (by kernel_rfl) ⟨x0, x1, x2, x3, x4, xf⟩ (fun hHeld => ?_))
        refine wpAnyH_take (i := 0) (oi := { dst := some 33, op := Go.Op.fieldAddr 36 (Go.Operand.tmp 5) 0, type := 0, pos := "l14_machine.go:157", after := #[], guard := none }) (v := ?_) rfl (by kernel_rfl) (by kernel_rfl) (by kernel_rfl) (fun _ _ _ h => h) (Or.inl ⟨by rfl, ?_⟩) (by assumption) ?_
        rotate_left
        · intro w hSw
          (try dsimp only at hSw)
          go_simp
          (try with_reducible rfl)
        try simp only [Act.put, List.setIfInBounds_toArray, List.set_cons_zero, List.set_cons_succ]
        refine wpAnyH_take (i := 1) (oi := { dst := some 34, op := Go.Op.load 3 (Go.Operand.tmp 33), type := 3, pos := "l14_machine.go:157", after := #[{ on := 0, ground := Go.Ground.data }], guard := none }) (v := ?_) rfl (by kernel_rfl) (by kernel_rfl) (by kernel_rfl) (fun _ _ _ h => h) (Or.inl ⟨by rfl, ?_⟩) (by assumption) ?_
        rotate_left
        · intro w hSw
          (try dsimp only at hSw)
          go_simp
          (try with_reducible rfl)
        try simp only [Act.put, List.setIfInBounds_toArray, List.set_cons_zero, List.set_cons_succ]
        refine wpAnyH_take (i := 2) (oi := { dst := some 35, op := Go.Op.indexAddr 115 (Go.Operand.tmp 4) (Go.Operand.tmp 34), type := 0, pos := "l14_machine.go:157", after := #[{ on := 1, ground := Go.Ground.data }], guard := none }) (v := ?_) rfl (by kernel_rfl) (by kernel_rfl) (by kernel_rfl) (fun _ _ _ h => h) (Or.inl ⟨by rfl, ?_⟩) (by assumption) ?_
        rotate_left
        · intro w hSw
          (try dsimp only at hSw)
          go_simp
          (try with_reducible rfl)
        try simp only [Act.put, List.setIfInBounds_toArray, List.set_cons_zero, List.set_cons_succ]
        refine wpAnyH_take (i := 3) (oi := { dst := some 36, op := Go.Op.load 114 (Go.Operand.tmp 35), type := 114, pos := "l14_machine.go:157", after := #[{ on := 2, ground := Go.Ground.data }], guard := none }) (v := ?_) rfl (by kernel_rfl) (by kernel_rfl) (by kernel_rfl) (fun _ _ _ h => h) (Or.inl ⟨by rfl, ?_⟩) (by assumption) ?_
        rotate_left
        · intro w hSw
          (try dsimp only at hSw)
          go_simp
          (try with_reducible rfl)
        try simp only [Act.put, List.setIfInBounds_toArray, List.set_cons_zero, List.set_cons_succ]
        refine wpAnyH_take (i := 4) (oi := { dst := some 37, op := Go.Op.move (Go.Operand.tmp 0), type := 72, pos := "l14_machine.go:157", after := #[], guard := none }) (v := ?_) rfl (by kernel_rfl) (by kernel_rfl) (by kernel_rfl) (fun _ _ _ h => h) (Or.inl ⟨by rfl, ?_⟩) (by assumption) ?_
        rotate_left
        · intro w hSw
          (try dsimp only at hSw)
          go_simp
          (try with_reducible rfl)
        try simp only [Act.put, List.setIfInBounds_toArray, List.set_cons_zero, List.set_cons_succ]
        refine wpAnyH_take (i := 5) (oi := { dst := some 38, op := Go.Op.load 36 (Go.Operand.tmp 5), type := 36, pos := "l14_machine.go:157", after := #[], guard := none }) (v := ?_) rfl (by kernel_rfl) (by kernel_rfl) (by kernel_rfl) (fun _ _ _ h => h) (Or.inl ⟨by rfl, ?_⟩) (by assumption) ?_
        rotate_left
        · intro w hSw
          (try dsimp only at hSw)
          go_simp
          (try with_reducible rfl)
        try simp only [Act.put, List.setIfInBounds_toArray, List.set_cons_zero, List.set_cons_succ]
        refine ckAnyH_oneK (i := 6) (o := { dst := some 39, op := Go.Op.call { callee := Go.Callee.value (Go.Operand.tmp 36), args := #[Go.Operand.tmp 37, Go.Operand.tmp 38], argTypes := #[72, 36] }, type := 0, pos := "l14_machine.go:157", after := #[{ on := 3, ground := Go.Ground.data }, { on := 4, ground := Go.Ground.data }, { on := 5, ground := Go.Ground.data }], guard := none }) rfl rfl (by kernel_rfl) (fun K9 hK9 => ?_)
        refine wp_call_of (f := F) (args := #[.pointer (some ⟨M, 0, none⟩), .agg #[.int .i64 (o : Int), .int .i64 i1, .int .i64 i2, .int .i64 i3, .int .i64 i4]]) (runCallV rfl (by kernel_rfl) (by kernel_rfl) (by kernel_rfl) HEN.out _) HDOH.out ?_
        rintro e w4 ⟨⟨r4, rfl⟩, h4, f4⟩
        have hb4 := f4.box (B := B) HBX.out hMB hMB (by decide)
        have hf4 := f4.box (B := FB) HF3.out hFM hFM (by decide)
        have HM4 : Hid (MacIs W0 w4 M (doneM ⟨(o : Int), i1, i2, i3, i4⟩ m1) (doneE ⟨(o : Int), i1, i2, i3, i4⟩ m1 ⟨k, false, hw, en⟩)) := h4
        have HF4 : Hid (w4.heap[FB]? = some (.cells c1 115 (0, 0))) := hf4
        refine ⟨_, rfl, hK9 _ _ ⟨⟨by simp [World.cell?, hb4], by simp [World.cell?, hb4], by simp [World.cell?, hb4], by simp [World.cell?, hb4], by simp [World.cell?, hb4], HFC.out w4 hf4⟩, ?_⟩⟩
        clear hK9 hb4 hf4 h4 f4 hHeld
        refine wpAnyH_done (by kernel_rfl) ?_ _
        simp only [noThrow, Act.put, List.setIfInBounds_toArray, List.set_cons_succ, List.set_cons_zero]
        show Exit.inBlock _ (Exit.then _ _) Exit.normal _ _
        simp only [Exit.inBlock, Exit.then]
        have HSR := step_res (hw := hw) (en := en) HI.out HOK.out HRES.out HTL.out
        have HFQ : Hid (fuelOf M w4 = k) := (fuelOf_is HM4.out).trans (doneE_fuel _ _ _)
        have HAL : Hid (AllSt W0 w4 M FB l res) := ⟨_, _, HM4.out, by rw [HC1.out]; exact HF4.out, HSR.1, HSR.2⟩
        clear HSR
        go_roundw
        case rel => first | exact HAL.out | ((repeat apply Exists.intro); exact ⟨HAL.out, rfl⟩)
        case measure =>
          rw [HFQ.out, HFU.out]
          omega
end Go.Proofs.YtjcocpdicogecaaGreatDoor

namespace Go.Proofs.YtjcocpdicogecaaGreatDoor
open Go.ChangeShapes Go.WideShapes Go.ChangeAt Go.RowKit Go.Shelf
set_option linter.unusedVariables false

set_option maxRecDepth 100000 in
set_option maxHeartbeats 2000000 in
theorem mnewWorld_any (ra : Option Addr) (rn rcap : Nat) (fuel : Int) (w : World) :
    Calls Tryz.prog 38 #[.slice ra rn rcap, .int .i64 fuel] w fun e w' => ∃ g, e = .returned (.agg #[.slice ra rn rcap, .int .i64 fuel, .int .i64 0, .int .i64 0, .int .i64 0, .int .i64 0, .int .i64 0, .int .i64 0, .int .i64 0, .int .i64 0, .slice (some ⟨g, 0, none⟩) 0 0]) ∧ w.heap.size ≤ g ∧ w'.heap[g]? = some (.cells #[] 3 (0, 0)) ∧ Below w.heap.size w w' := by
  go_enter Tryz.func38, Tryz.ntmps38
  go_wp2
  refine bodyPost_ret (v := .agg #[.slice ra rn rcap, .int .i64 fuel, .int .i64 0, .int .i64 0, .int .i64 0, .int .i64 0, .int .i64 0, .int .i64 0, .int .i64 0, .int .i64 0, .slice (some ⟨w.heap.size + 1, 0, none⟩) 0 0]) (row_results rfl rfl ((Below.heap_alloc _ _ _ (by simp)).trans (World.alloc_heap_new w _)) Tryz.underlying75 rfl (by kernel_rfl)) rfl ?_
  exact ⟨w.heap.size + 1, rfl, by omega, heap_last (by simp), by repeat (first | exact Below.refl _ _ | apply Below.drew | refine Below.alloc ?_ (by simp <;> omega) _ | refine Below.setCell ?_ (by simp <;> omega) _)⟩

/-- The cells of a machine that begins. -/
def macC (rv : Value) (fuel : Int) (tv : Value) : List Value :=
  [rv, .int .i64 fuel, .int .i64 0, .int .i64 0, .int .i64 0, .int .i64 0, .int .i64 0, .int .i64 0, .int .i64 0, .int .i64 0, tv, .int .i64 0] ++ ((List.range 48).map (fun _ => Value.int .i64 0) ++ [.bool false, .int .i64 0, .int .i64 0])
theorem macC_cell (rv : Value) (fuel : Int) (tv : Value) {i : Nat} (h : i < 8) : (macC rv fuel tv)[2 + i]? = some (.int .i64 0) := by
  unfold macC
  rw [List.getElem?_append_left (by simp; omega)]
  have : i = 0 ∨ i = 1 ∨ i = 2 ∨ i = 3 ∨ i = 4 ∨ i = 5 ∨ i = 6 ∨ i = 7 := by omega
  rcases this with rfl | rfl | rfl | rfl | rfl | rfl | rfl | rfl <;> rfl
theorem macC_mid (rv : Value) (fuel : Int) (tv : Value) {i : Nat} (h : i < 48) : (macC rv fuel tv)[12 + i]? = some (.int .i64 0) := by
  unfold macC
  rw [List.getElem?_append_right (by simp), List.getElem?_append_left (by simp; omega)]
  simp [h]
theorem macC_end (rv : Value) (fuel : Int) (tv : Value) : (macC rv fuel tv)[60]? = some (.bool false) ∧ (macC rv fuel tv)[61]? = some (.int .i64 0) ∧ (macC rv fuel tv)[62]? = some (.int .i64 0) := ⟨rfl, rfl, rfl⟩
theorem mac_begins {w W : World} {g : Nat} {rv : Value} {fuel : Int} {reads : List Int} (fn : Nat) (hfn : (fn : Int) = fuel) (hg : W.heap[g]? = some (.cells #[] 3 (0, 0))) (hgl : w.heap.size ≤ g) (hb : Below w.heap.size w W) (hr : ReadsAt w rv reads) :
    MacIs w (W.alloc (.cells (macC rv fuel (.slice (some ⟨g, 0, none⟩) 0 0)).toArray 79)) W.heap.size (macStart reads) ⟨fn, false, 0, 0⟩ := by
  have hR := World.alloc_heap_new W (.cells (macC rv fuel (.slice (some ⟨g, 0, none⟩) 0 0)).toArray 79)
  have hc : ∀ o v, (macC rv fuel (.slice (some ⟨g, 0, none⟩) 0 0))[o]? = some v → (W.alloc (.cells (macC rv fuel (.slice (some ⟨g, 0, none⟩) 0 0)).toArray 79)).cell? ⟨W.heap.size, o, none⟩ = some v := fun o v h => by
    simp only [World.cell?]; rw [hR]; simpa using h
  obtain ⟨e60, e61, e62⟩ := macC_end rv fuel (.slice (some ⟨g, 0, none⟩) 0 0)
  refine ⟨rv, .slice (some ⟨g, 0, none⟩) 0 0, ⟨⟨_, hR⟩, hc 0 _ rfl, hc 1 _ (by rw [← hfn]; rfl), fun i hi => hc _ _ (macC_cell _ _ _ hi), hc 10 _ rfl, hc 11 _ rfl, fun i hi => hc _ _ (macC_mid _ _ _ (by omega)), fun i hi => ?_, hc 60 _ e60, hc 61 _ e61, hc 62 _ e62⟩, hr, ?_, hb.alloc hb.size _, hb.size⟩
  · have e := hc (12 + (8 + i)) _ (macC_mid rv fuel (.slice (some ⟨g, 0, none⟩) 0 0) (i := 8 + i) (by omega))
    rw [show 12 + (8 + i) = 20 + i by omega] at e
    exact e
  · exact ⟨rfl, .inr ⟨g, 0, #[], rfl, hgl, (Below.heap_alloc W _ g (Array.getElem?_eq_some_iff.1 hg).1).trans hg, Nat.le_refl _, Nat.zero_le _, rfl, rfl⟩⟩
theorem run_buildMac {op : Oper} {a : Act} {x : Operand} (ho : op.op = .build 79 #[(0, x)]) {ra : Option Addr} {rn rcap g : Nat} {fuel : Int} (hx : a.eval x = .agg #[.slice ra rn rcap, .int .i64 fuel, .int .i64 0, .int .i64 0, .int .i64 0, .int .i64 0, .int .i64 0, .int .i64 0, .int .i64 0, .int .i64 0, .slice (some ⟨g, 0, none⟩) 0 0]) (w : World) : (execOp a.eval op).run Tryz.prog w = .ok (.value (.agg (macC (.slice ra rn rcap) fuel (.slice (some ⟨g, 0, none⟩) 0 0)).toArray)) w := by
  have h : (Instr.build 79 #[(0, .agg #[.slice ra rn rcap, .int .i64 fuel, .int .i64 0, .int .i64 0, .int .i64 0, .int .i64 0, .int .i64 0, .int .i64 0, .int .i64 0, .int .i64 0, .slice (some ⟨g, 0, none⟩) 0 0])]).run Tryz.prog w = .ok (.agg (macC (.slice ra rn rcap) fuel (.slice (some ⟨g, 0, none⟩) 0 0)).toArray) w := by kernel_rfl
  simp [execOp, ho, hx, h]

/-- What is told, in new memory. -/
def GivesTld (w : World) (p : List Int × Int × Int) (e : Ending) (w' : World) : Prop := ∃ v, e = .returned (.tuple #[v, .int .i64 p.2.1, .int .i64 p.2.2]) ∧ OwnInts w' w.heap.size v p.1 ∧ Below w.heap.size w w'

set_option maxRecDepth 100000 in
set_option maxHeartbeats 4000000 in
theorem impl_runMachine (v rv : Value) (l : List InsD) (reads : List Int) (fuel : Int) (w : World) (hv : StepsAt w v l) (ho : OpsIn l) (hr : ReadsAt w rv reads) (hT : FTab w) :
    Calls Tryz.prog 23 #[v, rv, .int .i64 fuel] w fun e w' => GivesTld w (macOf wordV l reads fuel) e w' := by
  have HL : Hid (StepsAt w v l) := hv
  obtain ⟨a, cap, rfl, _, _⟩ := hv
  obtain ⟨n, HN⟩ : ∃ n, Hid (l.length = n) := ⟨_, rfl⟩
  have HRD : Hid (ReadsAt w rv reads) := hr
  obtain ⟨ra, rcap, rfl, _, _, _⟩ := hr
  obtain ⟨rn, HRN⟩ : ∃ n, Hid (reads.length = n) := ⟨_, rfl⟩
  rw [HRN.out] at HRD ⊢
  rw [HN.out] at HL ⊢
  have HO : Hid (OpsIn l) := ho
  have HT : Hid (FTab w) := hT
  clear ho hT
  obtain ⟨R, HR⟩ : ∃ R, Hid (machineOkB l = R) := ⟨_, rfl⟩
  go_enter Tryz.func23, Tryz.ntmps23
  go_wp2_with fail
  refine (impl_machineOk _ l _ HL.out HO.out HT.out).mono ?_
  rintro e w1 ⟨rfl, b1⟩
  rw [HR.out]
  have B1 : Hid (Below w.heap.size w w1) := b1
  clear b1
  cases R with
  | false =>
    have HE : Hid (macOf wordV l reads fuel = ([], 3, 0)) := if_neg (fun h => by rw [HR.out] at h; exact absurd h.1 (by decide))
    go_wp2_with fail
    refine bodyPost_ret (v := .tuple #[.slice (some ⟨w1.heap.size, 0, none⟩) 0 0, .int .i64 3, .int .i64 0]) (by simp [results, Tryz.results23, go_sem]) rfl ?_
    rw [HE.out]
    exact ⟨_, rfl, ownInts_nil rfl B1.out.size, Bel.after B1.out (Bel.alloc _ _)⟩
  | true =>
    by_cases hf : fuel < 0
    · have HE : Hid (macOf wordV l reads fuel = ([], 3, 0)) := if_neg (fun h => by omega)
      go_wp2_with fail
      refine bodyPost_ret (v := .tuple #[.slice (some ⟨w1.heap.size, 0, none⟩) 0 0, .int .i64 3, .int .i64 0]) (by simp [results, Tryz.results23, go_sem]) rfl ?_
      rw [HE.out]
      exact ⟨_, rfl, ownInts_nil rfl B1.out.size, Bel.after B1.out (Bel.alloc _ _)⟩
    · obtain ⟨fq, HFQ⟩ : ∃ fq : Nat, Hid ((min fuel 40000).toNat = fq) := ⟨_, rfl⟩
      have HE : Hid (macOf wordV l reads fuel = macN wordV l fq (macStart reads)) := by
        show _ = _
        rw [← HFQ.out]
        exact if_pos ⟨HR.out, by omega⟩
      have hfq : fq ≤ 40000 := by have := HFQ.out; omega
      by_cases hfu : fuel ≤ 40000
      · have HFE : Hid ((fq : Int) = fuel) := by have := HFQ.out; show (fq : Int) = fuel; omega
        go_wp2_with (first
          | (go_at_call 38; refine (mnewWorld_any ra rn rcap fuel _).mono ?_; rintro e w2 ⟨g, rfl, hg, hx, b2⟩; have HX : Hid (w2.heap[g]? = some (.cells #[] 3 (0, 0))) := hx; have HG : Hid (w1.heap.size ≤ g) := hg; have B2 : Hid (Below w1.heap.size w1 w2) := b2; clear hg hx b2)
          | refine wpList_plain rfl (fun _ hK => wp_value (run_buildMac rfl rfl _) (hK _ _ ?_))
          | fail)
        have hbeg := mac_begins (w := w1) (W := w2) (rv := .slice ra rn rcap) fq HFE.out HX.out HG.out B2.out (HRD.out.keep B1.out)
        generalize w2.alloc (.cells (macC (.slice ra rn rcap) fuel (.slice (some ⟨g, 0, none⟩) 0 0)).toArray 79) = w3 at hbeg ⊢
        obtain ⟨mv, hmv⟩ : ∃ v, Value.agg (macC (.slice ra rn rcap) fuel (.slice (some ⟨g, 0, none⟩) 0 0)).toArray = v := ⟨_, rfl⟩
        rw [hmv]
        clear hmv
        generalize w2.heap.size = M at hbeg ⊢
        have HBG : Hid (MacIs w1 w3 M (macStart reads) ⟨fq, false, 0, 0⟩) := hbeg
        clear hbeg
        refine (all_any w1 M (.slice a n cap) l (macStart reads) ⟨fq, false, 0, 0⟩ _ HBG.out rfl (by have := (machineOkB_parts HR.out).1; exact this) (by simp only [macStart]; simp; exact hfq) (by rw [← HN.out] at HL ⊢; exact places_keep HL.out (Keeps.of_below B1.out 0)) HR.out).mono ?_
        rintro e w4 ⟨⟨r4, rfl⟩, m4, x4, h4, hr4⟩
        have HR4 : Hid ((m4.told, x4.how, x4.en) = macN wordV l fq (macStart reads)) := hr4
        obtain ⟨rv4, tv4, h5⟩ := h4
        have k10 := h5.cells.c10
        have k61 := h5.cells.c61
        have k62 := h5.cells.c62
        have HT4 : Hid (OwnInts w4 w1.heap.size tv4 m4.told) := h5.told
        have HB4 : Hid (Below w1.heap.size w1 w4) := h5.below
        clear h5 hr4 HBG
        obtain ⟨fu4, ov4, hw4, en4⟩ := x4
        dsimp only at k61 k62 HR4
        go_wp2_with fail
        go_region_held3 (fun w' => w'.cell? ⟨M, 10, none⟩ = some tv4 ∧ w'.cell? ⟨M, 61, none⟩ = some (.int .i64 hw4) ∧ w'.cell? ⟨M, 62, none⟩ = some (.int .i64 en4)) (go_keep) (fail)
        simp only [Exit.then]
        go_at_K
        go_wp2_with fail
        refine bodyPost_ret (v := .tuple #[tv4, .int .i64 hw4, .int .i64 en4]) (by simp [results, Tryz.results23, go_sem]) rfl ?_
        rw [HE.out, ← HR4.out]
        first
          | exact ⟨tv4, rfl, (HT4.out.low B1.out.size).keep ((Below.refl _ _).drew), (Bel.after B1.out HB4.out).drew⟩
          | exact ⟨tv4, rfl, HT4.out.low B1.out.size, Bel.after B1.out HB4.out⟩
      · have HFE : Hid ((fq : Int) = 40000) := by have := HFQ.out; show (fq : Int) = 40000; omega
        go_wp2_with (first
          | (go_at_call 38; refine (mnewWorld_any ra rn rcap 40000 _).mono ?_; rintro e w2 ⟨g, rfl, hg, hx, b2⟩; have HX : Hid (w2.heap[g]? = some (.cells #[] 3 (0, 0))) := hx; have HG : Hid (w1.heap.size ≤ g) := hg; have B2 : Hid (Below w1.heap.size w1 w2) := b2; clear hg hx b2)
          | refine wpList_plain rfl (fun _ hK => wp_value (run_buildMac rfl rfl _) (hK _ _ ?_))
          | fail)
        have hbeg := mac_begins (w := w1) (W := w2) (rv := .slice ra rn rcap) fq HFE.out HX.out HG.out B2.out (HRD.out.keep B1.out)
        generalize w2.alloc (.cells (macC (.slice ra rn rcap) 40000 (.slice (some ⟨g, 0, none⟩) 0 0)).toArray 79) = w3 at hbeg ⊢
        obtain ⟨mv, hmv⟩ : ∃ v, Value.agg (macC (.slice ra rn rcap) 40000 (.slice (some ⟨g, 0, none⟩) 0 0)).toArray = v := ⟨_, rfl⟩
        rw [hmv]
        clear hmv
        generalize w2.heap.size = M at hbeg ⊢
        have HBG : Hid (MacIs w1 w3 M (macStart reads) ⟨fq, false, 0, 0⟩) := hbeg
        clear hbeg
        refine (all_any w1 M (.slice a n cap) l (macStart reads) ⟨fq, false, 0, 0⟩ _ HBG.out rfl (by have := (machineOkB_parts HR.out).1; exact this) (by simp only [macStart]; simp; exact hfq) (by rw [← HN.out] at HL ⊢; exact places_keep HL.out (Keeps.of_below B1.out 0)) HR.out).mono ?_
        rintro e w4 ⟨⟨r4, rfl⟩, m4, x4, h4, hr4⟩
        have HR4 : Hid ((m4.told, x4.how, x4.en) = macN wordV l fq (macStart reads)) := hr4
        obtain ⟨rv4, tv4, h5⟩ := h4
        have k10 := h5.cells.c10
        have k61 := h5.cells.c61
        have k62 := h5.cells.c62
        have HT4 : Hid (OwnInts w4 w1.heap.size tv4 m4.told) := h5.told
        have HB4 : Hid (Below w1.heap.size w1 w4) := h5.below
        clear h5 hr4 HBG
        obtain ⟨fu4, ov4, hw4, en4⟩ := x4
        dsimp only at k61 k62 HR4
        go_wp2_with fail
        go_region_held3 (fun w' => w'.cell? ⟨M, 10, none⟩ = some tv4 ∧ w'.cell? ⟨M, 61, none⟩ = some (.int .i64 hw4) ∧ w'.cell? ⟨M, 62, none⟩ = some (.int .i64 en4)) (go_keep) (fail)
        simp only [Exit.then]
        go_at_K
        go_wp2_with fail
        refine bodyPost_ret (v := .tuple #[tv4, .int .i64 hw4, .int .i64 en4]) (by simp [results, Tryz.results23, go_sem]) rfl ?_
        rw [HE.out, ← HR4.out]
        first
          | exact ⟨tv4, rfl, (HT4.out.low B1.out.size).keep ((Below.refl _ _).drew), (Bel.after B1.out HB4.out).drew⟩
          | exact ⟨tv4, rfl, HT4.out.low B1.out.size, Bel.after B1.out HB4.out⟩
end Go.Proofs.YtjcocpdicogecaaGreatDoor
