/- For every op, a and b the program's Word and the model's Word both return one and the same number, which is told by a plain function 'wordV'; neither writes anything that was there. What runs in memory want, for a seat without programs. A run of the model in memory: its struct, and the lists that it has. The model's machine in memory. A machine of the program in memory: its struct, what it reads, what was told. -/
import Derived.Test.YtjcocpdicogecaaGreatDoorRows
import Derived.WalkKit
import Derived.ProofKit
import Derived.OpenShut
import Derived.Laws.EntriesVeiled
import Derived.Laws.Shifts
import Derived.Below
import Derived.Test.YtjcocpdicogecaaGreatDoorKDef
import Derived.Test.YtjcocpdicogecaaGreatDoorKOwn
import Derived.Deep.RegionHeld3
import Derived.Maps.AppendAt
import Derived.Shelf.Abstract
import Derived.Shelf.RegionOpen
namespace Go.Proofs.YtjcocpdicogecaaGreatDoor
open Go.ChangeShapes Go.WideShapes Go.ChangeAt Go.RowKit
set_option linter.unusedVariables false

theorem ret_int {k : IntKind} {a b : Int} (h : a = b) : Ending.returned (.int k a) = .returned (.int k b) := by rw [h]

theorem and63 (b : Int) : bits .and .i64 b 63 = b % 64 := by
  have h : (BitVec.ofInt 64 b &&& BitVec.ofInt 64 63).toNat = (BitVec.ofInt 64 b).toNat % 64 := by
    rw [BitVec.toNat_and]
    exact Nat.and_two_pow_sub_one_eq_mod _ 6
  have h2 : (BitVec.ofInt 64 b).toNat = (b % 18446744073709551616).toNat := by
    rw [BitVec.toNat_ofInt]; rfl
  show IntKind.i64.wrap ((BitVec.ofInt 64 b &&& BitVec.ofInt 64 63).toNat : Int) = _
  rw [h, h2]
  simp [IntKind.wrap, IntKind.bits, IntKind.signed]
  omega

theorem and63_nonneg (b : Int) : 0 ≤ bits .and .i64 b 63 := by rw [and63]; omega

theorem min63 (b : Int) : min (bits .and .i64 b 63).toNat 64 = (b % 64).toNat := by rw [and63]; omega

/-- What Word answers. -/
def wordV (op a b : Int) : Int :=
  if op = 1 then (wrap64 (a + b))
  else if op = 2 then (wrap64 (a - b))
  else if op = 3 then (wrap64 (a * b))
  else if op = 4 then (bits .and .i64 a b)
  else if op = 5 then (bits .or .i64 a b)
  else if op = 6 then (bits .xor .i64 a b)
  else if op = 7 then (if a < b then 1 else 0)
  else if op = 8 then (if a = b then 1 else 0)
  else if op = 9 then (wrap64 (a * 2 ^ (b % 64).toNat))
  else if op = 10 then (a / 2 ^ (b % 64).toNat)
  else 0

theorem wordV_1 (a b : Int) : wordV 1 a b = (wrap64 (a + b)) := by simp [wordV]
theorem wordV_2 (a b : Int) : wordV 2 a b = (wrap64 (a - b)) := by simp [wordV]
theorem wordV_3 (a b : Int) : wordV 3 a b = (wrap64 (a * b)) := by simp [wordV]
theorem wordV_4 (a b : Int) : wordV 4 a b = (bits .and .i64 a b) := by simp [wordV]
theorem wordV_5 (a b : Int) : wordV 5 a b = (bits .or .i64 a b) := by simp [wordV]
theorem wordV_6 (a b : Int) : wordV 6 a b = (bits .xor .i64 a b) := by simp [wordV]
theorem wordV_7 (a b : Int) : wordV 7 a b = (if a < b then 1 else 0) := by simp [wordV]
theorem wordV_8 (a b : Int) : wordV 8 a b = (if a = b then 1 else 0) := by simp [wordV]
theorem wordV_9 (a b : Int) : wordV 9 a b = (wrap64 (a * 2 ^ (b % 64).toNat)) := by simp [wordV]
theorem wordV_10 (a b : Int) : wordV 10 a b = (a / 2 ^ (b % 64).toNat) := by simp [wordV]
theorem wordV_no (op a b : Int) (h : op < 1 ∨ 10 < op) : wordV op a b = 0 := by
  unfold wordV
  repeat rw [if_neg (by omega)]

/-- What is told of the world behind the program's Word: nothing that was there has turned. -/
def Quiet (w w' : World) : Prop := Grown w w' ∧ Below w.heap.size w w'
theorem Quiet.refl (w : World) : Quiet w w := ⟨Grown.refl _, Below.refl _ _⟩
theorem Quiet.one (w : World) (c : Array Value) (t : TypeId) : Quiet w (w.alloc (.cells c t)) := ⟨Grown.alloc (Grown.refl _) _ _, (Below.refl _ _).alloc (Nat.le_refl _) _⟩

set_option maxHeartbeats 400000 in
theorem implW_1 (a b : Int) (w : World) :
    Calls Tryz.prog 94 #[.int .i64 1, .int .i64 a, .int .i64 b] w fun e w' => e = .returned (.int .i64 (wordV 1 a b)) ∧ Quiet w w' := by
  go_enter Tryz.func94, Tryz.ntmps94
  go_wp2
  go_ret
  exact ⟨ret_int (wordV_1 a b).symm, Quiet.one _ _ _⟩

set_option maxHeartbeats 400000 in
theorem implW_2 (a b : Int) (w : World) :
    Calls Tryz.prog 94 #[.int .i64 2, .int .i64 a, .int .i64 b] w fun e w' => e = .returned (.int .i64 (wordV 2 a b)) ∧ Quiet w w' := by
  go_enter Tryz.func94, Tryz.ntmps94
  go_wp2
  go_ret
  exact ⟨ret_int (wordV_2 a b).symm, Quiet.one _ _ _⟩

set_option maxHeartbeats 400000 in
theorem implW_3 (a b : Int) (w : World) :
    Calls Tryz.prog 94 #[.int .i64 3, .int .i64 a, .int .i64 b] w fun e w' => e = .returned (.int .i64 (wordV 3 a b)) ∧ Quiet w w' := by
  go_enter Tryz.func94, Tryz.ntmps94
  go_wp2
  go_ret
  exact ⟨ret_int (wordV_3 a b).symm, Quiet.one _ _ _⟩

set_option maxHeartbeats 400000 in
theorem implW_4 (a b : Int) (w : World) :
    Calls Tryz.prog 94 #[.int .i64 4, .int .i64 a, .int .i64 b] w fun e w' => e = .returned (.int .i64 (wordV 4 a b)) ∧ Quiet w w' := by
  go_enter Tryz.func94, Tryz.ntmps94
  go_wp2
  go_ret
  exact ⟨ret_int (wordV_4 a b).symm, Quiet.one _ _ _⟩

set_option maxHeartbeats 400000 in
theorem implW_5 (a b : Int) (w : World) :
    Calls Tryz.prog 94 #[.int .i64 5, .int .i64 a, .int .i64 b] w fun e w' => e = .returned (.int .i64 (wordV 5 a b)) ∧ Quiet w w' := by
  go_enter Tryz.func94, Tryz.ntmps94
  go_wp2
  go_ret
  exact ⟨ret_int (wordV_5 a b).symm, Quiet.one _ _ _⟩

set_option maxHeartbeats 400000 in
theorem implW_6 (a b : Int) (w : World) :
    Calls Tryz.prog 94 #[.int .i64 6, .int .i64 a, .int .i64 b] w fun e w' => e = .returned (.int .i64 (wordV 6 a b)) ∧ Quiet w w' := by
  go_enter Tryz.func94, Tryz.ntmps94
  go_wp2
  go_ret
  exact ⟨ret_int (wordV_6 a b).symm, Quiet.one _ _ _⟩

set_option maxHeartbeats 400000 in
theorem implW_7 (a b : Int) (w : World) :
    Calls Tryz.prog 94 #[.int .i64 7, .int .i64 a, .int .i64 b] w fun e w' => e = .returned (.int .i64 (wordV 7 a b)) ∧ Quiet w w' := by
  by_cases h : a < b
  · go_enter Tryz.func94, Tryz.ntmps94
    go_wp2
    go_ret
    exact ⟨ret_int (by rw [wordV_7, if_pos h]), Quiet.one _ _ _⟩
  · go_enter Tryz.func94, Tryz.ntmps94
    go_wp2
    go_ret
    exact ⟨ret_int (by rw [wordV_7, if_neg (by omega)]), Quiet.one _ _ _⟩

set_option maxHeartbeats 400000 in
theorem implW_8 (a b : Int) (w : World) :
    Calls Tryz.prog 94 #[.int .i64 8, .int .i64 a, .int .i64 b] w fun e w' => e = .returned (.int .i64 (wordV 8 a b)) ∧ Quiet w w' := by
  by_cases h : a = b
  · subst h
    have he : (a == a) = true := by simp
    go_enter Tryz.func94, Tryz.ntmps94
    go_wp2
    go_ret
    exact ⟨ret_int (by rw [wordV_8, if_pos rfl]), Quiet.one _ _ _⟩
  · have he : (a == b) = false := by simpa using h
    go_enter Tryz.func94, Tryz.ntmps94
    go_wp2
    go_ret
    exact ⟨ret_int (by rw [wordV_8, if_neg h]), Quiet.one _ _ _⟩

set_option maxHeartbeats 400000 in
theorem implW_9 (a b : Int) (w : World) :
    Calls Tryz.prog 94 #[.int .i64 9, .int .i64 a, .int .i64 b] w fun e w' => e = .returned (.int .i64 (wordV 9 a b)) ∧ Quiet w w' := by
  have hb := and63_nonneg b
  go_enter Tryz.func94, Tryz.ntmps94
  go_wp2
  go_ret
  exact ⟨ret_int (by rw [wordV_9, min63]), Quiet.one _ _ _⟩

set_option maxHeartbeats 400000 in
theorem implW_10 (a b : Int) (w : World) :
    Calls Tryz.prog 94 #[.int .i64 10, .int .i64 a, .int .i64 b] w fun e w' => e = .returned (.int .i64 (wordV 10 a b)) ∧ Quiet w w' := by
  have hb := and63_nonneg b
  go_enter Tryz.func94, Tryz.ntmps94
  go_wp2
  go_ret
  exact ⟨ret_int (by rw [wordV_10, min63]), Quiet.one _ _ _⟩

set_option maxHeartbeats 400000 in
theorem implW_no (op a b : Int) (w : World) (h : op < 1 ∨ 10 < op) :
    Calls Tryz.prog 94 #[.int .i64 op, .int .i64 a, .int .i64 b] w fun e w' => e = .returned (.int .i64 (wordV op a b)) ∧ Quiet w w' := by
  have hv : Hid (wordV op a b = 0) := wordV_no op a b h
  rcases h with h | h
  · have h1 : ¬ 1 ≤ op := by omega
    go_enter Tryz.func94, Tryz.ntmps94
    go_wp2
    go_ret
    exact ⟨ret_int hv.out.symm, Quiet.refl _⟩
  · have h1 : 1 ≤ op := by omega
    have h2 : ¬ op < 11 := by omega
    go_enter Tryz.func94, Tryz.ntmps94
    go_wp2
    go_ret
    exact ⟨ret_int hv.out.symm, Quiet.refl _⟩

theorem impl_word (op a b : Int) (w : World) :
    Calls Tryz.prog 94 #[.int .i64 op, .int .i64 a, .int .i64 b] w fun e w' => e = .returned (.int .i64 (wordV op a b)) ∧ Quiet w w' := by
  by_cases h : op < 1 ∨ 10 < op
  · exact implW_no op a b w h
  · have h' : op = 1 ∨ op = 2 ∨ op = 3 ∨ op = 4 ∨ op = 5 ∨ op = 6 ∨ op = 7 ∨ op = 8 ∨ op = 9 ∨ op = 10 := by omega
    rcases h' with rfl | rfl | rfl | rfl | rfl | rfl | rfl | rfl | rfl | rfl
    · exact implW_1 a b w
    · exact implW_2 a b w
    · exact implW_3 a b w
    · exact implW_4 a b w
    · exact implW_5 a b w
    · exact implW_6 a b w
    · exact implW_7 a b w
    · exact implW_8 a b w
    · exact implW_9 a b w
    · exact implW_10 a b w

set_option maxHeartbeats 400000 in
theorem specW_1 (a b : Int) (w : World) :
    Calls Tryz.prog 56 #[.int .i64 1, .int .i64 a, .int .i64 b] w fun e w' => e = .returned (.int .i64 (wordV 1 a b)) ∧ w' = w := by
  go_enter Tryz.func56, Tryz.ntmps56
  go_wp2
  go_ret
  exact ⟨ret_int (wordV_1 a b).symm, rfl⟩

set_option maxHeartbeats 400000 in
theorem specW_2 (a b : Int) (w : World) :
    Calls Tryz.prog 56 #[.int .i64 2, .int .i64 a, .int .i64 b] w fun e w' => e = .returned (.int .i64 (wordV 2 a b)) ∧ w' = w := by
  go_enter Tryz.func56, Tryz.ntmps56
  go_wp2
  go_ret
  exact ⟨ret_int (wordV_2 a b).symm, rfl⟩

set_option maxHeartbeats 400000 in
theorem specW_3 (a b : Int) (w : World) :
    Calls Tryz.prog 56 #[.int .i64 3, .int .i64 a, .int .i64 b] w fun e w' => e = .returned (.int .i64 (wordV 3 a b)) ∧ w' = w := by
  go_enter Tryz.func56, Tryz.ntmps56
  go_wp2
  go_ret
  exact ⟨ret_int (wordV_3 a b).symm, rfl⟩

set_option maxHeartbeats 400000 in
theorem specW_4 (a b : Int) (w : World) :
    Calls Tryz.prog 56 #[.int .i64 4, .int .i64 a, .int .i64 b] w fun e w' => e = .returned (.int .i64 (wordV 4 a b)) ∧ w' = w := by
  go_enter Tryz.func56, Tryz.ntmps56
  go_wp2
  go_ret
  exact ⟨ret_int (wordV_4 a b).symm, rfl⟩

set_option maxHeartbeats 400000 in
theorem specW_5 (a b : Int) (w : World) :
    Calls Tryz.prog 56 #[.int .i64 5, .int .i64 a, .int .i64 b] w fun e w' => e = .returned (.int .i64 (wordV 5 a b)) ∧ w' = w := by
  go_enter Tryz.func56, Tryz.ntmps56
  go_wp2
  go_ret
  exact ⟨ret_int (wordV_5 a b).symm, rfl⟩

set_option maxHeartbeats 400000 in
theorem specW_6 (a b : Int) (w : World) :
    Calls Tryz.prog 56 #[.int .i64 6, .int .i64 a, .int .i64 b] w fun e w' => e = .returned (.int .i64 (wordV 6 a b)) ∧ w' = w := by
  go_enter Tryz.func56, Tryz.ntmps56
  go_wp2
  go_ret
  exact ⟨ret_int (wordV_6 a b).symm, rfl⟩

set_option maxHeartbeats 400000 in
theorem specW_7 (a b : Int) (w : World) :
    Calls Tryz.prog 56 #[.int .i64 7, .int .i64 a, .int .i64 b] w fun e w' => e = .returned (.int .i64 (wordV 7 a b)) ∧ w' = w := by
  by_cases h : a < b
  · go_enter Tryz.func56, Tryz.ntmps56
    go_wp2
    go_ret
    exact ⟨ret_int (by rw [wordV_7, if_pos h]), rfl⟩
  · go_enter Tryz.func56, Tryz.ntmps56
    go_wp2
    go_ret
    exact ⟨ret_int (by rw [wordV_7, if_neg (by omega)]), rfl⟩

set_option maxHeartbeats 400000 in
theorem specW_8 (a b : Int) (w : World) :
    Calls Tryz.prog 56 #[.int .i64 8, .int .i64 a, .int .i64 b] w fun e w' => e = .returned (.int .i64 (wordV 8 a b)) ∧ w' = w := by
  by_cases h : a = b
  · subst h
    have he : (a == a) = true := by simp
    go_enter Tryz.func56, Tryz.ntmps56
    go_wp2
    go_ret
    exact ⟨ret_int (by rw [wordV_8, if_pos rfl]), rfl⟩
  · have he : (a == b) = false := by simpa using h
    go_enter Tryz.func56, Tryz.ntmps56
    go_wp2
    go_ret
    exact ⟨ret_int (by rw [wordV_8, if_neg h]), rfl⟩

set_option maxHeartbeats 400000 in
theorem specW_9 (a b : Int) (w : World) :
    Calls Tryz.prog 56 #[.int .i64 9, .int .i64 a, .int .i64 b] w fun e w' => e = .returned (.int .i64 (wordV 9 a b)) ∧ w' = w := by
  have hb := and63_nonneg b
  go_enter Tryz.func56, Tryz.ntmps56
  go_wp2
  go_ret
  exact ⟨ret_int (by rw [wordV_9, min63]), rfl⟩

set_option maxHeartbeats 400000 in
theorem specW_10 (a b : Int) (w : World) :
    Calls Tryz.prog 56 #[.int .i64 10, .int .i64 a, .int .i64 b] w fun e w' => e = .returned (.int .i64 (wordV 10 a b)) ∧ w' = w := by
  have hb := and63_nonneg b
  go_enter Tryz.func56, Tryz.ntmps56
  go_wp2
  go_ret
  exact ⟨ret_int (by rw [wordV_10, min63]), rfl⟩

set_option maxHeartbeats 400000 in
theorem specW_no (op a b : Int) (w : World) (h : op < 1 ∨ 10 < op) :
    Calls Tryz.prog 56 #[.int .i64 op, .int .i64 a, .int .i64 b] w fun e w' => e = .returned (.int .i64 (wordV op a b)) ∧ w' = w := by
  have hv : Hid (wordV op a b = 0) := wordV_no op a b h
  rcases h with h | h
  · have e1 : (op == 1) = false := by simp; omega
    have e2 : (op == 2) = false := by simp; omega
    have e3 : (op == 3) = false := by simp; omega
    have e4 : (op == 4) = false := by simp; omega
    have e5 : (op == 5) = false := by simp; omega
    have e6 : (op == 6) = false := by simp; omega
    have e7 : (op == 7) = false := by simp; omega
    have e8 : (op == 8) = false := by simp; omega
    have e9 : (op == 9) = false := by simp; omega
    have e10 : (op == 10) = false := by simp; omega
    go_enter Tryz.func56, Tryz.ntmps56
    go_wp2
    go_ret
    exact ⟨ret_int hv.out.symm, rfl⟩
  · have e1 : (op == 1) = false := by simp; omega
    have e2 : (op == 2) = false := by simp; omega
    have e3 : (op == 3) = false := by simp; omega
    have e4 : (op == 4) = false := by simp; omega
    have e5 : (op == 5) = false := by simp; omega
    have e6 : (op == 6) = false := by simp; omega
    have e7 : (op == 7) = false := by simp; omega
    have e8 : (op == 8) = false := by simp; omega
    have e9 : (op == 9) = false := by simp; omega
    have e10 : (op == 10) = false := by simp; omega
    go_enter Tryz.func56, Tryz.ntmps56
    go_wp2
    go_ret
    exact ⟨ret_int hv.out.symm, rfl⟩

theorem spec_word (op a b : Int) (w : World) :
    Calls Tryz.prog 56 #[.int .i64 op, .int .i64 a, .int .i64 b] w fun e w' => e = .returned (.int .i64 (wordV op a b)) ∧ w' = w := by
  by_cases h : op < 1 ∨ 10 < op
  · exact specW_no op a b w h
  · have h' : op = 1 ∨ op = 2 ∨ op = 3 ∨ op = 4 ∨ op = 5 ∨ op = 6 ∨ op = 7 ∨ op = 8 ∨ op = 9 ∨ op = 10 := by omega
    rcases h' with rfl | rfl | rfl | rfl | rfl | rfl | rfl | rfl | rfl | rfl
    · exact specW_1 a b w
    · exact specW_2 a b w
    · exact specW_3 a b w
    · exact specW_4 a b w
    · exact specW_5 a b w
    · exact specW_6 a b w
    · exact specW_7 a b w
    · exact specW_8 a b w
    · exact specW_9 a b w
    · exact specW_10 a b w

end Go.Proofs.YtjcocpdicogecaaGreatDoor

namespace Go.Proofs.YtjcocpdicogecaaGreatDoor
open Go.ChangeShapes Go.WideShapes Go.ChangeAt Go.RowKit Go.Shelf
set_option linter.unusedVariables false

theorem info_int : (Tryz.prog.info? 3).map (fun i => (i.zero, i.size, i.bytes)) = some (some (.int .i64 0), 1, 8) := by kernel_rfl

theorem ownInts_nil {w : World} {g lo : Nat} (hg : w.heap.size = g) (hl : lo ≤ g) : OwnInts (w.alloc (.cells #[] 3)) lo (.slice (some ⟨g, 0, none⟩) 0 0) [] := by
  subst hg
  exact (ownInts_new w).low hl

/-- The block in which the list lies is none of another type. -/
theorem OwnInts.not_box {w : World} {lo : Nat} {v : Value} {l : List Int} (h : OwnInts w lo v l) {B : Nat} {c : Array Value} {t : TypeId} {z : Nat × Nat} (hB : w.heap[B]? = some (.cells c t z)) (ht : t ≠ 3) : some B ≠ v.ownBlock := by
  rcases h.2 with ⟨rfl, _⟩ | ⟨g, cap, cur, rfl, _, hgb, _⟩
  · simp [Value.ownBlock]
  · intro e'
    obtain rfl : B = g := by simpa [Value.ownBlock] using e'
    have := hB.symm.trans hgb
    simp at this
    exact ht this.2.1

theorem OwnInts.next {w : World} {lo : Nat} {v : Value} {l : List Int} {x : Int} (h : w.ownsRow lo 3 1 v (l.length + 1) (l.map (fun x => Value.int .i64 x) ++ [Value.int .i64 x])) : OwnInts w lo v (l ++ [x]) := by
  unfold OwnInts
  simpa using h

theorem OwnInts.grown {W w1 : World} {lo : Nat} {v : Value} {l : List Int} (h : OwnInts W lo v l) (hlo : lo ≤ W.heap.size) {o : Obj} (hg : (W.alloc o).grownBy w1 v.ownBlock) : Below lo W w1 := by
  refine ((Below.refl lo W).alloc hlo o).grown hg (by simp; omega) fun j ej => ?_
  rcases h.2 with ⟨rfl, _⟩ | ⟨g, cap, cur, rfl, hb, _, _⟩
  · simp [Value.ownBlock] at ej
  · obtain rfl : g = j := by simpa [Value.ownBlock] using ej
    exact hb

theorem rcells_set {w : World} {b o : Nat} {v : Value} {t : TypeId} (h : ∃ c, w.heap[b]? = some (.cells c t (0, 0))) : ∃ c, (w.setCell ⟨b, o, none⟩ v).heap[b]? = some (.cells c t (0, 0)) := by
  obtain ⟨c, h⟩ := h
  exact ⟨_, heap_setCell_same w b o c t v h⟩

/-- A list that is read from its front: it may be a part of another one. -/
def ReadsAt (w : World) (v : Value) (l : List Int) : Prop :=
  ∃ (a : Option Addr) (cap : Nat), v = .slice a l.length cap ∧ l.length ≤ cap ∧ cap ≤ 9223372036854775807 ∧ (0 < l.length → ∃ b off, a = some ⟨b, off, none⟩ ∧ ∀ i, i < l.length → w.cell? ⟨b, off + i, none⟩ = some (.int .i64 (l.getD i 0)))

theorem ReadsAt.keep {w w' : World} {v : Value} {l : List Int} (h : ReadsAt w v l) (hb : Below w.heap.size w w') : ReadsAt w' v l := by
  obtain ⟨a, cap, rfl, hm, hm2, hc⟩ := h
  refine ⟨a, cap, rfl, hm, hm2, fun hp => ?_⟩
  obtain ⟨b, off, rfl, hd⟩ := hc hp
  exact ⟨b, off, rfl, fun i hi => Bel.keeps hb (hd i hi)⟩

theorem far_off {w : World} {R : Nat} {i o : Nat} {v x : Value} (h : w.cell? ⟨R, i, none⟩ = some x) (hne : i ≠ o) : (w.setCell ⟨R, o, none⟩ v).cell? ⟨R, i, none⟩ = some x := by
  rw [World.cell?_setCell_other _ _ _ _ (fun e => hne (by simpa using (congrArg Addr.off e).symm))]; exact h

theorem far_block {w : World} {R S : Nat} {i o : Nat} {v x : Value} (h : w.cell? ⟨S, i, none⟩ = some x) (hne : R ≠ S) : (w.setCell ⟨R, o, none⟩ v).cell? ⟨S, i, none⟩ = some x := by
  rw [World.cell?_setCell_other _ _ _ _ (fun e => hne (by simpa using congrArg Addr.block e))]; exact h

section
variable {W0 w w' : World} {R S : Nat}
theorem own_far {w : World} {lo : Nat} {v : Value} {l : List Int} (h : OwnInts w lo v l) {b o : Nat} {x : Value} {t : TypeId} (hb : ∃ c, w.heap[b]? = some (.cells c t (0, 0))) (ht : t ≠ 3) : OwnInts (w.setCell ⟨b, o, none⟩ x) lo v l := by
  obtain ⟨c, hc⟩ := hb
  have hn := h.not_box hc ht
  obtain ⟨h0, h1⟩ := h
  refine ⟨h0, ?_⟩
  rcases h1 with h1 | ⟨g, cap, cur, rfl, hlo, hg, h2⟩
  · exact .inl h1
  · refine .inr ⟨g, cap, cur, rfl, hlo, ?_, h2⟩
    rw [heap_setCell_other _ _ _ _ (fun e => hn (by simp [Value.ownBlock]; exact e.symm))]
    exact hg

/-- The other list stays. -/
theorem grown_other {o : Obj} {wa : World} {v v2 : Value} {lo : Nat} {l2 : List Int} (h2 : OwnInts w lo v2 l2) (hg : (w.alloc o).grownBy wa v.ownBlock) (hap : ∀ g, v.ownBlock = some g → v2.ownBlock = some g → False) : OwnInts wa lo v2 l2 := by
  refine World.ownsRow.kept (World.ownsRow.alloc h2 _) hg ?_
  rcases h2.2 with ⟨rfl, _⟩ | ⟨g', cap, cur, rfl, _, hgb, _⟩
  · exact .inl rfl
  · exact .inr fun e => hap g' e.symm rfl

/-- No row of numbers. -/
def NoRow (o : Obj) : Prop := ∀ c z, o ≠ .cells c 3 z

/-- Nothing turned but the run, its place and rows of numbers. -/
structure FrR (R S : Nat) (w w' : World) : Prop where
  size : w.heap.size ≤ w'.heap.size
  block : ∀ k o, w.heap[k]? = some o → k ≠ R → k ≠ S → NoRow o → w'.heap[k]? = some o

theorem FrR.refl (R S : Nat) (w : World) : FrR R S w w := ⟨Nat.le_refl _, fun _ _ h _ _ _ => h⟩

theorem FrR.trans {R S : Nat} {a b c : World} (h : FrR R S a b) (k : FrR R S b c) : FrR R S a c :=
  ⟨Nat.le_trans h.size k.size, fun i o hi h1 h2 h3 => k.block i o (h.block i o hi h1 h2 h3) h1 h2 h3⟩

theorem FrR.ofBelow {R S : Nat} {a b : World} (h : Below a.heap.size a b) : FrR R S a b :=
  ⟨h.size, fun i o hi _ _ _ => (h.block i (Array.getElem?_eq_some_iff.1 hi).1).trans hi⟩

theorem FrR.setR (R S o : Nat) (v : Value) (w : World) : FrR R S w (w.setCell ⟨R, o, none⟩ v) :=
  ⟨by simp, fun i ob hi h1 _ _ => by rw [heap_setCell_other _ _ _ _ h1]; exact hi⟩

theorem FrR.setS (R S o : Nat) (v : Value) (w : World) : FrR R S w (w.setCell ⟨S, o, none⟩ v) :=
  ⟨by simp, fun i ob hi _ h2 _ => by rw [heap_setCell_other _ _ _ _ h2]; exact hi⟩

theorem FrR.drew (R S : Nat) (w : World) : FrR R S w w.drew := ⟨Nat.le_refl _, fun _ _ h _ _ _ => h⟩

theorem FrR.grown {R S lo : Nat} {w wa : World} {ob : Obj} {v : Value} {l : List Int} (hv : OwnInts w lo v l) (hg : (w.alloc ob).grownBy wa v.ownBlock) : FrR R S w wa := by
  refine ⟨Nat.le_trans (by simp) hg.size, fun i o hi _ _ h3 => ?_⟩
  have hlt := (Array.getElem?_eq_some_iff.1 hi).1
  refine (hg.block i (by simp; omega) ?_).trans ((Below.heap_alloc w _ i hlt).trans hi)
  intro e
  rcases hv.2 with ⟨rfl, _⟩ | ⟨g, cap, cur, rfl, _, hgb, _⟩
  · simp [Value.ownBlock] at e
  · obtain rfl : i = g := by simpa [Value.ownBlock] using e
    rw [hi] at hgb
    cases hgb
    exact h3 _ _ rfl

/-- A box of another type stays. -/
theorem FrR.box {R S : Nat} {w w' : World} (h : FrR R S w w') {B : Nat} {c : Array Value} {t : TypeId} {z : Nat × Nat} (hB : w.heap[B]? = some (.cells c t z)) (h1 : B ≠ R) (h2 : B ≠ S) (ht : t ≠ 3) : w'.heap[B]? = some (.cells c t z) :=
  h.block B _ hB h1 h2 (fun c' z' e => by cases e; exact ht rfl)

theorem apart_new {w : World} {o : Obj} {lo : Nat} {v v' v2 : Value} {l2 : List Int} (h2 : OwnInts w lo v2 l2) (hap : ∀ g, v.ownBlock = some g → v2.ownBlock = some g → False) (hat : v'.ownBlock = v.ownBlock ∨ v'.ownBlock = some (w.alloc o).heap.size) : ∀ g, v'.ownBlock = some g → v2.ownBlock = some g → False := by
  intro g e1 e2
  rcases hat with e | e
  · exact hap g (e.symm.trans e1) e2
  · rw [e] at e1
    have hlt := (World.ownsRow.lt h2 g e2).2
    have : (w.alloc o).heap.size = g := by simpa using e1
    simp at this
    omega

end
end Go.Proofs.YtjcocpdicogecaaGreatDoor

namespace Go.Proofs.YtjcocpdicogecaaGreatDoor
open Go.ChangeShapes Go.WideShapes Go.ChangeAt Go.RowKit Go.Shelf
set_option linter.unusedVariables false

/-- What is left to read, in a row of the run's own. -/
def ReadsIn (w : World) (lo : Nat) (rv : Value) (rb : Nat) (l : List Int) : Prop := ∃ off cap, rv = .slice (some ⟨rb, off, none⟩) l.length cap ∧ l.length ≤ cap ∧ cap ≤ 9223372036854775807 ∧ lo ≤ rb ∧ (∃ c, w.heap[rb]? = some (.cells c 3 (0, 0))) ∧ ∀ i, i < l.length → w.cell? ⟨rb, off + i, none⟩ = some (.int .i64 (l.getD i 0))
theorem ReadsIn.moved {w w' : World} {lo rb : Nat} {rv : Value} {l : List Int} (h : ReadsIn w lo rv rb l) (hh : w'.heap[rb]? = w.heap[rb]?) : ReadsIn w' lo rv rb l := by
  obtain ⟨off, cap, h1, h2, h3, h4, h5, h6⟩ := h
  exact ⟨off, cap, h1, h2, h3, h4, by rw [hh]; exact h5, fun i hi => (cell_of_heap hh _).trans (h6 i hi)⟩

/-- The run of the model. -/
structure SAt (W0 w : World) (P vn : Nat) (s : RunS) (vb vc cb cc : Nat) (rv : Value) (rb tb tc pb pc : Nat) : Prop where
  box : w.heap[P]? = some (.cells #[.slice (some ⟨vb, 0, none⟩) vn vc, .slice (some ⟨cb, 0, none⟩) 8 cc, rv, .slice (some ⟨tb, 0, none⟩) s.told.length tc, .slice (some ⟨pb, 0, none⟩) s.path.length pc, .int .i64 (s.fuel : Int)] 70 (0, 0))
  vals : OwnInts w W0.heap.size (.slice (some ⟨vb, 0, none⟩) vn vc) (listN vn s.vals)
  cells : OwnInts w W0.heap.size (.slice (some ⟨cb, 0, none⟩) 8 cc) (listN 8 s.cells)
  reads : ReadsIn w W0.heap.size rv rb s.reads
  told : OwnInts w W0.heap.size (.slice (some ⟨tb, 0, none⟩) s.told.length tc) s.told
  path : OwnInts w W0.heap.size (.slice (some ⟨pb, 0, none⟩) s.path.length pc) s.path
  d1 : vb ≠ cb
  d2 : vb ≠ rb
  d3 : vb ≠ tb
  d4 : vb ≠ pb
  d5 : cb ≠ rb
  d6 : cb ≠ tb
  d7 : cb ≠ pb
  d8 : rb ≠ tb
  d9 : rb ≠ pb
  d10 : tb ≠ pb
  below : Below W0.heap.size W0 w
  hP : W0.heap.size ≤ P
def SIs (W0 w : World) (P vn : Nat) (s : RunS) : Prop := ∃ vb vc cb cc rv rb tb tc pb pc, SAt W0 w P vn s vb vc cb cc rv rb tb tc pb pc
def STo (W0 : World) (P vn : Nat) (w : World) (s : RunS) (w' : World) : Prop := SIs W0 w' P vn s ∧ FrR P P w w'

section
variable {W0 w w' : World} {P vn : Nat} {s : RunS} {vb vc cb cc : Nat} {rv : Value} {rb tb tc pb pc : Nat}
theorem not_row {w : World} {P g : Nat} {c : Array Value} {t : TypeId} {z : Nat × Nat} (hP : w.heap[P]? = some (.cells c t z)) (ht : t ≠ 3) (hg : ∃ c, w.heap[g]? = some (.cells c 3 (0, 0))) : P ≠ g := by
  rintro rfl
  obtain ⟨c2, h2⟩ := hg
  rw [hP] at h2
  cases h2
  exact ht rfl
theorem SAt.lt (h : SAt W0 w P vn s vb vc cb cc rv rb tb tc pb pc) : P < w.heap.size := (Array.getElem?_eq_some_iff.1 h.box).1
theorem SAt.later (h : SAt W0 w P vn s vb vc cb cc rv rb tb tc pb pc) (hb : Below w.heap.size w w') : SAt W0 w' P vn s vb vc cb cc rv rb tb tc pb pc := by
  obtain ⟨_, _, _, _, _, _, ⟨c, hc⟩, _⟩ := h.reads
  exact ⟨(hb.block _ h.lt).trans h.box, h.vals.keep hb, h.cells.keep hb, h.reads.moved (hb.block _ (Array.getElem?_eq_some_iff.1 hc).1), h.told.keep hb, h.path.keep hb, h.d1, h.d2, h.d3, h.d4, h.d5, h.d6, h.d7, h.d8, h.d9, h.d10, Bel.after h.below hb, h.hP⟩
theorem SIs.later (h : SIs W0 w P vn s) (hb : Below w.heap.size w w') : SIs W0 w' P vn s := by
  obtain ⟨vb, vc, cb, cc, rv, rb, tb, tc, pb, pc, h⟩ := h
  exact ⟨vb, vc, cb, cc, rv, rb, tb, tc, pb, pc, h.later hb⟩
theorem ob_ne {g g' n cap : Nat} (h : g' ≠ g) : (Value.slice (some ⟨g', 0, none⟩) n cap).ownBlock ≠ some g := by simpa [Value.ownBlock] using h
/-- The cells of the struct. -/
theorem SAt.cell (h : SAt W0 w P vn s vb vc cb cc rv rb tb tc pb pc) : w.cell? ⟨P, 0, none⟩ = some (.slice (some ⟨vb, 0, none⟩) vn vc) ∧ w.cell? ⟨P, 1, none⟩ = some (.slice (some ⟨cb, 0, none⟩) 8 cc) ∧ w.cell? ⟨P, 2, none⟩ = some rv ∧ w.cell? ⟨P, 3, none⟩ = some (.slice (some ⟨tb, 0, none⟩) s.told.length tc) ∧ w.cell? ⟨P, 4, none⟩ = some (.slice (some ⟨pb, 0, none⟩) s.path.length pc) ∧ w.cell? ⟨P, 5, none⟩ = some (.int .i64 (s.fuel : Int)) := by
  refine ⟨?_, ?_, ?_, ?_, ?_, ?_⟩ <;> simp [World.cell?, h.box]
theorem SAt.frozen (h : SAt W0 w P vn s vb vc cb cc rv rb tb tc pb pc) (o : Nat) : w.frozen? ⟨P, o, none⟩ = false := frozen_of_cells ⟨_, h.box⟩ o
theorem SAt.valAt (h : SAt W0 w P vn s vb vc cb cc rv rb tb tc pb pc) {i : Nat} (hi : i < vn) : w.cell? ⟨vb, i, none⟩ = some (.int .i64 (s.vals i)) := by
  rw [h.vals.cellAt hi, listN_at _ _ hi]
theorem SAt.cellAt (h : SAt W0 w P vn s vb vc cb cc rv rb tb tc pb pc) {i : Nat} (hi : i < 8) : w.cell? ⟨cb, i, none⟩ = some (.int .i64 (s.cells i)) := by
  rw [h.cells.cellAt hi, listN_at _ _ hi]
theorem own_lo {lo g n cap : Nat} {l : List Int} (h : OwnInts w lo (.slice (some ⟨g, 0, none⟩) n cap) l) : lo ≤ g := (World.ownsRow.lt h g rfl).1
theorem SAt.setVal (h : SAt W0 w P vn s vb vc cb cc rv rb tb tc pb pc) {d : Nat} (hd : d < vn) (x : Int) : SAt W0 (w.setCell ⟨vb, d, none⟩ (.int .i64 x)) P vn { s with vals := updN s.vals d x } vb vc cb cc rv rb tb tc pb pc := by
  have hPv := not_row h.box (by decide) h.vals.heapOf
  refine ⟨(heap_setCell_other _ _ _ _ hPv).trans h.box, ?_, h.cells.apartSet (ob_ne (fun e => h.d1 e.symm)) _, h.reads.moved (heap_setCell_other _ _ _ _ (fun e => h.d2 e.symm)), h.told.apartSet (ob_ne (fun e => h.d3 e.symm)) _, h.path.apartSet (ob_ne (fun e => h.d4 e.symm)) _, h.d1, h.d2, h.d3, h.d4, h.d5, h.d6, h.d7, h.d8, h.d9, h.d10, h.below.setCell (p := ⟨vb, d, none⟩) (own_lo h.vals) _, h.hP⟩
  have := h.vals.setAt hd x
  rw [listN_set] at this
  exact this
theorem SAt.setCell (h : SAt W0 w P vn s vb vc cb cc rv rb tb tc pb pc) {d : Nat} (hd : d < 8) (x : Int) : SAt W0 (w.setCell ⟨cb, d, none⟩ (.int .i64 x)) P vn { s with cells := updN s.cells d x } vb vc cb cc rv rb tb tc pb pc := by
  have hPv := not_row h.box (by decide) h.cells.heapOf
  refine ⟨(heap_setCell_other _ _ _ _ hPv).trans h.box, h.vals.apartSet (ob_ne h.d1) _, ?_, h.reads.moved (heap_setCell_other _ _ _ _ (fun e => h.d5 e.symm)), h.told.apartSet (ob_ne (fun e => h.d6 e.symm)) _, h.path.apartSet (ob_ne (fun e => h.d7 e.symm)) _, h.d1, h.d2, h.d3, h.d4, h.d5, h.d6, h.d7, h.d8, h.d9, h.d10, h.below.setCell (p := ⟨cb, d, none⟩) (own_lo h.cells) _, h.hP⟩
  have := h.cells.setAt hd x
  rw [listN_set] at this
  exact this
/-- A cell of the struct is turned: what stays. -/
theorem SAt.setBox (h : SAt W0 w P vn s vb vc cb cc rv rb tb tc pb pc) (o : Nat) (v : Value) : OwnInts (w.setCell ⟨P, o, none⟩ v) W0.heap.size (.slice (some ⟨vb, 0, none⟩) vn vc) (listN vn s.vals) ∧ OwnInts (w.setCell ⟨P, o, none⟩ v) W0.heap.size (.slice (some ⟨cb, 0, none⟩) 8 cc) (listN 8 s.cells) ∧ ReadsIn (w.setCell ⟨P, o, none⟩ v) W0.heap.size rv rb s.reads ∧ OwnInts (w.setCell ⟨P, o, none⟩ v) W0.heap.size (.slice (some ⟨tb, 0, none⟩) s.told.length tc) s.told ∧ OwnInts (w.setCell ⟨P, o, none⟩ v) W0.heap.size (.slice (some ⟨pb, 0, none⟩) s.path.length pc) s.path ∧ Below W0.heap.size W0 (w.setCell ⟨P, o, none⟩ v) := by
  have hr := h.reads
  obtain ⟨_, _, _, _, _, _, hc, _⟩ := hr
  exact ⟨own_far h.vals ⟨_, h.box⟩ (by decide), own_far h.cells ⟨_, h.box⟩ (by decide), h.reads.moved (heap_setCell_other _ _ _ _ (fun e => not_row h.box (by decide) hc e.symm)), own_far h.told ⟨_, h.box⟩ (by decide), own_far h.path ⟨_, h.box⟩ (by decide), h.below.setCell (p := ⟨P, o, none⟩) h.hP _⟩
theorem SAt.setFuel (h : SAt W0 w P vn s vb vc cb cc rv rb tb tc pb pc) (k : Nat) : SAt W0 (w.setCell ⟨P, 5, none⟩ (.int .i64 (k : Int))) P vn { s with fuel := k } vb vc cb cc rv rb tb tc pb pc := by
  obtain ⟨a1, a2, a3, a4, a5, a6⟩ := h.setBox 5 (.int .i64 (k : Int))
  exact ⟨heap_setCell_same _ _ _ _ _ _ h.box, a1, a2, a3, a4, a5, h.d1, h.d2, h.d3, h.d4, h.d5, h.d6, h.d7, h.d8, h.d9, h.d10, a6, h.hP⟩
theorem SAt.setReads (h : SAt W0 w P vn s vb vc cb cc rv rb tb tc pb pc) {x : Value} {l : List Int} (hx : ReadsIn w W0.heap.size x rb l) : SAt W0 (w.setCell ⟨P, 2, none⟩ x) P vn { s with reads := l } vb vc cb cc x rb tb tc pb pc := by
  obtain ⟨a1, a2, a3, a4, a5, a6⟩ := h.setBox 2 x
  have hr := h.reads
  obtain ⟨_, _, _, _, _, _, hc, _⟩ := hr
  exact ⟨heap_setCell_same _ _ _ _ _ _ h.box, a1, a2, hx.moved (heap_setCell_other _ _ _ _ (fun e => not_row h.box (by decide) hc e.symm)), a4, a5, h.d1, h.d2, h.d3, h.d4, h.d5, h.d6, h.d7, h.d8, h.d9, h.d10, a6, h.hP⟩
theorem SAt.drew (h : SAt W0 w P vn s vb vc cb cc rv rb tb tc pb pc) : SAt W0 w.drew P vn s vb vc cb cc rv rb tb tc pb pc := h.later (Below.refl _ _).drew
/-- What an append to what was told leaves. -/
theorem SAt.told_grown (h : SAt W0 w P vn s vb vc cb cc rv rb tb tc pb pc) {x : Int} {wa : World} {g cap : Nat} (hown : OwnInts wa W0.heap.size (.slice (some ⟨g, 0, none⟩) (s.told.length + 1) cap) (s.told ++ [x])) (hg : (w.alloc (.cells #[.int .i64 x] 3)).grownBy wa (some tb)) (hat : g = tb ∨ g = w.heap.size + 1) :
    wa.heap[P]? = w.heap[P]? ∧ OwnInts wa W0.heap.size (.slice (some ⟨vb, 0, none⟩) vn vc) (listN vn s.vals) ∧ FrR P P w wa ∧ SAt W0 (wa.setCell ⟨P, 3, none⟩ (.slice (some ⟨g, 0, none⟩) (s.told.length + 1) cap)) P vn { s with told := s.told ++ [x] } vb vc cb cc rv rb g cap pb pc := by
  have hg2 : (w.alloc (.cells #[.int .i64 x] 3)).grownBy wa (Value.slice (some ⟨tb, 0, none⟩) s.told.length tc).ownBlock := hg
  have hPa : wa.heap[P]? = w.heap[P]? := (hg2.block P (by have := h.lt; simp; omega) (h.told.not_box h.box (by decide))).trans (Below.heap_alloc _ _ _ h.lt)
  have ap : ∀ {y n c : Nat}, y ≠ tb → ∀ q, (Value.slice (some ⟨tb, 0, none⟩) s.told.length tc).ownBlock = some q → (Value.slice (some ⟨y, 0, none⟩) n c).ownBlock = some q → False := fun hy q e1 e2 => by
    simp [Value.ownBlock] at e1 e2
    omega
  have lv : ∀ {y n c : Nat} {l : List Int}, OwnInts w W0.heap.size (.slice (some ⟨y, 0, none⟩) n c) l → y < w.heap.size := fun hy => (World.ownsRow.lt hy _ rfl).2
  have hr := h.reads
  obtain ⟨_, _, _, _, _, _, ⟨c9, hc9⟩, _⟩ := hr
  have lr : rb < w.heap.size := (Array.getElem?_eq_some_iff.1 hc9).1
  have v1 := grown_other h.vals hg2 (ap h.d3)
  have v2 := grown_other h.cells hg2 (ap h.d6)
  have v3 := grown_other h.path hg2 (ap h.d10.symm)
  have rr : wa.heap[rb]? = w.heap[rb]? := (hg.block rb (by simp; omega) (by simpa using h.d8)).trans (Below.heap_alloc _ _ _ lr)
  have hbx := hPa.trans h.box
  have hb := h.below.trans (h.told.grown h.below.size hg2)
  have nr := not_row hbx (by decide) ⟨c9, rr.trans hc9⟩
  have l1 := lv h.vals
  have l2 := lv h.cells
  have l3 := lv h.path
  have e1 := h.d3
  have e2 := h.d6
  have e3 := h.d10.symm
  have e4 := h.d8
  refine ⟨hPa, v1, FrR.grown h.told hg2, heap_setCell_same _ _ _ _ _ _ hbx |>.trans (by simp), own_far v1 ⟨_, hbx⟩ (by decide), own_far v2 ⟨_, hbx⟩ (by decide), (h.reads.moved rr).moved (heap_setCell_other _ _ _ _ (fun e => nr e.symm)), own_far hown ⟨_, hbx⟩ (by decide) |> fun q => by simpa using q, own_far v3 ⟨_, hbx⟩ (by decide), h.d1, h.d2, by omega, h.d4, h.d5, by omega, h.d7, by omega, h.d9, by omega, hb.setCell (p := ⟨P, 3, none⟩) h.hP _, h.hP⟩
/-- What an append to what was gone leaves. -/
theorem SAt.path_grown (h : SAt W0 w P vn s vb vc cb cc rv rb tb tc pb pc) {x : Int} {wa : World} {g cap : Nat} (hown : OwnInts wa W0.heap.size (.slice (some ⟨g, 0, none⟩) (s.path.length + 1) cap) (s.path ++ [x])) (hg : (w.alloc (.cells #[.int .i64 x] 3)).grownBy wa (some pb)) (hat : g = pb ∨ g = w.heap.size + 1) :
    wa.heap[P]? = w.heap[P]? ∧ OwnInts wa W0.heap.size (.slice (some ⟨vb, 0, none⟩) vn vc) (listN vn s.vals) ∧ FrR P P w wa ∧ SAt W0 (wa.setCell ⟨P, 4, none⟩ (.slice (some ⟨g, 0, none⟩) (s.path.length + 1) cap)) P vn { s with path := s.path ++ [x] } vb vc cb cc rv rb tb tc g cap := by
  have hg2 : (w.alloc (.cells #[.int .i64 x] 3)).grownBy wa (Value.slice (some ⟨pb, 0, none⟩) s.path.length pc).ownBlock := hg
  have hPa : wa.heap[P]? = w.heap[P]? := (hg2.block P (by have := h.lt; simp; omega) (h.path.not_box h.box (by decide))).trans (Below.heap_alloc _ _ _ h.lt)
  have ap : ∀ {y n c : Nat}, y ≠ pb → ∀ q, (Value.slice (some ⟨pb, 0, none⟩) s.path.length pc).ownBlock = some q → (Value.slice (some ⟨y, 0, none⟩) n c).ownBlock = some q → False := fun hy q e1 e2 => by
    simp [Value.ownBlock] at e1 e2
    omega
  have lv : ∀ {y n c : Nat} {l : List Int}, OwnInts w W0.heap.size (.slice (some ⟨y, 0, none⟩) n c) l → y < w.heap.size := fun hy => (World.ownsRow.lt hy _ rfl).2
  have hr := h.reads
  obtain ⟨_, _, _, _, _, _, ⟨c9, hc9⟩, _⟩ := hr
  have lr : rb < w.heap.size := (Array.getElem?_eq_some_iff.1 hc9).1
  have v1 := grown_other h.vals hg2 (ap h.d4)
  have v2 := grown_other h.cells hg2 (ap h.d7)
  have v3 := grown_other h.told hg2 (ap h.d10)
  have rr : wa.heap[rb]? = w.heap[rb]? := (hg.block rb (by simp; omega) (by simpa using h.d9)).trans (Below.heap_alloc _ _ _ lr)
  have hbx := hPa.trans h.box
  have hb := h.below.trans (h.path.grown h.below.size hg2)
  have nr := not_row hbx (by decide) ⟨c9, rr.trans hc9⟩
  have l1 := lv h.vals
  have l2 := lv h.cells
  have l3 := lv h.told
  have e1 := h.d4
  have e2 := h.d7
  have e3 := h.d10
  have e4 := h.d9
  refine ⟨hPa, v1, FrR.grown h.path hg2, heap_setCell_same _ _ _ _ _ _ hbx |>.trans (by simp), own_far v1 ⟨_, hbx⟩ (by decide), own_far v2 ⟨_, hbx⟩ (by decide), (h.reads.moved rr).moved (heap_setCell_other _ _ _ _ (fun e => nr e.symm)), own_far v3 ⟨_, hbx⟩ (by decide), own_far hown ⟨_, hbx⟩ (by decide) |> fun q => by simpa using q, h.d1, h.d2, h.d3, by omega, h.d5, h.d6, by omega, h.d8, by omega, by omega, hb.setCell (p := ⟨P, 4, none⟩) h.hP _, h.hP⟩
end
end Go.Proofs.YtjcocpdicogecaaGreatDoor

namespace Go.Proofs.YtjcocpdicogecaaGreatDoor
open Go.ChangeShapes Go.WideShapes Go.ChangeAt Go.RowKit Go.Shelf
set_option linter.unusedVariables false

theorem OwnInts.moved {w w' : World} {lo g n cap : Nat} {l : List Int} (h : OwnInts w lo (.slice (some ⟨g, 0, none⟩) n cap) l) (e : w'.heap[g]? = w.heap[g]?) : OwnInts w' lo (.slice (some ⟨g, 0, none⟩) n cap) l := by
  obtain ⟨h0, h1⟩ := h
  refine ⟨h0, ?_⟩
  rcases h1 with ⟨h1, _⟩ | ⟨g', cap', cur, h1, h2, h3, h4⟩
  · cases h1
  · cases h1
    exact .inr ⟨g, cap, cur, rfl, h2, e.trans h3, h4⟩
theorem SAt.moved {W0 w w' : World} {P vn : Nat} {s : RunS} {vb vc cb cc : Nat} {rv : Value} {rb tb tc pb pc : Nat} (h : SAt W0 w P vn s vb vc cb cc rv rb tb tc pb pc) (hb : Below W0.heap.size W0 w') (e0 : w'.heap[P]? = w.heap[P]?) (e1 : w'.heap[vb]? = w.heap[vb]?) (e2 : w'.heap[cb]? = w.heap[cb]?) (e3 : w'.heap[rb]? = w.heap[rb]?) (e4 : w'.heap[tb]? = w.heap[tb]?) (e5 : w'.heap[pb]? = w.heap[pb]?) : SAt W0 w' P vn s vb vc cb cc rv rb tb tc pb pc :=
  ⟨e0.trans h.box, h.vals.moved e1, h.cells.moved e2, h.reads.moved e3, h.told.moved e4, h.path.moved e5, h.d1, h.d2, h.d3, h.d4, h.d5, h.d6, h.d7, h.d8, h.d9, h.d10, hb, h.hP⟩

/-- What of it lies in the run's struct. -/
def msR (m : MacS) : RunS := ⟨fun _ => 0, m.cells, m.reads, m.told, [], 0⟩
/-- The model's machine. -/
structure TAt (W0 w : World) (T P : Nat) (m : MacS) (rg sg vb vc cb cc : Nat) (rv : Value) (rb tb tc pb pc : Nat) : Prop where
  box : w.heap[T]? = some (.cells #[.slice (some ⟨rg, 0, none⟩) 8 8, .slice (some ⟨sg, 0, none⟩) 40 40, .pointer (some ⟨P, 0, none⟩), .int .i64 (m.pc : Int)] 67 (0, 0))
  regs : OwnInts w W0.heap.size (.slice (some ⟨rg, 0, none⟩) 8 8) (listN 8 m.regs)
  slots : OwnInts w W0.heap.size (.slice (some ⟨sg, 0, none⟩) 40 40) (listN 40 m.slots)
  s : SAt W0 w P 0 (msR m) vb vc cb cc rv rb tb tc pb pc
  e1 : rg ≠ sg
  r1 : rg ≠ vb
  r2 : rg ≠ cb
  r3 : rg ≠ rb
  r4 : rg ≠ tb
  r5 : rg ≠ pb
  s1 : sg ≠ vb
  s2 : sg ≠ cb
  s3 : sg ≠ rb
  s4 : sg ≠ tb
  s5 : sg ≠ pb
  hT : W0.heap.size ≤ T
def TIs (W0 w : World) (T : Nat) (m : MacS) : Prop := ∃ P rg sg vb vc cb cc rv rb tb tc pb pc, TAt W0 w T P m rg sg vb vc cb cc rv rb tb tc pb pc

section
variable {W0 w w' : World} {T P : Nat} {m : MacS} {rg sg vb vc cb cc : Nat} {rv : Value} {rb tb tc pb pc : Nat}
theorem TAt.lt (h : TAt W0 w T P m rg sg vb vc cb cc rv rb tb tc pb pc) : T < w.heap.size := (Array.getElem?_eq_some_iff.1 h.box).1
theorem TAt.hTP (h : TAt W0 w T P m rg sg vb vc cb cc rv rb tb tc pb pc) : T ≠ P := by
  rintro rfl
  have := h.box.symm.trans h.s.box
  cases this
theorem TAt.hTr (h : TAt W0 w T P m rg sg vb vc cb cc rv rb tb tc pb pc) : T ≠ rg := not_row h.box (by decide) h.regs.heapOf
theorem TAt.hTs (h : TAt W0 w T P m rg sg vb vc cb cc rv rb tb tc pb pc) : T ≠ sg := not_row h.box (by decide) h.slots.heapOf
theorem TAt.hPr (h : TAt W0 w T P m rg sg vb vc cb cc rv rb tb tc pb pc) : P ≠ rg := not_row h.s.box (by decide) h.regs.heapOf
theorem TAt.hPs (h : TAt W0 w T P m rg sg vb vc cb cc rv rb tb tc pb pc) : P ≠ sg := not_row h.s.box (by decide) h.slots.heapOf
theorem TAt.hTc (h : TAt W0 w T P m rg sg vb vc cb cc rv rb tb tc pb pc) : T ≠ cb := not_row h.box (by decide) h.s.cells.heapOf
theorem TAt.cell (h : TAt W0 w T P m rg sg vb vc cb cc rv rb tb tc pb pc) : w.cell? ⟨T, 0, none⟩ = some (.slice (some ⟨rg, 0, none⟩) 8 8) ∧ w.cell? ⟨T, 1, none⟩ = some (.slice (some ⟨sg, 0, none⟩) 40 40) ∧ w.cell? ⟨T, 2, none⟩ = some (.pointer (some ⟨P, 0, none⟩)) ∧ w.cell? ⟨T, 3, none⟩ = some (.int .i64 (m.pc : Int)) := by
  refine ⟨?_, ?_, ?_, ?_⟩ <;> simp [World.cell?, h.box]
theorem TAt.frozen (h : TAt W0 w T P m rg sg vb vc cb cc rv rb tb tc pb pc) (o : Nat) : w.frozen? ⟨T, o, none⟩ = false := frozen_of_cells ⟨_, h.box⟩ o
theorem TAt.regAt (h : TAt W0 w T P m rg sg vb vc cb cc rv rb tb tc pb pc) {i : Nat} (hi : i < 8) : w.cell? ⟨rg, i, none⟩ = some (.int .i64 (m.regs i)) := by
  rw [h.regs.cellAt hi, listN_at _ _ hi]
theorem TAt.slotAt (h : TAt W0 w T P m rg sg vb vc cb cc rv rb tb tc pb pc) {i : Nat} (hi : i < 40) : w.cell? ⟨sg, i, none⟩ = some (.int .i64 (m.slots i)) := by
  rw [h.slots.cellAt hi, listN_at _ _ hi]
theorem TAt.later (h : TAt W0 w T P m rg sg vb vc cb cc rv rb tb tc pb pc) (hb : Below w.heap.size w w') : TAt W0 w' T P m rg sg vb vc cb cc rv rb tb tc pb pc :=
  ⟨(hb.block _ h.lt).trans h.box, h.regs.keep hb, h.slots.keep hb, h.s.later hb, h.e1, h.r1, h.r2, h.r3, h.r4, h.r5, h.s1, h.s2, h.s3, h.s4, h.s5, h.hT⟩
theorem TAt.drew (h : TAt W0 w T P m rg sg vb vc cb cc rv rb tb tc pb pc) : TAt W0 w.drew T P m rg sg vb vc cb cc rv rb tb tc pb pc := h.later (Below.refl _ _).drew
theorem TAt.below (h : TAt W0 w T P m rg sg vb vc cb cc rv rb tb tc pb pc) : Below W0.heap.size W0 w := h.s.below
theorem TAt.setReg (h : TAt W0 w T P m rg sg vb vc cb cc rv rb tb tc pb pc) {d : Nat} (hd : d < 8) (x : Int) : TAt W0 (w.setCell ⟨rg, d, none⟩ (.int .i64 x)) T P { m with regs := updN m.regs d x } rg sg vb vc cb cc rv rb tb tc pb pc := by
  have o : ∀ b, b ≠ rg → (w.setCell ⟨rg, d, none⟩ (.int .i64 x)).heap[b]? = w.heap[b]? := fun b hb => heap_setCell_other _ _ _ _ hb
  refine ⟨(o T h.hTr).trans h.box, ?_, h.slots.moved (o sg h.e1.symm), h.s.moved (h.below.setCell (p := ⟨rg, d, none⟩) (own_lo h.regs) _) (o P h.hPr) (o vb h.r1.symm) (o cb h.r2.symm) (o rb h.r3.symm) (o tb h.r4.symm) (o pb h.r5.symm), h.e1, h.r1, h.r2, h.r3, h.r4, h.r5, h.s1, h.s2, h.s3, h.s4, h.s5, h.hT⟩
  have := h.regs.setAt hd x
  rw [listN_set] at this
  exact this
theorem TAt.setSlot (h : TAt W0 w T P m rg sg vb vc cb cc rv rb tb tc pb pc) {d : Nat} (hd : d < 40) (x : Int) : TAt W0 (w.setCell ⟨sg, d, none⟩ (.int .i64 x)) T P { m with slots := updN m.slots d x } rg sg vb vc cb cc rv rb tb tc pb pc := by
  have o : ∀ b, b ≠ sg → (w.setCell ⟨sg, d, none⟩ (.int .i64 x)).heap[b]? = w.heap[b]? := fun b hb => heap_setCell_other _ _ _ _ hb
  refine ⟨(o T h.hTs).trans h.box, h.regs.moved (o rg h.e1), ?_, h.s.moved (h.below.setCell (p := ⟨sg, d, none⟩) (own_lo h.slots) _) (o P h.hPs) (o vb h.s1.symm) (o cb h.s2.symm) (o rb h.s3.symm) (o tb h.s4.symm) (o pb h.s5.symm), h.e1, h.r1, h.r2, h.r3, h.r4, h.r5, h.s1, h.s2, h.s3, h.s4, h.s5, h.hT⟩
  have := h.slots.setAt hd x
  rw [listN_set] at this
  exact this
theorem TAt.setC (h : TAt W0 w T P m rg sg vb vc cb cc rv rb tb tc pb pc) {d : Nat} (hd : d < 8) (x : Int) : TAt W0 (w.setCell ⟨cb, d, none⟩ (.int .i64 x)) T P { m with cells := updN m.cells d x } rg sg vb vc cb cc rv rb tb tc pb pc := by
  have o : ∀ b, b ≠ cb → (w.setCell ⟨cb, d, none⟩ (.int .i64 x)).heap[b]? = w.heap[b]? := fun b hb => heap_setCell_other _ _ _ _ hb
  exact ⟨(o T h.hTc).trans h.box, h.regs.moved (o rg h.r2), h.slots.moved (o sg h.s2), h.s.setCell hd x, h.e1, h.r1, h.r2, h.r3, h.r4, h.r5, h.s1, h.s2, h.s3, h.s4, h.s5, h.hT⟩
theorem TAt.setPc (h : TAt W0 w T P m rg sg vb vc cb cc rv rb tb tc pb pc) (k : Nat) : TAt W0 (w.setCell ⟨T, 3, none⟩ (.int .i64 (k : Int))) T P { m with pc := k } rg sg vb vc cb cc rv rb tb tc pb pc := by
  have o : ∀ b, b ≠ T → (w.setCell ⟨T, 3, none⟩ (.int .i64 (k : Int))).heap[b]? = w.heap[b]? := fun b hb => heap_setCell_other _ _ _ _ hb
  have r : ∀ {g n cap : Nat} {l : List Int}, OwnInts w W0.heap.size (.slice (some ⟨g, 0, none⟩) n cap) l → g ≠ T := fun hg => (not_row h.box (by decide) hg.heapOf).symm
  have hr := h.s.reads
  obtain ⟨_, _, _, _, _, _, hc, _⟩ := hr
  exact ⟨heap_setCell_same _ _ _ _ _ _ h.box, h.regs.moved (o rg h.hTr.symm), h.slots.moved (o sg h.hTs.symm), h.s.moved (h.below.setCell (p := ⟨T, 3, none⟩) h.hT _) (o P h.hTP.symm) (o vb (r h.s.vals)) (o cb (r h.s.cells)) (o rb (not_row h.box (by decide) hc).symm) (o tb (r h.s.told)) (o pb (r h.s.path)), h.e1, h.r1, h.r2, h.r3, h.r4, h.r5, h.s1, h.s2, h.s3, h.s4, h.s5, h.hT⟩
theorem TAt.setReads (h : TAt W0 w T P m rg sg vb vc cb cc rv rb tb tc pb pc) {x : Value} {l : List Int} (hx : ReadsIn w W0.heap.size x rb l) : TAt W0 (w.setCell ⟨P, 2, none⟩ x) T P { m with reads := l } rg sg vb vc cb cc x rb tb tc pb pc := by
  have o : ∀ b, b ≠ P → (w.setCell ⟨P, 2, none⟩ x).heap[b]? = w.heap[b]? := fun b hb => heap_setCell_other _ _ _ _ hb
  exact ⟨(o T h.hTP).trans h.box, h.regs.moved (o rg h.hPr.symm), h.slots.moved (o sg h.hPs.symm), h.s.setReads hx, h.e1, h.r1, h.r2, h.r3, h.r4, h.r5, h.s1, h.s2, h.s3, h.s4, h.s5, h.hT⟩
/-- What an append to what was told leaves. -/
theorem TAt.told_grown (h : TAt W0 w T P m rg sg vb vc cb cc rv rb tb tc pb pc) {x : Int} {wa : World} {g cap : Nat} (hown : OwnInts wa W0.heap.size (.slice (some ⟨g, 0, none⟩) (m.told.length + 1) cap) (m.told ++ [x])) (hg : (w.alloc (.cells #[.int .i64 x] 3)).grownBy wa (some tb)) (hat : g = tb ∨ g = w.heap.size + 1) :
    wa.heap[P]? = w.heap[P]? ∧ wa.heap[T]? = w.heap[T]? ∧ TAt W0 (wa.setCell ⟨P, 3, none⟩ (.slice (some ⟨g, 0, none⟩) (m.told.length + 1) cap)) T P { m with told := m.told ++ [x] } rg sg vb vc cb cc rv rb g cap pb pc := by
  obtain ⟨q1, _, _, q4⟩ := SAt.told_grown h.s hown hg hat
  have o : ∀ b, b ≠ P → (wa.setCell ⟨P, 3, none⟩ (.slice (some ⟨g, 0, none⟩) (m.told.length + 1) cap)).heap[b]? = wa.heap[b]? := fun b hb => heap_setCell_other _ _ _ _ hb
  have ot : ∀ b, b < w.heap.size → b ≠ tb → wa.heap[b]? = w.heap[b]? := fun b h1 h2 => (hg.block b (by simp; omega) (by simpa using h2)).trans (Below.heap_alloc _ _ _ h1)
  have lr := (World.ownsRow.lt h.regs rg rfl).2
  have ls := (World.ownsRow.lt h.slots sg rfl).2
  have hTt : T ≠ tb := not_row h.box (by decide) h.s.told.heapOf
  have e1 := h.r4
  have e2 := h.s4
  have eT := ot T h.lt hTt
  refine ⟨q1, eT, (o T h.hTP).trans (eT.trans h.box), h.regs.moved ((o rg h.hPr.symm).trans (ot rg lr e1)), h.slots.moved ((o sg h.hPs.symm).trans (ot sg ls e2)), q4, h.e1, h.r1, h.r2, h.r3, by omega, h.r5, h.s1, h.s2, h.s3, by omega, h.s5, h.hT⟩
end
end Go.Proofs.YtjcocpdicogecaaGreatDoor

namespace Go.Proofs.YtjcocpdicogecaaGreatDoor
open Go.ChangeShapes Go.WideShapes Go.ChangeAt Go.RowKit Go.Shelf
set_option linter.unusedVariables false

/-- The cells of a machine. -/
structure MacCells (w : World) (M : Nat) (regs slots cells : Nat → Int) (fuel pc : Int) (over : Bool) (how en : Int) (rv tv : Value) : Prop where
  row : ∃ c, w.heap[M]? = some (.cells c 79 (0, 0))
  c0 : w.cell? ⟨M, 0, none⟩ = some rv
  c1 : w.cell? ⟨M, 1, none⟩ = some (.int .i64 fuel)
  cc : ∀ i, i < 8 → w.cell? ⟨M, 2 + i, none⟩ = some (.int .i64 (cells i))
  c10 : w.cell? ⟨M, 10, none⟩ = some tv
  c11 : w.cell? ⟨M, 11, none⟩ = some (.int .i64 pc)
  cr : ∀ i, i < 8 → w.cell? ⟨M, 12 + i, none⟩ = some (.int .i64 (regs i))
  cs : ∀ i, i < 40 → w.cell? ⟨M, 20 + i, none⟩ = some (.int .i64 (slots i))
  c60 : w.cell? ⟨M, 60, none⟩ = some (.bool over)
  c61 : w.cell? ⟨M, 61, none⟩ = some (.int .i64 how)
  c62 : w.cell? ⟨M, 62, none⟩ = some (.int .i64 en)
section
variable {w w' : World} {M : Nat} {regs slots cells : Nat → Int} {fuel pc : Int} {over : Bool} {how en : Int} {rv tv : Value}
theorem MacCells.lt (h : MacCells w M regs slots cells fuel pc over how en rv tv) : M < w.heap.size := by
  obtain ⟨c, hc⟩ := h.row
  exact (Array.getElem?_eq_some_iff.1 hc).1
theorem MacCells.moved (h : MacCells w M regs slots cells fuel pc over how en rv tv) (hr : w'.heap[M]? = w.heap[M]?) : MacCells w' M regs slots cells fuel pc over how en rv tv :=
  ⟨by rw [hr]; exact h.row, (cell_of_heap hr _).trans h.c0, (cell_of_heap hr _).trans h.c1, fun i hi => (cell_of_heap hr _).trans (h.cc i hi), (cell_of_heap hr _).trans h.c10, (cell_of_heap hr _).trans h.c11, fun i hi => (cell_of_heap hr _).trans (h.cr i hi), fun i hi => (cell_of_heap hr _).trans (h.cs i hi), (cell_of_heap hr _).trans h.c60, (cell_of_heap hr _).trans h.c61, (cell_of_heap hr _).trans h.c62⟩
theorem MacCells.later (h : MacCells w M regs slots cells fuel pc over how en rv tv) (hb : Below w.heap.size w w') : MacCells w' M regs slots cells fuel pc over how en rv tv := h.moved (hb.block _ h.lt)
theorem MacCells.setReg (h : MacCells w M regs slots cells fuel pc over how en rv tv) {d : Nat} (hd : d < 8) (x : Int) : MacCells (w.setCell ⟨M, 12 + d, none⟩ (.int .i64 x)) M (updN regs d x) slots cells fuel pc over how en rv tv := by
  refine ⟨rcells_set h.row, far_off h.c0 (by omega), far_off h.c1 (by omega), fun i hi => far_off (h.cc i hi) (by omega), far_off h.c10 (by omega), far_off h.c11 (by omega), fun i hi => ?_, fun i hi => far_off (h.cs i hi) (by omega), far_off h.c60 (by omega), far_off h.c61 (by omega), far_off h.c62 (by omega)⟩
  unfold updN
  by_cases e : i = d
  · subst e
    rw [if_pos rfl]
    exact World.cell?_setCell_same _ _ _ (h.cr i hi)
  · rw [if_neg e]
    exact far_off (h.cr i hi) (by omega)
theorem MacCells.setSlot (h : MacCells w M regs slots cells fuel pc over how en rv tv) {d : Nat} (hd : d < 40) (x : Int) : MacCells (w.setCell ⟨M, 20 + d, none⟩ (.int .i64 x)) M regs (updN slots d x) cells fuel pc over how en rv tv := by
  refine ⟨rcells_set h.row, far_off h.c0 (by omega), far_off h.c1 (by omega), fun i hi => far_off (h.cc i hi) (by omega), far_off h.c10 (by omega), far_off h.c11 (by omega), fun i hi => far_off (h.cr i hi) (by omega), fun i hi => ?_, far_off h.c60 (by omega), far_off h.c61 (by omega), far_off h.c62 (by omega)⟩
  unfold updN
  by_cases e : i = d
  · subst e
    rw [if_pos rfl]
    exact World.cell?_setCell_same _ _ _ (h.cs i hi)
  · rw [if_neg e]
    exact far_off (h.cs i hi) (by omega)
theorem MacCells.setCell (h : MacCells w M regs slots cells fuel pc over how en rv tv) {d : Nat} (hd : d < 8) (x : Int) : MacCells (w.setCell ⟨M, 2 + d, none⟩ (.int .i64 x)) M regs slots (updN cells d x) fuel pc over how en rv tv := by
  refine ⟨rcells_set h.row, far_off h.c0 (by omega), far_off h.c1 (by omega), fun i hi => ?_, far_off h.c10 (by omega), far_off h.c11 (by omega), fun i hi => far_off (h.cr i hi) (by omega), fun i hi => far_off (h.cs i hi) (by omega), far_off h.c60 (by omega), far_off h.c61 (by omega), far_off h.c62 (by omega)⟩
  unfold updN
  by_cases e : i = d
  · subst e
    rw [if_pos rfl]
    exact World.cell?_setCell_same _ _ _ (h.cc i hi)
  · rw [if_neg e]
    exact far_off (h.cc i hi) (by omega)
theorem MacCells.setReads (h : MacCells w M regs slots cells fuel pc over how en rv tv) (x : Value) : MacCells (w.setCell ⟨M, 0, none⟩ x) M regs slots cells fuel pc over how en x tv :=
  ⟨rcells_set h.row, World.cell?_setCell_same _ _ _ h.c0, far_off h.c1 (by omega), fun i hi => far_off (h.cc i hi) (by omega), far_off h.c10 (by omega), far_off h.c11 (by omega), fun i hi => far_off (h.cr i hi) (by omega), fun i hi => far_off (h.cs i hi) (by omega), far_off h.c60 (by omega), far_off h.c61 (by omega), far_off h.c62 (by omega)⟩
theorem MacCells.setFuel (h : MacCells w M regs slots cells fuel pc over how en rv tv) (x : Int) : MacCells (w.setCell ⟨M, 1, none⟩ (.int .i64 x)) M regs slots cells x pc over how en rv tv :=
  ⟨rcells_set h.row, far_off h.c0 (by omega), World.cell?_setCell_same _ _ _ h.c1, fun i hi => far_off (h.cc i hi) (by omega), far_off h.c10 (by omega), far_off h.c11 (by omega), fun i hi => far_off (h.cr i hi) (by omega), fun i hi => far_off (h.cs i hi) (by omega), far_off h.c60 (by omega), far_off h.c61 (by omega), far_off h.c62 (by omega)⟩
theorem MacCells.setTold (h : MacCells w M regs slots cells fuel pc over how en rv tv) (x : Value) : MacCells (w.setCell ⟨M, 10, none⟩ x) M regs slots cells fuel pc over how en rv x :=
  ⟨rcells_set h.row, far_off h.c0 (by omega), far_off h.c1 (by omega), fun i hi => far_off (h.cc i hi) (by omega), World.cell?_setCell_same _ _ _ h.c10, far_off h.c11 (by omega), fun i hi => far_off (h.cr i hi) (by omega), fun i hi => far_off (h.cs i hi) (by omega), far_off h.c60 (by omega), far_off h.c61 (by omega), far_off h.c62 (by omega)⟩
theorem MacCells.setPc (h : MacCells w M regs slots cells fuel pc over how en rv tv) (x : Int) : MacCells (w.setCell ⟨M, 11, none⟩ (.int .i64 x)) M regs slots cells fuel x over how en rv tv :=
  ⟨rcells_set h.row, far_off h.c0 (by omega), far_off h.c1 (by omega), fun i hi => far_off (h.cc i hi) (by omega), far_off h.c10 (by omega), World.cell?_setCell_same _ _ _ h.c11, fun i hi => far_off (h.cr i hi) (by omega), fun i hi => far_off (h.cs i hi) (by omega), far_off h.c60 (by omega), far_off h.c61 (by omega), far_off h.c62 (by omega)⟩
theorem MacCells.setOver (h : MacCells w M regs slots cells fuel pc over how en rv tv) (x : Bool) : MacCells (w.setCell ⟨M, 60, none⟩ (.bool x)) M regs slots cells fuel pc x how en rv tv :=
  ⟨rcells_set h.row, far_off h.c0 (by omega), far_off h.c1 (by omega), fun i hi => far_off (h.cc i hi) (by omega), far_off h.c10 (by omega), far_off h.c11 (by omega), fun i hi => far_off (h.cr i hi) (by omega), fun i hi => far_off (h.cs i hi) (by omega), World.cell?_setCell_same _ _ _ h.c60, far_off h.c61 (by omega), far_off h.c62 (by omega)⟩
theorem MacCells.setHow (h : MacCells w M regs slots cells fuel pc over how en rv tv) (x : Int) : MacCells (w.setCell ⟨M, 61, none⟩ (.int .i64 x)) M regs slots cells fuel pc over x en rv tv :=
  ⟨rcells_set h.row, far_off h.c0 (by omega), far_off h.c1 (by omega), fun i hi => far_off (h.cc i hi) (by omega), far_off h.c10 (by omega), far_off h.c11 (by omega), fun i hi => far_off (h.cr i hi) (by omega), fun i hi => far_off (h.cs i hi) (by omega), far_off h.c60 (by omega), World.cell?_setCell_same _ _ _ h.c61, far_off h.c62 (by omega)⟩
theorem MacCells.setEnd (h : MacCells w M regs slots cells fuel pc over how en rv tv) (x : Int) : MacCells (w.setCell ⟨M, 62, none⟩ (.int .i64 x)) M regs slots cells fuel pc over how x rv tv :=
  ⟨rcells_set h.row, far_off h.c0 (by omega), far_off h.c1 (by omega), fun i hi => far_off (h.cc i hi) (by omega), far_off h.c10 (by omega), far_off h.c11 (by omega), fun i hi => far_off (h.cr i hi) (by omega), fun i hi => far_off (h.cs i hi) (by omega), far_off h.c60 (by omega), far_off h.c61 (by omega), World.cell?_setCell_same _ _ _ h.c62⟩
end

/-- How a machine stands besides: its fuel, whether it is over, how, and the end. -/
structure MacE where
  fuel : Nat
  over : Bool
  how : Int
  en : Int

/-- A machine, with all that belongs to it. -/
structure MacAt (W0 w : World) (M : Nat) (m : MacS) (x : MacE) (rv tv : Value) : Prop where
  cells : MacCells w M m.regs m.slots m.cells (x.fuel : Int) (m.pc : Int) x.over x.how x.en rv tv
  reads : ReadsAt W0 rv m.reads
  told : OwnInts w W0.heap.size tv m.told
  below : Below W0.heap.size W0 w
  hM : W0.heap.size ≤ M
def MacIs (W0 w : World) (M : Nat) (m : MacS) (x : MacE) : Prop := ∃ rv tv, MacAt W0 w M m x rv tv
/-- A machine that has come to m. -/
def MacTo (W0 : World) (M : Nat) (w : World) (m : MacS) (x : MacE) (w' : World) : Prop := MacIs W0 w' M m x ∧ FrR M M w w'

section
variable {W0 w w' : World} {M : Nat} {m : MacS} {x : MacE} {rv tv : Value}
theorem MacAt.later (h : MacAt W0 w M m x rv tv) (hb : Below w.heap.size w w') : MacAt W0 w' M m x rv tv := ⟨h.cells.later hb, h.reads, h.told.keep hb, Bel.after h.below hb, h.hM⟩
theorem MacAt.drew (h : MacAt W0 w M m x rv tv) : MacAt W0 w.drew M m x rv tv := h.later (Below.refl _ _).drew
theorem MacIs.later (h : MacIs W0 w M m x) (hb : Below w.heap.size w w') : MacIs W0 w' M m x := by
  obtain ⟨rv, tv, h⟩ := h
  exact ⟨rv, tv, h.later hb⟩
theorem MacIs.lt (h : MacIs W0 w M m x) : M < w.heap.size := by
  obtain ⟨rv, tv, h⟩ := h
  exact h.cells.lt
theorem MacAt.frozen (h : MacAt W0 w M m x rv tv) (o : Nat) : w.frozen? ⟨M, o, none⟩ = false := frozen_of_cells h.cells.row o
theorem MacAt.setReg (h : MacAt W0 w M m x rv tv) {d : Nat} (hd : d < 8) (y : Int) : MacAt W0 (w.setCell ⟨M, 12 + d, none⟩ (.int .i64 y)) M { m with regs := updN m.regs d y } x rv tv :=
  ⟨h.cells.setReg hd y, h.reads, own_far h.told h.cells.row (by decide), h.below.setCell (p := ⟨M, 12 + d, none⟩) h.hM _, h.hM⟩
theorem MacAt.setSlot (h : MacAt W0 w M m x rv tv) {d : Nat} (hd : d < 40) (y : Int) : MacAt W0 (w.setCell ⟨M, 20 + d, none⟩ (.int .i64 y)) M { m with slots := updN m.slots d y } x rv tv :=
  ⟨h.cells.setSlot hd y, h.reads, own_far h.told h.cells.row (by decide), h.below.setCell (p := ⟨M, 20 + d, none⟩) h.hM _, h.hM⟩
theorem MacAt.setCell (h : MacAt W0 w M m x rv tv) {d : Nat} (hd : d < 8) (y : Int) : MacAt W0 (w.setCell ⟨M, 2 + d, none⟩ (.int .i64 y)) M { m with cells := updN m.cells d y } x rv tv :=
  ⟨h.cells.setCell hd y, h.reads, own_far h.told h.cells.row (by decide), h.below.setCell (p := ⟨M, 2 + d, none⟩) h.hM _, h.hM⟩
theorem MacAt.setFuel (h : MacAt W0 w M m x rv tv) (k : Nat) : MacAt W0 (w.setCell ⟨M, 1, none⟩ (.int .i64 (k : Int))) M m { x with fuel := k } rv tv :=
  ⟨h.cells.setFuel k, h.reads, own_far h.told h.cells.row (by decide), h.below.setCell (p := ⟨M, 1, none⟩) h.hM _, h.hM⟩
theorem MacAt.setPc (h : MacAt W0 w M m x rv tv) (k : Nat) : MacAt W0 (w.setCell ⟨M, 11, none⟩ (.int .i64 (k : Int))) M { m with pc := k } x rv tv :=
  ⟨h.cells.setPc k, h.reads, own_far h.told h.cells.row (by decide), h.below.setCell (p := ⟨M, 11, none⟩) h.hM _, h.hM⟩
theorem MacAt.setOver (h : MacAt W0 w M m x rv tv) (b : Bool) : MacAt W0 (w.setCell ⟨M, 60, none⟩ (.bool b)) M m { x with over := b } rv tv :=
  ⟨h.cells.setOver b, h.reads, own_far h.told h.cells.row (by decide), h.below.setCell (p := ⟨M, 60, none⟩) h.hM _, h.hM⟩
theorem MacAt.setHow (h : MacAt W0 w M m x rv tv) (y : Int) : MacAt W0 (w.setCell ⟨M, 61, none⟩ (.int .i64 y)) M m { x with how := y } rv tv :=
  ⟨h.cells.setHow y, h.reads, own_far h.told h.cells.row (by decide), h.below.setCell (p := ⟨M, 61, none⟩) h.hM _, h.hM⟩
theorem MacAt.setEnd (h : MacAt W0 w M m x rv tv) (y : Int) : MacAt W0 (w.setCell ⟨M, 62, none⟩ (.int .i64 y)) M m { x with en := y } rv tv :=
  ⟨h.cells.setEnd y, h.reads, own_far h.told h.cells.row (by decide), h.below.setCell (p := ⟨M, 62, none⟩) h.hM _, h.hM⟩
theorem MacAt.setReads (h : MacAt W0 w M m x rv tv) {y : Value} {l : List Int} (hx : ReadsAt W0 y l) : MacAt W0 (w.setCell ⟨M, 0, none⟩ y) M { m with reads := l } x y tv :=
  ⟨h.cells.setReads y, hx, own_far h.told h.cells.row (by decide), h.below.setCell (p := ⟨M, 0, none⟩) h.hM _, h.hM⟩
end
end Go.Proofs.YtjcocpdicogecaaGreatDoor
