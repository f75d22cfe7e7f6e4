/- For every op, a and b the program's Word and the model's Word both return one and the same number, which is told by a plain function 'wordV'; neither writes anything that was there. -/
import Derived.Test.YtebcocehdjoafaaDoorRows
import Derived.WalkKit
import Derived.ProofKit
import Derived.OpenShut
import Derived.Laws.EntriesVeiled
import Derived.Laws.Shifts
import Derived.Below
namespace Go.Proofs.YtebcocehdjoafaaDoor
open Go.ChangeShapes Go.WideShapes Go.ChangeAt Go.RowKit
set_option linter.unusedVariables false

theorem ret_int {k : IntKind} {a b : Int} (h : a = b) : Ending.returned (.int k a) = .returned (.int k b) := by rw [h]

theorem and63 (b : Int) : bits .and .i64 b 63 = b % 64 := by
  have h : (BitVec.ofInt 64 b &&& BitVec.ofInt 64 63).toNat = (BitVec.ofInt 64 b).toNat % 64 := by
    rw [BitVec.toNat_and]
    exact Nat.and_two_pow_sub_one_eq_mod _ 6
  have h2 : (BitVec.ofInt 64 b).toNat = (b % 18446744073709551616).toNat := by
    rw [BitVec.toNat_ofInt]; rfl
  show IntKind.i64.wrap ((BitVec.ofInt 64 b &&& BitVec.ofInt 64 63).toNat : Int) = _
  rw [h, h2]
  simp [IntKind.wrap, IntKind.bits, IntKind.signed]
  omega

theorem and63_nonneg (b : Int) : 0 ≤ bits .and .i64 b 63 := by rw [and63]; omega

theorem min63 (b : Int) : min (bits .and .i64 b 63).toNat 64 = (b % 64).toNat := by rw [and63]; omega

/-- What Word answers. -/
def wordV (op a b : Int) : Int :=
  if op = 1 then (wrap64 (a + b))
  else if op = 2 then (wrap64 (a - b))
  else if op = 3 then (wrap64 (a * b))
  else if op = 4 then (bits .and .i64 a b)
  else if op = 5 then (bits .or .i64 a b)
  else if op = 6 then (bits .xor .i64 a b)
  else if op = 7 then (if a < b then 1 else 0)
  else if op = 8 then (if a = b then 1 else 0)
  else if op = 9 then (wrap64 (a * 2 ^ (b % 64).toNat))
  else if op = 10 then (a / 2 ^ (b % 64).toNat)
  else 0

theorem wordV_1 (a b : Int) : wordV 1 a b = (wrap64 (a + b)) := by simp [wordV]
theorem wordV_2 (a b : Int) : wordV 2 a b = (wrap64 (a - b)) := by simp [wordV]
theorem wordV_3 (a b : Int) : wordV 3 a b = (wrap64 (a * b)) := by simp [wordV]
theorem wordV_4 (a b : Int) : wordV 4 a b = (bits .and .i64 a b) := by simp [wordV]
theorem wordV_5 (a b : Int) : wordV 5 a b = (bits .or .i64 a b) := by simp [wordV]
theorem wordV_6 (a b : Int) : wordV 6 a b = (bits .xor .i64 a b) := by simp [wordV]
theorem wordV_7 (a b : Int) : wordV 7 a b = (if a < b then 1 else 0) := by simp [wordV]
theorem wordV_8 (a b : Int) : wordV 8 a b = (if a = b then 1 else 0) := by simp [wordV]
theorem wordV_9 (a b : Int) : wordV 9 a b = (wrap64 (a * 2 ^ (b % 64).toNat)) := by simp [wordV]
theorem wordV_10 (a b : Int) : wordV 10 a b = (a / 2 ^ (b % 64).toNat) := by simp [wordV]
theorem wordV_no (op a b : Int) (h : op < 1 ∨ 10 < op) : wordV op a b = 0 := by
  unfold wordV
  repeat rw [if_neg (by omega)]

/-- What is told of the world behind the program's Word: nothing that was there has turned. -/
def Quiet (w w' : World) : Prop := Grown w w' ∧ Below w.heap.size w w'
theorem Quiet.refl (w : World) : Quiet w w := ⟨Grown.refl _, Below.refl _ _⟩
theorem Quiet.one (w : World) (c : Array Value) (t : TypeId) : Quiet w (w.alloc (.cells c t)) := ⟨Grown.alloc (Grown.refl _) _ _, (Below.refl _ _).alloc (Nat.le_refl _) _⟩

set_option maxHeartbeats 400000 in
theorem implW_1 (a b : Int) (w : World) :
    Calls Tryd.prog 73 #[.int .i64 1, .int .i64 a, .int .i64 b] w fun e w' => e = .returned (.int .i64 (wordV 1 a b)) ∧ Quiet w w' := by
  go_enter Tryd.func73, Tryd.ntmps73
  go_wp2
  go_ret
  exact ⟨ret_int (wordV_1 a b).symm, Quiet.one _ _ _⟩

set_option maxHeartbeats 400000 in
theorem implW_2 (a b : Int) (w : World) :
    Calls Tryd.prog 73 #[.int .i64 2, .int .i64 a, .int .i64 b] w fun e w' => e = .returned (.int .i64 (wordV 2 a b)) ∧ Quiet w w' := by
  go_enter Tryd.func73, Tryd.ntmps73
  go_wp2
  go_ret
  exact ⟨ret_int (wordV_2 a b).symm, Quiet.one _ _ _⟩

set_option maxHeartbeats 400000 in
theorem implW_3 (a b : Int) (w : World) :
    Calls Tryd.prog 73 #[.int .i64 3, .int .i64 a, .int .i64 b] w fun e w' => e = .returned (.int .i64 (wordV 3 a b)) ∧ Quiet w w' := by
  go_enter Tryd.func73, Tryd.ntmps73
  go_wp2
  go_ret
  exact ⟨ret_int (wordV_3 a b).symm, Quiet.one _ _ _⟩

set_option maxHeartbeats 400000 in
theorem implW_4 (a b : Int) (w : World) :
    Calls Tryd.prog 73 #[.int .i64 4, .int .i64 a, .int .i64 b] w fun e w' => e = .returned (.int .i64 (wordV 4 a b)) ∧ Quiet w w' := by
  go_enter Tryd.func73, Tryd.ntmps73
  go_wp2
  go_ret
  exact ⟨ret_int (wordV_4 a b).symm, Quiet.one _ _ _⟩

set_option maxHeartbeats 400000 in
theorem implW_5 (a b : Int) (w : World) :
    Calls Tryd.prog 73 #[.int .i64 5, .int .i64 a, .int .i64 b] w fun e w' => e = .returned (.int .i64 (wordV 5 a b)) ∧ Quiet w w' := by
  go_enter Tryd.func73, Tryd.ntmps73
  go_wp2
  go_ret
  exact ⟨ret_int (wordV_5 a b).symm, Quiet.one _ _ _⟩

set_option maxHeartbeats 400000 in
theorem implW_6 (a b : Int) (w : World) :
    Calls Tryd.prog 73 #[.int .i64 6, .int .i64 a, .int .i64 b] w fun e w' => e = .returned (.int .i64 (wordV 6 a b)) ∧ Quiet w w' := by
  go_enter Tryd.func73, Tryd.ntmps73
  go_wp2
  go_ret
  exact ⟨ret_int (wordV_6 a b).symm, Quiet.one _ _ _⟩

set_option maxHeartbeats 400000 in
theorem implW_7 (a b : Int) (w : World) :
    Calls Tryd.prog 73 #[.int .i64 7, .int .i64 a, .int .i64 b] w fun e w' => e = .returned (.int .i64 (wordV 7 a b)) ∧ Quiet w w' := by
  by_cases h : a < b
  · go_enter Tryd.func73, Tryd.ntmps73
    go_wp2
    go_ret
    exact ⟨ret_int (by rw [wordV_7, if_pos h]), Quiet.one _ _ _⟩
  · go_enter Tryd.func73, Tryd.ntmps73
    go_wp2
    go_ret
    exact ⟨ret_int (by rw [wordV_7, if_neg (by omega)]), Quiet.one _ _ _⟩

set_option maxHeartbeats 400000 in
theorem implW_8 (a b : Int) (w : World) :
    Calls Tryd.prog 73 #[.int .i64 8, .int .i64 a, .int .i64 b] w fun e w' => e = .returned (.int .i64 (wordV 8 a b)) ∧ Quiet w w' := by
  by_cases h : a = b
  · subst h
    have he : (a == a) = true := by simp
    go_enter Tryd.func73, Tryd.ntmps73
    go_wp2
    go_ret
    exact ⟨ret_int (by rw [wordV_8, if_pos rfl]), Quiet.one _ _ _⟩
  · have he : (a == b) = false := by simpa using h
    go_enter Tryd.func73, Tryd.ntmps73
    go_wp2
    go_ret
    exact ⟨ret_int (by rw [wordV_8, if_neg h]), Quiet.one _ _ _⟩

set_option maxHeartbeats 400000 in
theorem implW_9 (a b : Int) (w : World) :
    Calls Tryd.prog 73 #[.int .i64 9, .int .i64 a, .int .i64 b] w fun e w' => e = .returned (.int .i64 (wordV 9 a b)) ∧ Quiet w w' := by
  have hb := and63_nonneg b
  go_enter Tryd.func73, Tryd.ntmps73
  go_wp2
  go_ret
  exact ⟨ret_int (by rw [wordV_9, min63]), Quiet.one _ _ _⟩

set_option maxHeartbeats 400000 in
theorem implW_10 (a b : Int) (w : World) :
    Calls Tryd.prog 73 #[.int .i64 10, .int .i64 a, .int .i64 b] w fun e w' => e = .returned (.int .i64 (wordV 10 a b)) ∧ Quiet w w' := by
  have hb := and63_nonneg b
  go_enter Tryd.func73, Tryd.ntmps73
  go_wp2
  go_ret
  exact ⟨ret_int (by rw [wordV_10, min63]), Quiet.one _ _ _⟩

set_option maxHeartbeats 400000 in
theorem implW_no (op a b : Int) (w : World) (h : op < 1 ∨ 10 < op) :
    Calls Tryd.prog 73 #[.int .i64 op, .int .i64 a, .int .i64 b] w fun e w' => e = .returned (.int .i64 (wordV op a b)) ∧ Quiet w w' := by
  have hv : Hid (wordV op a b = 0) := wordV_no op a b h
  rcases h with h | h
  · have h1 : ¬ 1 ≤ op := by omega
    go_enter Tryd.func73, Tryd.ntmps73
    go_wp2
    go_ret
    exact ⟨ret_int hv.out.symm, Quiet.refl _⟩
  · have h1 : 1 ≤ op := by omega
    have h2 : ¬ op < 11 := by omega
    go_enter Tryd.func73, Tryd.ntmps73
    go_wp2
    go_ret
    exact ⟨ret_int hv.out.symm, Quiet.refl _⟩

theorem impl_word (op a b : Int) (w : World) :
    Calls Tryd.prog 73 #[.int .i64 op, .int .i64 a, .int .i64 b] w fun e w' => e = .returned (.int .i64 (wordV op a b)) ∧ Quiet w w' := by
  by_cases h : op < 1 ∨ 10 < op
  · exact implW_no op a b w h
  · have h' : op = 1 ∨ op = 2 ∨ op = 3 ∨ op = 4 ∨ op = 5 ∨ op = 6 ∨ op = 7 ∨ op = 8 ∨ op = 9 ∨ op = 10 := by omega
    rcases h' with rfl | rfl | rfl | rfl | rfl | rfl | rfl | rfl | rfl | rfl
    · exact implW_1 a b w
    · exact implW_2 a b w
    · exact implW_3 a b w
    · exact implW_4 a b w
    · exact implW_5 a b w
    · exact implW_6 a b w
    · exact implW_7 a b w
    · exact implW_8 a b w
    · exact implW_9 a b w
    · exact implW_10 a b w

set_option maxHeartbeats 400000 in
theorem specW_1 (a b : Int) (w : World) :
    Calls Tryd.prog 47 #[.int .i64 1, .int .i64 a, .int .i64 b] w fun e w' => e = .returned (.int .i64 (wordV 1 a b)) ∧ w' = w := by
  go_enter Tryd.func47, Tryd.ntmps47
  go_wp2
  go_ret
  exact ⟨ret_int (wordV_1 a b).symm, rfl⟩

set_option maxHeartbeats 400000 in
theorem specW_2 (a b : Int) (w : World) :
    Calls Tryd.prog 47 #[.int .i64 2, .int .i64 a, .int .i64 b] w fun e w' => e = .returned (.int .i64 (wordV 2 a b)) ∧ w' = w := by
  go_enter Tryd.func47, Tryd.ntmps47
  go_wp2
  go_ret
  exact ⟨ret_int (wordV_2 a b).symm, rfl⟩

set_option maxHeartbeats 400000 in
theorem specW_3 (a b : Int) (w : World) :
    Calls Tryd.prog 47 #[.int .i64 3, .int .i64 a, .int .i64 b] w fun e w' => e = .returned (.int .i64 (wordV 3 a b)) ∧ w' = w := by
  go_enter Tryd.func47, Tryd.ntmps47
  go_wp2
  go_ret
  exact ⟨ret_int (wordV_3 a b).symm, rfl⟩

set_option maxHeartbeats 400000 in
theorem specW_4 (a b : Int) (w : World) :
    Calls Tryd.prog 47 #[.int .i64 4, .int .i64 a, .int .i64 b] w fun e w' => e = .returned (.int .i64 (wordV 4 a b)) ∧ w' = w := by
  go_enter Tryd.func47, Tryd.ntmps47
  go_wp2
  go_ret
  exact ⟨ret_int (wordV_4 a b).symm, rfl⟩

set_option maxHeartbeats 400000 in
theorem specW_5 (a b : Int) (w : World) :
    Calls Tryd.prog 47 #[.int .i64 5, .int .i64 a, .int .i64 b] w fun e w' => e = .returned (.int .i64 (wordV 5 a b)) ∧ w' = w := by
  go_enter Tryd.func47, Tryd.ntmps47
  go_wp2
  go_ret
  exact ⟨ret_int (wordV_5 a b).symm, rfl⟩

set_option maxHeartbeats 400000 in
theorem specW_6 (a b : Int) (w : World) :
    Calls Tryd.prog 47 #[.int .i64 6, .int .i64 a, .int .i64 b] w fun e w' => e = .returned (.int .i64 (wordV 6 a b)) ∧ w' = w := by
  go_enter Tryd.func47, Tryd.ntmps47
  go_wp2
  go_ret
  exact ⟨ret_int (wordV_6 a b).symm, rfl⟩

set_option maxHeartbeats 400000 in
theorem specW_7 (a b : Int) (w : World) :
    Calls Tryd.prog 47 #[.int .i64 7, .int .i64 a, .int .i64 b] w fun e w' => e = .returned (.int .i64 (wordV 7 a b)) ∧ w' = w := by
  by_cases h : a < b
  · go_enter Tryd.func47, Tryd.ntmps47
    go_wp2
    go_ret
    exact ⟨ret_int (by rw [wordV_7, if_pos h]), rfl⟩
  · go_enter Tryd.func47, Tryd.ntmps47
    go_wp2
    go_ret
    exact ⟨ret_int (by rw [wordV_7, if_neg (by omega)]), rfl⟩

set_option maxHeartbeats 400000 in
theorem specW_8 (a b : Int) (w : World) :
    Calls Tryd.prog 47 #[.int .i64 8, .int .i64 a, .int .i64 b] w fun e w' => e = .returned (.int .i64 (wordV 8 a b)) ∧ w' = w := by
  by_cases h : a = b
  · subst h
    have he : (a == a) = true := by simp
    go_enter Tryd.func47, Tryd.ntmps47
    go_wp2
    go_ret
    exact ⟨ret_int (by rw [wordV_8, if_pos rfl]), rfl⟩
  · have he : (a == b) = false := by simpa using h
    go_enter Tryd.func47, Tryd.ntmps47
    go_wp2
    go_ret
    exact ⟨ret_int (by rw [wordV_8, if_neg h]), rfl⟩

set_option maxHeartbeats 400000 in
theorem specW_9 (a b : Int) (w : World) :
    Calls Tryd.prog 47 #[.int .i64 9, .int .i64 a, .int .i64 b] w fun e w' => e = .returned (.int .i64 (wordV 9 a b)) ∧ w' = w := by
  have hb := and63_nonneg b
  go_enter Tryd.func47, Tryd.ntmps47
  go_wp2
  go_ret
  exact ⟨ret_int (by rw [wordV_9, min63]), rfl⟩

set_option maxHeartbeats 400000 in
theorem specW_10 (a b : Int) (w : World) :
    Calls Tryd.prog 47 #[.int .i64 10, .int .i64 a, .int .i64 b] w fun e w' => e = .returned (.int .i64 (wordV 10 a b)) ∧ w' = w := by
  have hb := and63_nonneg b
  go_enter Tryd.func47, Tryd.ntmps47
  go_wp2
  go_ret
  exact ⟨ret_int (by rw [wordV_10, min63]), rfl⟩

set_option maxHeartbeats 400000 in
theorem specW_no (op a b : Int) (w : World) (h : op < 1 ∨ 10 < op) :
    Calls Tryd.prog 47 #[.int .i64 op, .int .i64 a, .int .i64 b] w fun e w' => e = .returned (.int .i64 (wordV op a b)) ∧ w' = w := by
  have hv : Hid (wordV op a b = 0) := wordV_no op a b h
  rcases h with h | h
  · have e1 : (op == 1) = false := by simp; omega
    have e2 : (op == 2) = false := by simp; omega
    have e3 : (op == 3) = false := by simp; omega
    have e4 : (op == 4) = false := by simp; omega
    have e5 : (op == 5) = false := by simp; omega
    have e6 : (op == 6) = false := by simp; omega
    have e7 : (op == 7) = false := by simp; omega
    have e8 : (op == 8) = false := by simp; omega
    have e9 : (op == 9) = false := by simp; omega
    have e10 : (op == 10) = false := by simp; omega
    go_enter Tryd.func47, Tryd.ntmps47
    go_wp2
    go_ret
    exact ⟨ret_int hv.out.symm, rfl⟩
  · have e1 : (op == 1) = false := by simp; omega
    have e2 : (op == 2) = false := by simp; omega
    have e3 : (op == 3) = false := by simp; omega
    have e4 : (op == 4) = false := by simp; omega
    have e5 : (op == 5) = false := by simp; omega
    have e6 : (op == 6) = false := by simp; omega
    have e7 : (op == 7) = false := by simp; omega
    have e8 : (op == 8) = false := by simp; omega
    have e9 : (op == 9) = false := by simp; omega
    have e10 : (op == 10) = false := by simp; omega
    go_enter Tryd.func47, Tryd.ntmps47
    go_wp2
    go_ret
    exact ⟨ret_int hv.out.symm, rfl⟩

theorem spec_word (op a b : Int) (w : World) :
    Calls Tryd.prog 47 #[.int .i64 op, .int .i64 a, .int .i64 b] w fun e w' => e = .returned (.int .i64 (wordV op a b)) ∧ w' = w := by
  by_cases h : op < 1 ∨ 10 < op
  · exact specW_no op a b w h
  · have h' : op = 1 ∨ op = 2 ∨ op = 3 ∨ op = 4 ∨ op = 5 ∨ op = 6 ∨ op = 7 ∨ op = 8 ∨ op = 9 ∨ op = 10 := by omega
    rcases h' with rfl | rfl | rfl | rfl | rfl | rfl | rfl | rfl | rfl | rfl
    · exact specW_1 a b w
    · exact specW_2 a b w
    · exact specW_3 a b w
    · exact specW_4 a b w
    · exact specW_5 a b w
    · exact specW_6 a b w
    · exact specW_7 a b w
    · exact specW_8 a b w
    · exact specW_9 a b w
    · exact specW_10 a b w

end Go.Proofs.YtebcocehdjoafaaDoor
