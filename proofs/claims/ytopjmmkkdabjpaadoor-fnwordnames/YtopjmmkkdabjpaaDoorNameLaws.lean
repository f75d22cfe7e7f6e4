/- What the program's WordOk and 'big' answer, and plain facts on names (no Go text). -/
import Derived.Test.YtopjmmkkdabjpaaDoorDrawNames
namespace Go.Proofs.YtopjmmkkdabjpaaDoor
open Go.ChangeShapes Go.WideShapes Go.ChangeAt Go.RowKit
set_option linter.unusedVariables false

/-- Whether op is one of the ten. -/
def okB (op : Int) : Bool := decide (1 ≤ op ∧ op ≤ 10)
theorem ret_bool {a b : Bool} (h : a = b) : Ending.returned (.bool a) = .returned (.bool b) := by rw [h]

set_option maxHeartbeats 400000 in
theorem implok_any (op : Int) (w : World) : Calls Tryd.prog 12 #[.int .i64 op] w fun e w' => e = .returned (.bool (okB op)) ∧ w' = w := by
  by_cases h1 : 1 ≤ op
  · by_cases h2 : op ≤ 10
    · have h3 : op < 11 := by omega
      have hv : Hid (okB op = true) := by unfold okB; exact decide_eq_true ⟨h1, h2⟩
      go_enter Tryd.func12, Tryd.ntmps12
      go_wp2
      go_ret
      exact ⟨ret_bool hv.out.symm, rfl⟩
    · have h3 : ¬ op < 11 := by omega
      have hv : Hid (okB op = false) := by unfold okB; exact decide_eq_false (by omega)
      go_enter Tryd.func12, Tryd.ntmps12
      go_wp2
      go_ret
      exact ⟨ret_bool hv.out.symm, rfl⟩
  · have hv : Hid (okB op = false) := by unfold okB; exact decide_eq_false (by omega)
    go_enter Tryd.func12, Tryd.ntmps12
    go_wp2
    go_ret
    exact ⟨ret_bool hv.out.symm, rfl⟩

set_option maxHeartbeats 400000 in
theorem big_any (a : Option Addr) (len cap : Nat) (w : World) : Calls Tryd.prog 5 #[.slice a len cap] w fun e w' => e = .returned (.bool (decide (1048576 < (len : Int)))) ∧ w' = w := by
  go_enter Tryd.func5, Tryd.ntmps5
  go_wp2
  go_ret
  exact ⟨rfl, rfl⟩

theorem empty_iff (s : ByteArray) : s.toList.isEmpty = s.data.toList.isEmpty := by rw [ByteArray.toList_eq]
theorem name_empty (op : Int) : (nameV op).toList.isEmpty = !okB op := by
  rw [empty_iff]
  by_cases h : 1 ≤ op ∧ op ≤ 10
  · have h' : op = 1 ∨ op = 2 ∨ op = 3 ∨ op = 4 ∨ op = 5 ∨ op = 6 ∨ op = 7 ∨ op = 8 ∨ op = 9 ∨ op = 10 := by omega
    rcases h' with rfl | rfl | rfl | rfl | rfl | rfl | rfl | rfl | rfl | rfl <;> rfl
  · rw [nameV_no op (by omega)]
    have : okB op = false := decide_eq_false h
    rw [this]
    rfl
theorem of_name (op r : Int) (hok : okB op = true) (h : IsOf (nameV op) r) : r = op := by
  have hr : 1 ≤ op ∧ op ≤ 10 := by simpa [okB] using hok
  exact isOf_one _ r op h (.inl ⟨hr.1, hr.2, rfl⟩)
theorem of_nonzero (s : ByteArray) (n : Int) (h : IsOf s n) (h0 : ¬ n = 0) : nameV n = s := by
  rcases h with ⟨_, _, h⟩ | ⟨h, _⟩
  · exact h
  · exact absurd h h0
end Go.Proofs.YtopjmmkkdabjpaaDoor
