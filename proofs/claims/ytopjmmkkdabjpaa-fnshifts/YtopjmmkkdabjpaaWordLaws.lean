/- Plain facts of arithmetic of 64 bits on what Word answers (no Go text), and what WordOk and 'big' answer. -/
import Derived.Test.YtopjmmkkdabjpaaWord
import Derived.Test.YtopjmmkkdabjpaaDrawWord
namespace Go.Proofs.Ytopjmmkkdabjpaa
open Go.ChangeShapes Go.WideShapes Go.ChangeAt Go.RowKit
set_option linter.unusedVariables false

theorem wrap_form (n : Int) : wrap64 n = (n + 9223372036854775808) % 18446744073709551616 - 9223372036854775808 := by
  unfold wrap64
  omega

theorem law_sub (a b : Int) (ha : I64 a) : wordV 2 (wordV 1 a b) b = a := by
  unfold I64 at ha
  rw [wordV_1, wordV_2, wrap_form, wrap_form]
  omega

theorem law_mul (a b : Int) : wordV 3 a b = wordV 3 b a := by rw [wordV_3, wordV_3, Int.mul_comm]

theorem bv_or (x y : BitVec 64) : (x ||| y) = (x ^^^ y) + (x &&& y) := by
  rw [BitVec.add_eq_or_of_and_eq_zero]
  · ext i hi
    simp only [BitVec.getElem_or, BitVec.getElem_xor, BitVec.getElem_and]
    cases x[i] <;> cases y[i] <;> rfl
  · ext i hi
    simp only [BitVec.getElem_xor, BitVec.getElem_and]
    cases x[i] <;> cases y[i] <;> simp

theorem bits_or (a b : Int) : bits .or .i64 a b = wrap64 ((BitVec.ofInt 64 a ||| BitVec.ofInt 64 b).toNat : Int) := by
  rw [← IntWalk.i64_left]
  exact rfl
theorem bits_and (a b : Int) : bits .and .i64 a b = wrap64 ((BitVec.ofInt 64 a &&& BitVec.ofInt 64 b).toNat : Int) := by
  rw [← IntWalk.i64_left]
  exact rfl
theorem bits_xor (a b : Int) : bits .xor .i64 a b = wrap64 ((BitVec.ofInt 64 a ^^^ BitVec.ofInt 64 b).toNat : Int) := by
  rw [← IntWalk.i64_left]
  exact rfl

theorem law_bits (a b : Int) : wordV 2 (wordV 5 a b) (wordV 4 a b) = wordV 6 a b := by
  rw [wordV_2, wordV_5, wordV_4, wordV_6, bits_or, bits_and, bits_xor]
  have h := congrArg BitVec.toNat (bv_or (BitVec.ofInt 64 a) (BitVec.ofInt 64 b))
  rw [BitVec.toNat_add] at h
  generalize (BitVec.ofInt 64 a ||| BitVec.ofInt 64 b).toNat = p at *
  generalize (BitVec.ofInt 64 a &&& BitVec.ofInt 64 b).toNat = q at *
  generalize (BitVec.ofInt 64 a ^^^ BitVec.ofInt 64 b).toNat = r at *
  have e : (2 : Nat) ^ 64 = 18446744073709551616 := by decide
  rw [e] at h
  rw [wrap_form, wrap_form, wrap_form, wrap_form]
  omega

theorem law_less (a b : Int) : wordV 7 a b + wordV 7 b a + wordV 8 a b = 1 := by
  rw [wordV_7, wordV_7, wordV_8]
  by_cases h1 : a < b
  · rw [if_pos h1, if_neg (by omega), if_neg (by omega)]; rfl
  · by_cases h2 : b < a
    · rw [if_neg h1, if_pos h2, if_neg (by omega)]; rfl
    · rw [if_neg h1, if_neg h2, if_pos (by omega)]; rfl

theorem less_01 (a b : Int) : 0 ≤ wordV 7 a b ∧ wordV 7 a b ≤ 1 := by
  rw [wordV_7]; split <;> omega
theorem same_01 (a b : Int) : 0 ≤ wordV 8 a b ∧ wordV 8 a b ≤ 1 := by
  rw [wordV_8]; split <;> omega

/-- Whether op is one of the ten. -/
def okB (op : Int) : Bool := decide (1 ≤ op ∧ op ≤ 10)

theorem ret_bool {a b : Bool} (h : a = b) : Ending.returned (.bool a) = .returned (.bool b) := by rw [h]

set_option maxHeartbeats 400000 in
theorem implok_any (op : Int) (w : World) : Calls Try.prog 11 #[.int .i64 op] w fun e w' => e = .returned (.bool (okB op)) ∧ w' = w := by
  by_cases h1 : 1 ≤ op
  · by_cases h2 : op ≤ 10
    · have h3 : op < 11 := by omega
      have hv : Hid (okB op = true) := by unfold okB; exact decide_eq_true ⟨h1, h2⟩
      go_enter Try.func11, Try.ntmps11
      go_wp2
      go_ret
      exact ⟨ret_bool hv.out.symm, rfl⟩
    · have h3 : ¬ op < 11 := by omega
      have hv : Hid (okB op = false) := by unfold okB; exact decide_eq_false (by omega)
      go_enter Try.func11, Try.ntmps11
      go_wp2
      go_ret
      exact ⟨ret_bool hv.out.symm, rfl⟩
  · have hv : Hid (okB op = false) := by unfold okB; exact decide_eq_false (by omega)
    go_enter Try.func11, Try.ntmps11
    go_wp2
    go_ret
    exact ⟨ret_bool hv.out.symm, rfl⟩

set_option maxHeartbeats 400000 in
theorem specok_any (op : Int) (w : World) : Calls Try.prog 12 #[.int .i64 op] w fun e w' => e = .returned (.bool (okB op)) ∧ w' = w := by
  by_cases h1 : 1 ≤ op
  · by_cases h2 : op ≤ 10
    · have hv : Hid (okB op = true) := by unfold okB; exact decide_eq_true ⟨h1, h2⟩
      go_enter Try.func12, Try.ntmps12
      go_wp2
      go_ret
      exact ⟨ret_bool hv.out.symm, rfl⟩
    · have hv : Hid (okB op = false) := by unfold okB; exact decide_eq_false (by omega)
      go_enter Try.func12, Try.ntmps12
      go_wp2
      go_ret
      exact ⟨ret_bool hv.out.symm, rfl⟩
  · have hv : Hid (okB op = false) := by unfold okB; exact decide_eq_false (by omega)
    go_enter Try.func12, Try.ntmps12
    go_wp2
    go_ret
    exact ⟨ret_bool hv.out.symm, rfl⟩

theorem ok_or (op a b : Int) : okB op = true ∨ (okB op = false ∧ wordV op a b = 0) := by
  by_cases h : 1 ≤ op ∧ op ≤ 10
  · exact .inl (decide_eq_true h)
  · exact .inr ⟨decide_eq_false h, wordV_no op a b (by omega)⟩

theorem bel_then {w w1 w2 : World} (h : Below w.heap.size w w1) (k : Below w1.heap.size w1 w2) : Below w.heap.size w w2 := h.trans (k.mono h.size)

set_option maxHeartbeats 400000 in
theorem big_any (a : Option Addr) (len cap : Nat) (w : World) : Calls Try.prog 7 #[.slice a len cap] w fun e w' => e = .returned (.bool (decide (1048576 < (len : Int)))) ∧ w' = w := by
  go_enter Try.func7, Try.ntmps7
  go_wp2
  go_ret
  exact ⟨rfl, rfl⟩
end Go.Proofs.Ytopjmmkkdabjpaa
