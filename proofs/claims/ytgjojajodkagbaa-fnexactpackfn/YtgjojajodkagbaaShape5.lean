/- The shape of a program, part 7: every place, as the program looks at it. -/
import Derived.Test.YtgjojajodkagbaaShape3a
import Derived.Test.YtgjojajodkagbaaShape3b
import Derived.Test.YtgjojajodkagbaaShape3c
import Derived.Test.YtgjojajodkagbaaShape3d
namespace Go.Proofs.Ytgjojajodkagbaa
open Go.ChangeShapes Go.WideShapes Go.ChangeAt Go.RowKit
set_option linter.unusedVariables false

theorem zsym {z : Int} (h : (z == 0) = false) : ((0 : Int) == z) = false := by
  rw [beq_eq_false_iff_ne] at h ⊢
  exact fun e => h e.symm

set_option maxHeartbeats 2000000 in
theorem insOk_nil (ba : Option Addr) (bn bcap : Nat) (vals op d a b n : Int) (e0 : (op == 20) = false) (e1 : (op == 21) = false) (e2 : (op == 22) = false) (e3 : (op == 23) = false) (e4 : (op == 24) = false) (e5 : (op == 25) = false) (h : ¬ (1 ≤ op ∧ op ≤ 10)) (w : World) :
    Calls Try.prog 58 #[.agg #[.slice ba bn bcap, .int .i64 vals], .agg #[.int .i64 op, .int .i64 d, .int .i64 a, .int .i64 b, .int .i64 n]] w fun e w' => GivesBool w false e w' := by
  have hp : ∀ w : World, Calls Try.prog 69 #[.agg #[.int .i64 op, .int .i64 d, .int .i64 a, .int .i64 b, .int .i64 n]] w fun e w' => e = .returned .nilIface ∧ Below w.heap.size w w' := by
    intro w
    have hp := placeOf_any op d a b n w
    rw [placeV_none e0 e1 e2 e3 e4 e5 h] at hp
    exact hp
  have HP : Hid (∀ w : World, Calls Try.prog 69 #[.agg #[.int .i64 op, .int .i64 d, .int .i64 a, .int .i64 b, .int .i64 n]] w fun e w' => e = .returned .nilIface ∧ Below w.heap.size w w') := hp
  clear hp h
  go_enter Try.func58, Try.ntmps58
  go_wp2_with fail
  refine (HP.out _).mono ?_
  rintro e w1 ⟨rfl, b1⟩
  have HB1 : Hid (Below w.heap.size w w1) := Bel.after (by repeat (first | exact Below.refl _ _ | apply Below.drew | refine Below.alloc ?_ (by simp <;> omega) _ | refine Below.setCell ?_ (by simp <;> omega) _)) b1
  clear b1
  go_wp2
  go_region
  all_goals
    go_wp2
    go_ret
    exact ⟨rfl, by first | exact HB1.out | exact HB1.out.drew⟩

set_option maxHeartbeats 1000000 in
theorem insOk_any (ba : Option Addr) (bn bcap : Nat) (vals op d a b n : Int) (w : World) :
    Calls Try.prog 58 #[.agg #[.slice ba bn bcap, .int .i64 vals], .agg #[.int .i64 op, .int .i64 d, .int .i64 a, .int .i64 b, .int .i64 n]] w fun e w' => GivesBool w (insOkV vals op d a b n) e w' := by
  rcases op_cases op with h | h | h | h | h | h | ⟨⟨e0, e1, e2, e3, e4, e5⟩, ⟨h, h1⟩ | h | ⟨h1, h⟩⟩
  · subst h
    cases hza : (a == 0)
    · rw [show insOkV vals 20 d a b n = false by rw [insOkV_const]; simp [hza]]
      exact insOk_const_bad0 ba bn bcap vals d a b n hza (zsym hza) w
    · obtain rfl : a = 0 := by simpa using hza
      cases hzb : (b == 0)
      · rw [show insOkV vals 20 d 0 b n = false by rw [insOkV_const]; simp [hzb]]
        exact insOk_const_bad1 ba bn bcap vals d b n hzb (zsym hzb) w
      · obtain rfl : b = 0 := by simpa using hzb
        rw [show insOkV vals 20 d 0 0 n = (valIn vals d && List.all [] (valIn vals)) by rw [insOkV_const]; simp]
        exact insOk_const_good ba bn bcap vals d n w
  · subst h
    cases hzb : (b == 0)
    · rw [show insOkV vals 21 d a b n = false by rw [insOkV_load]; simp [hzb]]
      exact insOk_load_bad0 ba bn bcap vals d a b n hzb (zsym hzb) w
    · obtain rfl : b = 0 := by simpa using hzb
      cases hzn : (n == 0)
      · rw [show insOkV vals 21 d a 0 n = false by rw [insOkV_load]; simp [hzn]]
        exact insOk_load_bad1 ba bn bcap vals d a n hzn (zsym hzn) w
      · obtain rfl : n = 0 := by simpa using hzn
        rw [show insOkV vals 21 d a 0 0 = (valIn vals d && List.all [a] (valIn vals)) by rw [insOkV_load]; simp]
        exact insOk_load_good ba bn bcap vals d a w
  · subst h
    cases hzd : (d == 0)
    · rw [show insOkV vals 22 d a b n = false by rw [insOkV_store]; simp [hzd]]
      exact insOk_store_bad0 ba bn bcap vals d a b n hzd (zsym hzd) w
    · obtain rfl : d = 0 := by simpa using hzd
      cases hzn : (n == 0)
      · rw [show insOkV vals 22 0 a b n = false by rw [insOkV_store]; simp [hzn]]
        exact insOk_store_bad1 ba bn bcap vals a b n hzn (zsym hzn) w
      · obtain rfl : n = 0 := by simpa using hzn
        rw [show insOkV vals 22 0 a b 0 = (List.all [a, b] (valIn vals)) by rw [insOkV_store]; simp]
        exact insOk_store_good ba bn bcap vals a b w
  · subst h
    cases hzd : (d == 0)
    · rw [show insOkV vals 23 d a b n = false by rw [insOkV_out]; simp [hzd]]
      exact insOk_out_bad0 ba bn bcap vals d a b n hzd (zsym hzd) w
    · obtain rfl : d = 0 := by simpa using hzd
      cases hzb : (b == 0)
      · rw [show insOkV vals 23 0 a b n = false by rw [insOkV_out]; simp [hzb]]
        exact insOk_out_bad1 ba bn bcap vals a b n hzb (zsym hzb) w
      · obtain rfl : b = 0 := by simpa using hzb
        cases hzn : (n == 0)
        · rw [show insOkV vals 23 0 a 0 n = false by rw [insOkV_out]; simp [hzn]]
          exact insOk_out_bad2 ba bn bcap vals a n hzn (zsym hzn) w
        · obtain rfl : n = 0 := by simpa using hzn
          rw [show insOkV vals 23 0 a 0 0 = (List.all [a] (valIn vals)) by rw [insOkV_out]; simp]
          exact insOk_out_good ba bn bcap vals a w
  · subst h
    cases hza : (a == 0)
    · rw [show insOkV vals 24 d a b n = false by rw [insOkV_read]; simp [hza]]
      exact insOk_read_bad0 ba bn bcap vals d a b n hza (zsym hza) w
    · obtain rfl : a = 0 := by simpa using hza
      cases hzb : (b == 0)
      · rw [show insOkV vals 24 d 0 b n = false by rw [insOkV_read]; simp [hzb]]
        exact insOk_read_bad1 ba bn bcap vals d b n hzb (zsym hzb) w
      · obtain rfl : b = 0 := by simpa using hzb
        cases hzn : (n == 0)
        · rw [show insOkV vals 24 d 0 0 n = false by rw [insOkV_read]; simp [hzn]]
          exact insOk_read_bad2 ba bn bcap vals d n hzn (zsym hzn) w
        · obtain rfl : n = 0 := by simpa using hzn
          rw [show insOkV vals 24 d 0 0 0 = (valIn vals d && List.all [] (valIn vals)) by rw [insOkV_read]; simp]
          exact insOk_read_good ba bn bcap vals d w
  · subst h
    cases hzb : (b == 0)
    · rw [show insOkV vals 25 d a b n = false by rw [insOkV_copy]; simp [hzb]]
      exact insOk_copy_bad0 ba bn bcap vals d a b n hzb (zsym hzb) w
    · obtain rfl : b = 0 := by simpa using hzb
      cases hzn : (n == 0)
      · rw [show insOkV vals 25 d a 0 n = false by rw [insOkV_copy]; simp [hzn]]
        exact insOk_copy_bad1 ba bn bcap vals d a n hzn (zsym hzn) w
      · obtain rfl : n = 0 := by simpa using hzn
        rw [show insOkV vals 25 d a 0 0 = (valIn vals d && List.all [a] (valIn vals)) by rw [insOkV_copy]; simp]
        exact insOk_copy_good ba bn bcap vals d a w
  · cases hzn : (n == 0)
    · rw [show insOkV vals op d a b n = false by rw [insOkV_word h h1]; simp [hzn]]
      exact insOk_word_bad0 ba bn bcap vals op d a b n e0 e1 e2 e3 e4 e5 h h1 hzn (zsym hzn) w
    · obtain rfl : n = 0 := by simpa using hzn
      rw [show insOkV vals op d a b 0 = (valIn vals d && List.all [a, b] (valIn vals)) by rw [insOkV_word h h1]; simp [Bool.and_assoc]]
      exact insOk_word_good ba bn bcap vals op d a b e0 e1 e2 e3 e4 e5 h h1 w
  · rw [insOkV_none e0 e1 e2 e3 e4 e5 (by omega)]
    exact insOk_nil ba bn bcap vals op d a b n e0 e1 e2 e3 e4 e5 (by omega) w
  · rw [insOkV_none e0 e1 e2 e3 e4 e5 (by omega)]
    exact insOk_nil ba bn bcap vals op d a b n e0 e1 e2 e3 e4 e5 (by omega) w
end Go.Proofs.Ytgjojajodkagbaa
