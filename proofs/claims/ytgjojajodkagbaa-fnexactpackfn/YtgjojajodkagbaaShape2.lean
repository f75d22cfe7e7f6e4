/- The shape of a program, part 2: the places and ends, as the model looks at them. -/
import Derived.Test.YtgjojajodkagbaaShape1
namespace Go.Proofs.Ytgjojajodkagbaa
open Go.ChangeShapes Go.WideShapes Go.ChangeAt Go.RowKit
set_option linter.unusedVariables false

/-- Is a place right, of so many values? -/
def insOkV (vals op d a b n : Int) : Bool :=
  if 1 ≤ op ∧ op ≤ 10 then valIn vals d && valIn vals a && valIn vals b && (n == 0)
  else if op = 20 then valIn vals d && (a == 0) && (b == 0)
  else if op = 21 ∨ op = 25 then valIn vals d && valIn vals a && (b == 0) && (n == 0)
  else if op = 22 then valIn vals a && valIn vals b && (d == 0) && (n == 0)
  else if op = 23 then valIn vals a && (d == 0) && (b == 0) && (n == 0)
  else if op = 24 then valIn vals d && (a == 0) && (b == 0) && (n == 0)
  else false
theorem insOkV_word {vals op d a b n : Int} (h : 1 ≤ op) (h1 : op ≤ 10) : insOkV vals op d a b n = (valIn vals d && valIn vals a && valIn vals b && (n == 0)) := by simp [insOkV, h, h1]
theorem insOkV_none {vals op d a b n : Int} (e0 : (op == 20) = false) (e1 : (op == 21) = false) (e2 : (op == 22) = false) (e3 : (op == 23) = false) (e4 : (op == 24) = false) (e5 : (op == 25) = false) (h : ¬ (1 ≤ op ∧ op ≤ 10)) : insOkV vals op d a b n = false := by
  simp only [beq_eq_false_iff_ne, ne_eq] at e0 e1 e2 e3 e4 e5
  simp only [insOkV, e0, e1, e2, e3, e4, e5, h, or_self, if_false]
theorem insOkV_const {vals d a b n : Int} : insOkV vals 20 d a b n = (valIn vals d && (a == 0) && (b == 0)) := by simp [insOkV]
theorem insOkV_load {vals d a b n : Int} : insOkV vals 21 d a b n = (valIn vals d && valIn vals a && (b == 0) && (n == 0)) := by simp [insOkV]
theorem insOkV_copy {vals d a b n : Int} : insOkV vals 25 d a b n = (valIn vals d && valIn vals a && (b == 0) && (n == 0)) := by simp [insOkV]
theorem insOkV_store {vals d a b n : Int} : insOkV vals 22 d a b n = (valIn vals a && valIn vals b && (d == 0) && (n == 0)) := by simp [insOkV]
theorem insOkV_out {vals d a b n : Int} : insOkV vals 23 d a b n = (valIn vals a && (d == 0) && (b == 0) && (n == 0)) := by simp [insOkV]
theorem insOkV_read {vals d a b n : Int} : insOkV vals 24 d a b n = (valIn vals d && (a == 0) && (b == 0) && (n == 0)) := by simp [insOkV]

/-- Is an end right, of so many blocks and values? -/
def termOkV (blocks vals k a t e : Int) : Bool :=
  if k = 1 then valIn blocks t && (a == 0) && (e == 0)
  else if k = 2 then valIn blocks t && valIn blocks e && valIn vals a
  else if k = 3 then valIn vals a && (t == 0) && (e == 0)
  else false

set_option maxHeartbeats 2000000 in
theorem l2Ins_const (vals d a b n : Int) (w : World) :
    Calls Try.prog 44 #[.agg #[.int .i64 20, .int .i64 d, .int .i64 a, .int .i64 b, .int .i64 n], .int .i64 vals] w fun e w' => GivesBool w (insOkV vals 20 d a b n) e w' := by
  have hw : wordOkV 20 = false := by decide
  cases hvd : valIn vals d
  · have hf : insOkV vals 20 d a b n = false := by rw [insOkV_const]; simp [hvd]
    rw [hf]
    clear hf
    go_enter Try.func44, Try.ntmps44
    go_wp2_with fail
    refine (l2Value_any d vals _).mono ?_
    rintro e w1 ⟨rfl, rfl⟩
    go_wp2_with fail
    refine (l2Value_any a vals _).mono ?_
    rintro e w2 ⟨rfl, rfl⟩
    go_wp2_with fail
    refine (l2Value_any b vals _).mono ?_
    rintro e w3 ⟨rfl, rfl⟩
    go_wp2_with fail
    refine (spec_wordOk 20 _).mono ?_
    rintro e w4 ⟨rfl, rfl⟩
    go_wp2
    go_ret
    exact ⟨rfl, Bel.alloc _ _⟩
  · cases hza : (a == 0)
    · have hf : insOkV vals 20 d a b n = false := by rw [insOkV_const]; simp [hza]
      rw [hf]
      clear hf
      go_enter Try.func44, Try.ntmps44
      go_wp2_with fail
      refine (l2Value_any d vals _).mono ?_
      rintro e w1 ⟨rfl, rfl⟩
      go_wp2_with fail
      refine (l2Value_any a vals _).mono ?_
      rintro e w2 ⟨rfl, rfl⟩
      go_wp2_with fail
      refine (l2Value_any b vals _).mono ?_
      rintro e w3 ⟨rfl, rfl⟩
      go_wp2_with fail
      refine (spec_wordOk 20 _).mono ?_
      rintro e w4 ⟨rfl, rfl⟩
      go_wp2
      go_ret
      exact ⟨rfl, Bel.alloc _ _⟩
    · cases hzb : (b == 0)
      · have hf : insOkV vals 20 d a b n = false := by rw [insOkV_const]; simp [hzb]
        rw [hf]
        clear hf
        go_enter Try.func44, Try.ntmps44
        go_wp2_with fail
        refine (l2Value_any d vals _).mono ?_
        rintro e w1 ⟨rfl, rfl⟩
        go_wp2_with fail
        refine (l2Value_any a vals _).mono ?_
        rintro e w2 ⟨rfl, rfl⟩
        go_wp2_with fail
        refine (l2Value_any b vals _).mono ?_
        rintro e w3 ⟨rfl, rfl⟩
        go_wp2_with fail
        refine (spec_wordOk 20 _).mono ?_
        rintro e w4 ⟨rfl, rfl⟩
        go_wp2
        go_ret
        exact ⟨rfl, Bel.alloc _ _⟩
      · have hf : insOkV vals 20 d a b n = true := by rw [insOkV_const]; simp [hvd, hza, hzb]
        rw [hf]
        clear hf
        go_enter Try.func44, Try.ntmps44
        go_wp2_with fail
        refine (l2Value_any d vals _).mono ?_
        rintro e w1 ⟨rfl, rfl⟩
        go_wp2_with fail
        refine (l2Value_any a vals _).mono ?_
        rintro e w2 ⟨rfl, rfl⟩
        go_wp2_with fail
        refine (l2Value_any b vals _).mono ?_
        rintro e w3 ⟨rfl, rfl⟩
        go_wp2_with fail
        refine (spec_wordOk 20 _).mono ?_
        rintro e w4 ⟨rfl, rfl⟩
        go_wp2
        go_ret
        exact ⟨rfl, Bel.alloc _ _⟩

set_option maxHeartbeats 2000000 in
theorem l2Ins_load (vals d a b n : Int) (w : World) :
    Calls Try.prog 44 #[.agg #[.int .i64 21, .int .i64 d, .int .i64 a, .int .i64 b, .int .i64 n], .int .i64 vals] w fun e w' => GivesBool w (insOkV vals 21 d a b n) e w' := by
  have hw : wordOkV 21 = false := by decide
  cases hvd : valIn vals d
  · have hf : insOkV vals 21 d a b n = false := by rw [insOkV_load]; simp [hvd]
    rw [hf]
    clear hf
    go_enter Try.func44, Try.ntmps44
    go_wp2_with fail
    refine (l2Value_any d vals _).mono ?_
    rintro e w1 ⟨rfl, rfl⟩
    go_wp2_with fail
    refine (l2Value_any a vals _).mono ?_
    rintro e w2 ⟨rfl, rfl⟩
    go_wp2_with fail
    refine (l2Value_any b vals _).mono ?_
    rintro e w3 ⟨rfl, rfl⟩
    go_wp2_with fail
    refine (spec_wordOk 21 _).mono ?_
    rintro e w4 ⟨rfl, rfl⟩
    go_wp2
    go_ret
    exact ⟨rfl, Bel.alloc _ _⟩
  · cases hva : valIn vals a
    · have hf : insOkV vals 21 d a b n = false := by rw [insOkV_load]; simp [hva]
      rw [hf]
      clear hf
      go_enter Try.func44, Try.ntmps44
      go_wp2_with fail
      refine (l2Value_any d vals _).mono ?_
      rintro e w1 ⟨rfl, rfl⟩
      go_wp2_with fail
      refine (l2Value_any a vals _).mono ?_
      rintro e w2 ⟨rfl, rfl⟩
      go_wp2_with fail
      refine (l2Value_any b vals _).mono ?_
      rintro e w3 ⟨rfl, rfl⟩
      go_wp2_with fail
      refine (spec_wordOk 21 _).mono ?_
      rintro e w4 ⟨rfl, rfl⟩
      go_wp2
      go_ret
      exact ⟨rfl, Bel.alloc _ _⟩
    · cases hzb : (b == 0)
      · have hf : insOkV vals 21 d a b n = false := by rw [insOkV_load]; simp [hzb]
        rw [hf]
        clear hf
        go_enter Try.func44, Try.ntmps44
        go_wp2_with fail
        refine (l2Value_any d vals _).mono ?_
        rintro e w1 ⟨rfl, rfl⟩
        go_wp2_with fail
        refine (l2Value_any a vals _).mono ?_
        rintro e w2 ⟨rfl, rfl⟩
        go_wp2_with fail
        refine (l2Value_any b vals _).mono ?_
        rintro e w3 ⟨rfl, rfl⟩
        go_wp2_with fail
        refine (spec_wordOk 21 _).mono ?_
        rintro e w4 ⟨rfl, rfl⟩
        go_wp2
        go_ret
        exact ⟨rfl, Bel.alloc _ _⟩
      · cases hzn : (n == 0)
        · have hf : insOkV vals 21 d a b n = false := by rw [insOkV_load]; simp [hzn]
          rw [hf]
          clear hf
          go_enter Try.func44, Try.ntmps44
          go_wp2_with fail
          refine (l2Value_any d vals _).mono ?_
          rintro e w1 ⟨rfl, rfl⟩
          go_wp2_with fail
          refine (l2Value_any a vals _).mono ?_
          rintro e w2 ⟨rfl, rfl⟩
          go_wp2_with fail
          refine (l2Value_any b vals _).mono ?_
          rintro e w3 ⟨rfl, rfl⟩
          go_wp2_with fail
          refine (spec_wordOk 21 _).mono ?_
          rintro e w4 ⟨rfl, rfl⟩
          go_wp2
          go_ret
          exact ⟨rfl, Bel.alloc _ _⟩
        · have hf : insOkV vals 21 d a b n = true := by rw [insOkV_load]; simp [hvd, hva, hzb, hzn]
          rw [hf]
          clear hf
          go_enter Try.func44, Try.ntmps44
          go_wp2_with fail
          refine (l2Value_any d vals _).mono ?_
          rintro e w1 ⟨rfl, rfl⟩
          go_wp2_with fail
          refine (l2Value_any a vals _).mono ?_
          rintro e w2 ⟨rfl, rfl⟩
          go_wp2_with fail
          refine (l2Value_any b vals _).mono ?_
          rintro e w3 ⟨rfl, rfl⟩
          go_wp2_with fail
          refine (spec_wordOk 21 _).mono ?_
          rintro e w4 ⟨rfl, rfl⟩
          go_wp2
          go_ret
          exact ⟨rfl, Bel.alloc _ _⟩

set_option maxHeartbeats 2000000 in
theorem l2Ins_store (vals d a b n : Int) (w : World) :
    Calls Try.prog 44 #[.agg #[.int .i64 22, .int .i64 d, .int .i64 a, .int .i64 b, .int .i64 n], .int .i64 vals] w fun e w' => GivesBool w (insOkV vals 22 d a b n) e w' := by
  have hw : wordOkV 22 = false := by decide
  cases hva : valIn vals a
  · have hf : insOkV vals 22 d a b n = false := by rw [insOkV_store]; simp [hva]
    rw [hf]
    clear hf
    go_enter Try.func44, Try.ntmps44
    go_wp2_with fail
    refine (l2Value_any d vals _).mono ?_
    rintro e w1 ⟨rfl, rfl⟩
    go_wp2_with fail
    refine (l2Value_any a vals _).mono ?_
    rintro e w2 ⟨rfl, rfl⟩
    go_wp2_with fail
    refine (l2Value_any b vals _).mono ?_
    rintro e w3 ⟨rfl, rfl⟩
    go_wp2_with fail
    refine (spec_wordOk 22 _).mono ?_
    rintro e w4 ⟨rfl, rfl⟩
    go_wp2
    go_ret
    exact ⟨rfl, Bel.alloc _ _⟩
  · cases hvb : valIn vals b
    · have hf : insOkV vals 22 d a b n = false := by rw [insOkV_store]; simp [hvb]
      rw [hf]
      clear hf
      go_enter Try.func44, Try.ntmps44
      go_wp2_with fail
      refine (l2Value_any d vals _).mono ?_
      rintro e w1 ⟨rfl, rfl⟩
      go_wp2_with fail
      refine (l2Value_any a vals _).mono ?_
      rintro e w2 ⟨rfl, rfl⟩
      go_wp2_with fail
      refine (l2Value_any b vals _).mono ?_
      rintro e w3 ⟨rfl, rfl⟩
      go_wp2_with fail
      refine (spec_wordOk 22 _).mono ?_
      rintro e w4 ⟨rfl, rfl⟩
      go_wp2
      go_ret
      exact ⟨rfl, Bel.alloc _ _⟩
    · cases hzd : (d == 0)
      · have hf : insOkV vals 22 d a b n = false := by rw [insOkV_store]; simp [hzd]
        rw [hf]
        clear hf
        go_enter Try.func44, Try.ntmps44
        go_wp2_with fail
        refine (l2Value_any d vals _).mono ?_
        rintro e w1 ⟨rfl, rfl⟩
        go_wp2_with fail
        refine (l2Value_any a vals _).mono ?_
        rintro e w2 ⟨rfl, rfl⟩
        go_wp2_with fail
        refine (l2Value_any b vals _).mono ?_
        rintro e w3 ⟨rfl, rfl⟩
        go_wp2_with fail
        refine (spec_wordOk 22 _).mono ?_
        rintro e w4 ⟨rfl, rfl⟩
        go_wp2
        go_ret
        exact ⟨rfl, Bel.alloc _ _⟩
      · cases hzn : (n == 0)
        · have hf : insOkV vals 22 d a b n = false := by rw [insOkV_store]; simp [hzn]
          rw [hf]
          clear hf
          go_enter Try.func44, Try.ntmps44
          go_wp2_with fail
          refine (l2Value_any d vals _).mono ?_
          rintro e w1 ⟨rfl, rfl⟩
          go_wp2_with fail
          refine (l2Value_any a vals _).mono ?_
          rintro e w2 ⟨rfl, rfl⟩
          go_wp2_with fail
          refine (l2Value_any b vals _).mono ?_
          rintro e w3 ⟨rfl, rfl⟩
          go_wp2_with fail
          refine (spec_wordOk 22 _).mono ?_
          rintro e w4 ⟨rfl, rfl⟩
          go_wp2
          go_ret
          exact ⟨rfl, Bel.alloc _ _⟩
        · have hf : insOkV vals 22 d a b n = true := by rw [insOkV_store]; simp [hva, hvb, hzd, hzn]
          rw [hf]
          clear hf
          go_enter Try.func44, Try.ntmps44
          go_wp2_with fail
          refine (l2Value_any d vals _).mono ?_
          rintro e w1 ⟨rfl, rfl⟩
          go_wp2_with fail
          refine (l2Value_any a vals _).mono ?_
          rintro e w2 ⟨rfl, rfl⟩
          go_wp2_with fail
          refine (l2Value_any b vals _).mono ?_
          rintro e w3 ⟨rfl, rfl⟩
          go_wp2_with fail
          refine (spec_wordOk 22 _).mono ?_
          rintro e w4 ⟨rfl, rfl⟩
          go_wp2
          go_ret
          exact ⟨rfl, Bel.alloc _ _⟩

set_option maxHeartbeats 2000000 in
theorem l2Ins_out (vals d a b n : Int) (w : World) :
    Calls Try.prog 44 #[.agg #[.int .i64 23, .int .i64 d, .int .i64 a, .int .i64 b, .int .i64 n], .int .i64 vals] w fun e w' => GivesBool w (insOkV vals 23 d a b n) e w' := by
  have hw : wordOkV 23 = false := by decide
  cases hva : valIn vals a
  · have hf : insOkV vals 23 d a b n = false := by rw [insOkV_out]; simp [hva]
    rw [hf]
    clear hf
    go_enter Try.func44, Try.ntmps44
    go_wp2_with fail
    refine (l2Value_any d vals _).mono ?_
    rintro e w1 ⟨rfl, rfl⟩
    go_wp2_with fail
    refine (l2Value_any a vals _).mono ?_
    rintro e w2 ⟨rfl, rfl⟩
    go_wp2_with fail
    refine (l2Value_any b vals _).mono ?_
    rintro e w3 ⟨rfl, rfl⟩
    go_wp2_with fail
    refine (spec_wordOk 23 _).mono ?_
    rintro e w4 ⟨rfl, rfl⟩
    go_wp2
    go_ret
    exact ⟨rfl, Bel.alloc _ _⟩
  · cases hzd : (d == 0)
    · have hf : insOkV vals 23 d a b n = false := by rw [insOkV_out]; simp [hzd]
      rw [hf]
      clear hf
      go_enter Try.func44, Try.ntmps44
      go_wp2_with fail
      refine (l2Value_any d vals _).mono ?_
      rintro e w1 ⟨rfl, rfl⟩
      go_wp2_with fail
      refine (l2Value_any a vals _).mono ?_
      rintro e w2 ⟨rfl, rfl⟩
      go_wp2_with fail
      refine (l2Value_any b vals _).mono ?_
      rintro e w3 ⟨rfl, rfl⟩
      go_wp2_with fail
      refine (spec_wordOk 23 _).mono ?_
      rintro e w4 ⟨rfl, rfl⟩
      go_wp2
      go_ret
      exact ⟨rfl, Bel.alloc _ _⟩
    · cases hzb : (b == 0)
      · have hf : insOkV vals 23 d a b n = false := by rw [insOkV_out]; simp [hzb]
        rw [hf]
        clear hf
        go_enter Try.func44, Try.ntmps44
        go_wp2_with fail
        refine (l2Value_any d vals _).mono ?_
        rintro e w1 ⟨rfl, rfl⟩
        go_wp2_with fail
        refine (l2Value_any a vals _).mono ?_
        rintro e w2 ⟨rfl, rfl⟩
        go_wp2_with fail
        refine (l2Value_any b vals _).mono ?_
        rintro e w3 ⟨rfl, rfl⟩
        go_wp2_with fail
        refine (spec_wordOk 23 _).mono ?_
        rintro e w4 ⟨rfl, rfl⟩
        go_wp2
        go_ret
        exact ⟨rfl, Bel.alloc _ _⟩
      · cases hzn : (n == 0)
        · have hf : insOkV vals 23 d a b n = false := by rw [insOkV_out]; simp [hzn]
          rw [hf]
          clear hf
          go_enter Try.func44, Try.ntmps44
          go_wp2_with fail
          refine (l2Value_any d vals _).mono ?_
          rintro e w1 ⟨rfl, rfl⟩
          go_wp2_with fail
          refine (l2Value_any a vals _).mono ?_
          rintro e w2 ⟨rfl, rfl⟩
          go_wp2_with fail
          refine (l2Value_any b vals _).mono ?_
          rintro e w3 ⟨rfl, rfl⟩
          go_wp2_with fail
          refine (spec_wordOk 23 _).mono ?_
          rintro e w4 ⟨rfl, rfl⟩
          go_wp2
          go_ret
          exact ⟨rfl, Bel.alloc _ _⟩
        · have hf : insOkV vals 23 d a b n = true := by rw [insOkV_out]; simp [hva, hzd, hzb, hzn]
          rw [hf]
          clear hf
          go_enter Try.func44, Try.ntmps44
          go_wp2_with fail
          refine (l2Value_any d vals _).mono ?_
          rintro e w1 ⟨rfl, rfl⟩
          go_wp2_with fail
          refine (l2Value_any a vals _).mono ?_
          rintro e w2 ⟨rfl, rfl⟩
          go_wp2_with fail
          refine (l2Value_any b vals _).mono ?_
          rintro e w3 ⟨rfl, rfl⟩
          go_wp2_with fail
          refine (spec_wordOk 23 _).mono ?_
          rintro e w4 ⟨rfl, rfl⟩
          go_wp2
          go_ret
          exact ⟨rfl, Bel.alloc _ _⟩

set_option maxHeartbeats 2000000 in
theorem l2Ins_read (vals d a b n : Int) (w : World) :
    Calls Try.prog 44 #[.agg #[.int .i64 24, .int .i64 d, .int .i64 a, .int .i64 b, .int .i64 n], .int .i64 vals] w fun e w' => GivesBool w (insOkV vals 24 d a b n) e w' := by
  have hw : wordOkV 24 = false := by decide
  cases hvd : valIn vals d
  · have hf : insOkV vals 24 d a b n = false := by rw [insOkV_read]; simp [hvd]
    rw [hf]
    clear hf
    go_enter Try.func44, Try.ntmps44
    go_wp2_with fail
    refine (l2Value_any d vals _).mono ?_
    rintro e w1 ⟨rfl, rfl⟩
    go_wp2_with fail
    refine (l2Value_any a vals _).mono ?_
    rintro e w2 ⟨rfl, rfl⟩
    go_wp2_with fail
    refine (l2Value_any b vals _).mono ?_
    rintro e w3 ⟨rfl, rfl⟩
    go_wp2_with fail
    refine (spec_wordOk 24 _).mono ?_
    rintro e w4 ⟨rfl, rfl⟩
    go_wp2
    go_ret
    exact ⟨rfl, Bel.alloc _ _⟩
  · cases hza : (a == 0)
    · have hf : insOkV vals 24 d a b n = false := by rw [insOkV_read]; simp [hza]
      rw [hf]
      clear hf
      go_enter Try.func44, Try.ntmps44
      go_wp2_with fail
      refine (l2Value_any d vals _).mono ?_
      rintro e w1 ⟨rfl, rfl⟩
      go_wp2_with fail
      refine (l2Value_any a vals _).mono ?_
      rintro e w2 ⟨rfl, rfl⟩
      go_wp2_with fail
      refine (l2Value_any b vals _).mono ?_
      rintro e w3 ⟨rfl, rfl⟩
      go_wp2_with fail
      refine (spec_wordOk 24 _).mono ?_
      rintro e w4 ⟨rfl, rfl⟩
      go_wp2
      go_ret
      exact ⟨rfl, Bel.alloc _ _⟩
    · cases hzb : (b == 0)
      · have hf : insOkV vals 24 d a b n = false := by rw [insOkV_read]; simp [hzb]
        rw [hf]
        clear hf
        go_enter Try.func44, Try.ntmps44
        go_wp2_with fail
        refine (l2Value_any d vals _).mono ?_
        rintro e w1 ⟨rfl, rfl⟩
        go_wp2_with fail
        refine (l2Value_any a vals _).mono ?_
        rintro e w2 ⟨rfl, rfl⟩
        go_wp2_with fail
        refine (l2Value_any b vals _).mono ?_
        rintro e w3 ⟨rfl, rfl⟩
        go_wp2_with fail
        refine (spec_wordOk 24 _).mono ?_
        rintro e w4 ⟨rfl, rfl⟩
        go_wp2
        go_ret
        exact ⟨rfl, Bel.alloc _ _⟩
      · cases hzn : (n == 0)
        · have hf : insOkV vals 24 d a b n = false := by rw [insOkV_read]; simp [hzn]
          rw [hf]
          clear hf
          go_enter Try.func44, Try.ntmps44
          go_wp2_with fail
          refine (l2Value_any d vals _).mono ?_
          rintro e w1 ⟨rfl, rfl⟩
          go_wp2_with fail
          refine (l2Value_any a vals _).mono ?_
          rintro e w2 ⟨rfl, rfl⟩
          go_wp2_with fail
          refine (l2Value_any b vals _).mono ?_
          rintro e w3 ⟨rfl, rfl⟩
          go_wp2_with fail
          refine (spec_wordOk 24 _).mono ?_
          rintro e w4 ⟨rfl, rfl⟩
          go_wp2
          go_ret
          exact ⟨rfl, Bel.alloc _ _⟩
        · have hf : insOkV vals 24 d a b n = true := by rw [insOkV_read]; simp [hvd, hza, hzb, hzn]
          rw [hf]
          clear hf
          go_enter Try.func44, Try.ntmps44
          go_wp2_with fail
          refine (l2Value_any d vals _).mono ?_
          rintro e w1 ⟨rfl, rfl⟩
          go_wp2_with fail
          refine (l2Value_any a vals _).mono ?_
          rintro e w2 ⟨rfl, rfl⟩
          go_wp2_with fail
          refine (l2Value_any b vals _).mono ?_
          rintro e w3 ⟨rfl, rfl⟩
          go_wp2_with fail
          refine (spec_wordOk 24 _).mono ?_
          rintro e w4 ⟨rfl, rfl⟩
          go_wp2
          go_ret
          exact ⟨rfl, Bel.alloc _ _⟩

set_option maxHeartbeats 2000000 in
theorem l2Ins_copy (vals d a b n : Int) (w : World) :
    Calls Try.prog 44 #[.agg #[.int .i64 25, .int .i64 d, .int .i64 a, .int .i64 b, .int .i64 n], .int .i64 vals] w fun e w' => GivesBool w (insOkV vals 25 d a b n) e w' := by
  have hw : wordOkV 25 = false := by decide
  cases hvd : valIn vals d
  · have hf : insOkV vals 25 d a b n = false := by rw [insOkV_copy]; simp [hvd]
    rw [hf]
    clear hf
    go_enter Try.func44, Try.ntmps44
    go_wp2_with fail
    refine (l2Value_any d vals _).mono ?_
    rintro e w1 ⟨rfl, rfl⟩
    go_wp2_with fail
    refine (l2Value_any a vals _).mono ?_
    rintro e w2 ⟨rfl, rfl⟩
    go_wp2_with fail
    refine (l2Value_any b vals _).mono ?_
    rintro e w3 ⟨rfl, rfl⟩
    go_wp2_with fail
    refine (spec_wordOk 25 _).mono ?_
    rintro e w4 ⟨rfl, rfl⟩
    go_wp2
    go_ret
    exact ⟨rfl, Bel.alloc _ _⟩
  · cases hva : valIn vals a
    · have hf : insOkV vals 25 d a b n = false := by rw [insOkV_copy]; simp [hva]
      rw [hf]
      clear hf
      go_enter Try.func44, Try.ntmps44
      go_wp2_with fail
      refine (l2Value_any d vals _).mono ?_
      rintro e w1 ⟨rfl, rfl⟩
      go_wp2_with fail
      refine (l2Value_any a vals _).mono ?_
      rintro e w2 ⟨rfl, rfl⟩
      go_wp2_with fail
      refine (l2Value_any b vals _).mono ?_
      rintro e w3 ⟨rfl, rfl⟩
      go_wp2_with fail
      refine (spec_wordOk 25 _).mono ?_
      rintro e w4 ⟨rfl, rfl⟩
      go_wp2
      go_ret
      exact ⟨rfl, Bel.alloc _ _⟩
    · cases hzb : (b == 0)
      · have hf : insOkV vals 25 d a b n = false := by rw [insOkV_copy]; simp [hzb]
        rw [hf]
        clear hf
        go_enter Try.func44, Try.ntmps44
        go_wp2_with fail
        refine (l2Value_any d vals _).mono ?_
        rintro e w1 ⟨rfl, rfl⟩
        go_wp2_with fail
        refine (l2Value_any a vals _).mono ?_
        rintro e w2 ⟨rfl, rfl⟩
        go_wp2_with fail
        refine (l2Value_any b vals _).mono ?_
        rintro e w3 ⟨rfl, rfl⟩
        go_wp2_with fail
        refine (spec_wordOk 25 _).mono ?_
        rintro e w4 ⟨rfl, rfl⟩
        go_wp2
        go_ret
        exact ⟨rfl, Bel.alloc _ _⟩
      · cases hzn : (n == 0)
        · have hf : insOkV vals 25 d a b n = false := by rw [insOkV_copy]; simp [hzn]
          rw [hf]
          clear hf
          go_enter Try.func44, Try.ntmps44
          go_wp2_with fail
          refine (l2Value_any d vals _).mono ?_
          rintro e w1 ⟨rfl, rfl⟩
          go_wp2_with fail
          refine (l2Value_any a vals _).mono ?_
          rintro e w2 ⟨rfl, rfl⟩
          go_wp2_with fail
          refine (l2Value_any b vals _).mono ?_
          rintro e w3 ⟨rfl, rfl⟩
          go_wp2_with fail
          refine (spec_wordOk 25 _).mono ?_
          rintro e w4 ⟨rfl, rfl⟩
          go_wp2
          go_ret
          exact ⟨rfl, Bel.alloc _ _⟩
        · have hf : insOkV vals 25 d a b n = true := by rw [insOkV_copy]; simp [hvd, hva, hzb, hzn]
          rw [hf]
          clear hf
          go_enter Try.func44, Try.ntmps44
          go_wp2_with fail
          refine (l2Value_any d vals _).mono ?_
          rintro e w1 ⟨rfl, rfl⟩
          go_wp2_with fail
          refine (l2Value_any a vals _).mono ?_
          rintro e w2 ⟨rfl, rfl⟩
          go_wp2_with fail
          refine (l2Value_any b vals _).mono ?_
          rintro e w3 ⟨rfl, rfl⟩
          go_wp2_with fail
          refine (spec_wordOk 25 _).mono ?_
          rintro e w4 ⟨rfl, rfl⟩
          go_wp2
          go_ret
          exact ⟨rfl, Bel.alloc _ _⟩

set_option maxHeartbeats 2000000 in
theorem l2Ins_word (vals op d a b n : Int) (h : 1 ≤ op) (h1 : op ≤ 10) (w : World) :
    Calls Try.prog 44 #[.agg #[.int .i64 op, .int .i64 d, .int .i64 a, .int .i64 b, .int .i64 n], .int .i64 vals] w fun e w' => GivesBool w (insOkV vals op d a b n) e w' := by
  have hw : wordOkV op = true := wordOkV_yes h h1
  cases hvd : valIn vals d
  · have hf : insOkV vals op d a b n = false := by rw [insOkV_word h h1]; simp [hvd]
    rw [hf]
    clear hf
    go_enter Try.func44, Try.ntmps44
    go_wp2_with fail
    refine (l2Value_any d vals _).mono ?_
    rintro e w1 ⟨rfl, rfl⟩
    go_wp2_with fail
    refine (l2Value_any a vals _).mono ?_
    rintro e w2 ⟨rfl, rfl⟩
    go_wp2_with fail
    refine (l2Value_any b vals _).mono ?_
    rintro e w3 ⟨rfl, rfl⟩
    go_wp2_with fail
    refine (spec_wordOk op _).mono ?_
    rintro e w4 ⟨rfl, rfl⟩
    go_wp2
    go_ret
    exact ⟨rfl, Bel.alloc _ _⟩
  · cases hva : valIn vals a
    · have hf : insOkV vals op d a b n = false := by rw [insOkV_word h h1]; simp [hva]
      rw [hf]
      clear hf
      go_enter Try.func44, Try.ntmps44
      go_wp2_with fail
      refine (l2Value_any d vals _).mono ?_
      rintro e w1 ⟨rfl, rfl⟩
      go_wp2_with fail
      refine (l2Value_any a vals _).mono ?_
      rintro e w2 ⟨rfl, rfl⟩
      go_wp2_with fail
      refine (l2Value_any b vals _).mono ?_
      rintro e w3 ⟨rfl, rfl⟩
      go_wp2_with fail
      refine (spec_wordOk op _).mono ?_
      rintro e w4 ⟨rfl, rfl⟩
      go_wp2
      go_ret
      exact ⟨rfl, Bel.alloc _ _⟩
    · cases hvb : valIn vals b
      · have hf : insOkV vals op d a b n = false := by rw [insOkV_word h h1]; simp [hvb]
        rw [hf]
        clear hf
        go_enter Try.func44, Try.ntmps44
        go_wp2_with fail
        refine (l2Value_any d vals _).mono ?_
        rintro e w1 ⟨rfl, rfl⟩
        go_wp2_with fail
        refine (l2Value_any a vals _).mono ?_
        rintro e w2 ⟨rfl, rfl⟩
        go_wp2_with fail
        refine (l2Value_any b vals _).mono ?_
        rintro e w3 ⟨rfl, rfl⟩
        go_wp2_with fail
        refine (spec_wordOk op _).mono ?_
        rintro e w4 ⟨rfl, rfl⟩
        go_wp2
        go_ret
        exact ⟨rfl, Bel.alloc _ _⟩
      · cases hzn : (n == 0)
        · have hf : insOkV vals op d a b n = false := by rw [insOkV_word h h1]; simp [hzn]
          rw [hf]
          clear hf
          go_enter Try.func44, Try.ntmps44
          go_wp2_with fail
          refine (l2Value_any d vals _).mono ?_
          rintro e w1 ⟨rfl, rfl⟩
          go_wp2_with fail
          refine (l2Value_any a vals _).mono ?_
          rintro e w2 ⟨rfl, rfl⟩
          go_wp2_with fail
          refine (l2Value_any b vals _).mono ?_
          rintro e w3 ⟨rfl, rfl⟩
          go_wp2_with fail
          refine (spec_wordOk op _).mono ?_
          rintro e w4 ⟨rfl, rfl⟩
          go_wp2
          go_ret
          exact ⟨rfl, Bel.alloc _ _⟩
        · have hf : insOkV vals op d a b n = true := by rw [insOkV_word h h1]; simp [hvd, hva, hvb, hzn]
          rw [hf]
          clear hf
          go_enter Try.func44, Try.ntmps44
          go_wp2_with fail
          refine (l2Value_any d vals _).mono ?_
          rintro e w1 ⟨rfl, rfl⟩
          go_wp2_with fail
          refine (l2Value_any a vals _).mono ?_
          rintro e w2 ⟨rfl, rfl⟩
          go_wp2_with fail
          refine (l2Value_any b vals _).mono ?_
          rintro e w3 ⟨rfl, rfl⟩
          go_wp2_with fail
          refine (spec_wordOk op _).mono ?_
          rintro e w4 ⟨rfl, rfl⟩
          go_wp2
          go_ret
          exact ⟨rfl, Bel.alloc _ _⟩

set_option maxHeartbeats 2000000 in
theorem l2Ins_any (vals op d a b n : Int) (w : World) :
    Calls Try.prog 44 #[.agg #[.int .i64 op, .int .i64 d, .int .i64 a, .int .i64 b, .int .i64 n], .int .i64 vals] w fun e w' => GivesBool w (insOkV vals op d a b n) e w' := by
  rcases op_cases op with h | h | h | h | h | h | ⟨⟨e0, e1, e2, e3, e4, e5⟩, ⟨h, h1⟩ | h | ⟨h1, h⟩⟩
  · subst h; exact l2Ins_const vals d a b n w
  · subst h; exact l2Ins_load vals d a b n w
  · subst h; exact l2Ins_store vals d a b n w
  · subst h; exact l2Ins_out vals d a b n w
  · subst h; exact l2Ins_read vals d a b n w
  · subst h; exact l2Ins_copy vals d a b n w
  · exact l2Ins_word vals op d a b n h h1 w
  · rw [insOkV_none e0 e1 e2 e3 e4 e5 (by omega)]
    have hw : wordOkV op = false := wordOkV_lo h
    go_enter Try.func44, Try.ntmps44
    go_wp2_with fail
    refine (l2Value_any d vals _).mono ?_
    rintro e w1 ⟨rfl, rfl⟩
    go_wp2_with fail
    refine (l2Value_any a vals _).mono ?_
    rintro e w2 ⟨rfl, rfl⟩
    go_wp2_with fail
    refine (l2Value_any b vals _).mono ?_
    rintro e w3 ⟨rfl, rfl⟩
    go_wp2_with fail
    refine (spec_wordOk op _).mono ?_
    rintro e w4 ⟨rfl, rfl⟩
    go_wp2
    go_ret
    exact ⟨rfl, Bel.alloc _ _⟩
  · rw [insOkV_none e0 e1 e2 e3 e4 e5 (by omega)]
    have hw : wordOkV op = false := wordOkV_hi h
    go_enter Try.func44, Try.ntmps44
    go_wp2_with fail
    refine (l2Value_any d vals _).mono ?_
    rintro e w1 ⟨rfl, rfl⟩
    go_wp2_with fail
    refine (l2Value_any a vals _).mono ?_
    rintro e w2 ⟨rfl, rfl⟩
    go_wp2_with fail
    refine (l2Value_any b vals _).mono ?_
    rintro e w3 ⟨rfl, rfl⟩
    go_wp2_with fail
    refine (spec_wordOk op _).mono ?_
    rintro e w4 ⟨rfl, rfl⟩
    go_wp2
    go_ret
    exact ⟨rfl, Bel.alloc _ _⟩

set_option maxHeartbeats 2000000 in
theorem l2Term_1 (blocks vals a t o : Int) (hb0 : 0 ≤ blocks) (hb1 : blocks ≤ 9223372036854775807) (w : World) :
    Calls Try.prog 42 #[.agg #[.int .i64 1, .int .i64 a, .int .i64 t, .int .i64 o], .int .i64 blocks, .int .i64 vals] w fun e w' => GivesBool w (termOkV blocks vals 1 a t o) e w' := by
  cases ht : (valIn blocks t)
  · have hf : termOkV blocks vals 1 a t o = false := by simp [termOkV, ht]
    rw [hf]
    clear hf
    go_enter Try.func42, Try.ntmps42
    go_wp2_with fail
    refine (l1In_block t blocks _).mono ?_
    rintro e w1 ⟨rfl, rfl⟩
    go_wp2_with fail
    refine (l1In_block o blocks _).mono ?_
    rintro e w2 ⟨rfl, rfl⟩
    go_wp2_with fail
    refine (l2Value_any a vals _).mono ?_
    rintro e w3 ⟨rfl, rfl⟩
    go_wp2
    go_ret
    exact ⟨rfl, Bel.alloc _ _⟩
  · cases ha : (a == 0)
    · have hf : termOkV blocks vals 1 a t o = false := by simp [termOkV, ha]
      rw [hf]
      clear hf
      go_enter Try.func42, Try.ntmps42
      go_wp2_with fail
      refine (l1In_block t blocks _).mono ?_
      rintro e w1 ⟨rfl, rfl⟩
      go_wp2_with fail
      refine (l1In_block o blocks _).mono ?_
      rintro e w2 ⟨rfl, rfl⟩
      go_wp2_with fail
      refine (l2Value_any a vals _).mono ?_
      rintro e w3 ⟨rfl, rfl⟩
      go_wp2
      go_ret
      exact ⟨rfl, Bel.alloc _ _⟩
    · cases ho : (o == 0)
      · have hf : termOkV blocks vals 1 a t o = false := by simp [termOkV, ho]
        rw [hf]
        clear hf
        go_enter Try.func42, Try.ntmps42
        go_wp2_with fail
        refine (l1In_block t blocks _).mono ?_
        rintro e w1 ⟨rfl, rfl⟩
        go_wp2_with fail
        refine (l1In_block o blocks _).mono ?_
        rintro e w2 ⟨rfl, rfl⟩
        go_wp2_with fail
        refine (l2Value_any a vals _).mono ?_
        rintro e w3 ⟨rfl, rfl⟩
        go_wp2
        go_ret
        exact ⟨rfl, Bel.alloc _ _⟩
      · have hf : termOkV blocks vals 1 a t o = true := by simp [termOkV, ht, ha, ho]
        rw [hf]
        clear hf
        go_enter Try.func42, Try.ntmps42
        go_wp2_with fail
        refine (l1In_block t blocks _).mono ?_
        rintro e w1 ⟨rfl, rfl⟩
        go_wp2_with fail
        refine (l1In_block o blocks _).mono ?_
        rintro e w2 ⟨rfl, rfl⟩
        go_wp2_with fail
        refine (l2Value_any a vals _).mono ?_
        rintro e w3 ⟨rfl, rfl⟩
        go_wp2
        go_ret
        exact ⟨rfl, Bel.alloc _ _⟩

set_option maxHeartbeats 2000000 in
theorem l2Term_2 (blocks vals a t o : Int) (hb0 : 0 ≤ blocks) (hb1 : blocks ≤ 9223372036854775807) (w : World) :
    Calls Try.prog 42 #[.agg #[.int .i64 2, .int .i64 a, .int .i64 t, .int .i64 o], .int .i64 blocks, .int .i64 vals] w fun e w' => GivesBool w (termOkV blocks vals 2 a t o) e w' := by
  cases ht : (valIn blocks t)
  · have hf : termOkV blocks vals 2 a t o = false := by simp [termOkV, ht]
    rw [hf]
    clear hf
    go_enter Try.func42, Try.ntmps42
    go_wp2_with fail
    refine (l1In_block t blocks _).mono ?_
    rintro e w1 ⟨rfl, rfl⟩
    go_wp2_with fail
    refine (l1In_block o blocks _).mono ?_
    rintro e w2 ⟨rfl, rfl⟩
    go_wp2_with fail
    refine (l2Value_any a vals _).mono ?_
    rintro e w3 ⟨rfl, rfl⟩
    go_wp2
    go_ret
    exact ⟨rfl, Bel.alloc _ _⟩
  · cases ho : (valIn blocks o)
    · have hf : termOkV blocks vals 2 a t o = false := by simp [termOkV, ho]
      rw [hf]
      clear hf
      go_enter Try.func42, Try.ntmps42
      go_wp2_with fail
      refine (l1In_block t blocks _).mono ?_
      rintro e w1 ⟨rfl, rfl⟩
      go_wp2_with fail
      refine (l1In_block o blocks _).mono ?_
      rintro e w2 ⟨rfl, rfl⟩
      go_wp2_with fail
      refine (l2Value_any a vals _).mono ?_
      rintro e w3 ⟨rfl, rfl⟩
      go_wp2
      go_ret
      exact ⟨rfl, Bel.alloc _ _⟩
    · cases ha : (valIn vals a)
      · have hf : termOkV blocks vals 2 a t o = false := by simp [termOkV, ha]
        rw [hf]
        clear hf
        go_enter Try.func42, Try.ntmps42
        go_wp2_with fail
        refine (l1In_block t blocks _).mono ?_
        rintro e w1 ⟨rfl, rfl⟩
        go_wp2_with fail
        refine (l1In_block o blocks _).mono ?_
        rintro e w2 ⟨rfl, rfl⟩
        go_wp2_with fail
        refine (l2Value_any a vals _).mono ?_
        rintro e w3 ⟨rfl, rfl⟩
        go_wp2
        go_ret
        exact ⟨rfl, Bel.alloc _ _⟩
      · have hf : termOkV blocks vals 2 a t o = true := by simp [termOkV, ht, ho, ha]
        rw [hf]
        clear hf
        go_enter Try.func42, Try.ntmps42
        go_wp2_with fail
        refine (l1In_block t blocks _).mono ?_
        rintro e w1 ⟨rfl, rfl⟩
        go_wp2_with fail
        refine (l1In_block o blocks _).mono ?_
        rintro e w2 ⟨rfl, rfl⟩
        go_wp2_with fail
        refine (l2Value_any a vals _).mono ?_
        rintro e w3 ⟨rfl, rfl⟩
        go_wp2
        go_ret
        exact ⟨rfl, Bel.alloc _ _⟩

set_option maxHeartbeats 2000000 in
theorem l2Term_3 (blocks vals a t o : Int) (hb0 : 0 ≤ blocks) (hb1 : blocks ≤ 9223372036854775807) (w : World) :
    Calls Try.prog 42 #[.agg #[.int .i64 3, .int .i64 a, .int .i64 t, .int .i64 o], .int .i64 blocks, .int .i64 vals] w fun e w' => GivesBool w (termOkV blocks vals 3 a t o) e w' := by
  cases ha : (valIn vals a)
  · have hf : termOkV blocks vals 3 a t o = false := by simp [termOkV, ha]
    rw [hf]
    clear hf
    go_enter Try.func42, Try.ntmps42
    go_wp2_with fail
    refine (l1In_block t blocks _).mono ?_
    rintro e w1 ⟨rfl, rfl⟩
    go_wp2_with fail
    refine (l1In_block o blocks _).mono ?_
    rintro e w2 ⟨rfl, rfl⟩
    go_wp2_with fail
    refine (l2Value_any a vals _).mono ?_
    rintro e w3 ⟨rfl, rfl⟩
    go_wp2
    go_ret
    exact ⟨rfl, Bel.alloc _ _⟩
  · cases ht : (t == 0)
    · have hf : termOkV blocks vals 3 a t o = false := by simp [termOkV, ht]
      rw [hf]
      clear hf
      go_enter Try.func42, Try.ntmps42
      go_wp2_with fail
      refine (l1In_block t blocks _).mono ?_
      rintro e w1 ⟨rfl, rfl⟩
      go_wp2_with fail
      refine (l1In_block o blocks _).mono ?_
      rintro e w2 ⟨rfl, rfl⟩
      go_wp2_with fail
      refine (l2Value_any a vals _).mono ?_
      rintro e w3 ⟨rfl, rfl⟩
      go_wp2
      go_ret
      exact ⟨rfl, Bel.alloc _ _⟩
    · cases ho : (o == 0)
      · have hf : termOkV blocks vals 3 a t o = false := by simp [termOkV, ho]
        rw [hf]
        clear hf
        go_enter Try.func42, Try.ntmps42
        go_wp2_with fail
        refine (l1In_block t blocks _).mono ?_
        rintro e w1 ⟨rfl, rfl⟩
        go_wp2_with fail
        refine (l1In_block o blocks _).mono ?_
        rintro e w2 ⟨rfl, rfl⟩
        go_wp2_with fail
        refine (l2Value_any a vals _).mono ?_
        rintro e w3 ⟨rfl, rfl⟩
        go_wp2
        go_ret
        exact ⟨rfl, Bel.alloc _ _⟩
      · have hf : termOkV blocks vals 3 a t o = true := by simp [termOkV, ha, ht, ho]
        rw [hf]
        clear hf
        go_enter Try.func42, Try.ntmps42
        go_wp2_with fail
        refine (l1In_block t blocks _).mono ?_
        rintro e w1 ⟨rfl, rfl⟩
        go_wp2_with fail
        refine (l1In_block o blocks _).mono ?_
        rintro e w2 ⟨rfl, rfl⟩
        go_wp2_with fail
        refine (l2Value_any a vals _).mono ?_
        rintro e w3 ⟨rfl, rfl⟩
        go_wp2
        go_ret
        exact ⟨rfl, Bel.alloc _ _⟩

set_option maxHeartbeats 2000000 in
theorem l2Term_none (blocks vals k a t o : Int) (e1 : (k == 1) = false) (e2 : (k == 2) = false) (e3 : (k == 3) = false) (hb0 : 0 ≤ blocks) (hb1 : blocks ≤ 9223372036854775807) (w : World) :
    Calls Try.prog 42 #[.agg #[.int .i64 k, .int .i64 a, .int .i64 t, .int .i64 o], .int .i64 blocks, .int .i64 vals] w fun e w' => GivesBool w (termOkV blocks vals k a t o) e w' := by
  rw [show termOkV blocks vals k a t o = false by simp only [beq_eq_false_iff_ne, ne_eq] at e1 e2 e3; simp [termOkV, e1, e2, e3]]
  go_enter Try.func42, Try.ntmps42
  go_wp2_with fail
  refine (l1In_block t blocks _).mono ?_
  rintro e w1 ⟨rfl, rfl⟩
  go_wp2_with fail
  refine (l1In_block o blocks _).mono ?_
  rintro e w2 ⟨rfl, rfl⟩
  go_wp2_with fail
  refine (l2Value_any a vals _).mono ?_
  rintro e w3 ⟨rfl, rfl⟩
  go_wp2
  go_ret
  exact ⟨rfl, Bel.alloc _ _⟩

theorem l2Term_any (blocks vals k a t o : Int) (hb0 : 0 ≤ blocks) (hb1 : blocks ≤ 9223372036854775807) (w : World) :
    Calls Try.prog 42 #[.agg #[.int .i64 k, .int .i64 a, .int .i64 t, .int .i64 o], .int .i64 blocks, .int .i64 vals] w fun e w' => GivesBool w (termOkV blocks vals k a t o) e w' := by
  by_cases h1 : k = 1
  · subst h1; exact l2Term_1 blocks vals a t o hb0 hb1 w
  · by_cases h2 : k = 2
    · subst h2; exact l2Term_2 blocks vals a t o hb0 hb1 w
    · by_cases h3 : k = 3
      · subst h3; exact l2Term_3 blocks vals a t o hb0 hb1 w
      · exact l2Term_none blocks vals k a t o (by simpa using h1) (by simpa using h2) (by simpa using h3) hb0 hb1 w

end Go.Proofs.Ytgjojajodkagbaa
