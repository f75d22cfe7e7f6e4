/- The shape of a program, part 1: values, blocks, places and ends: the model and the program answer alike. The shape of a program, part 2: the places and ends, as the model looks at them. The shape of a program, part 5: the phis, as the model looks at them. What it is to be of the right shape. Programs as bytes: the numbers of a program in their order. Values within bounds, by their list's answer. -/
import Derived.Test.YthdioeeanodjiaaDoorKBa
import Derived.Handy
import Derived.Deep.RegionWith
import Derived.BigRegion
import Derived.Deep.QuietTactic
import Derived.BigQuiet
namespace Go.Proofs.YthdioeeanodjiaaDoor
open Go.ChangeShapes Go.WideShapes Go.ChangeAt Go.RowKit
set_option linter.unusedVariables false

/-- Is v a number from 0 on and below n? -/
def valIn (n v : Int) : Bool := decide (0 ≤ v) && decide (v < n)
theorem valIn_yes {n v : Int} (h : 0 ≤ v) (h1 : v < n) : valIn n v = true := by simp [valIn, h, h1]
theorem valIn_lo {n v : Int} (h : ¬ 0 ≤ v) : valIn n v = false := by simp [valIn, h]
theorem valIn_hi {n v : Int} (h : ¬ v < n) : valIn n v = false := by simp [valIn, h]
theorem valIn_iff {n v : Int} : valIn n v = true ↔ 0 ≤ v ∧ v < n := by simp [valIn]

/-- A Bool is returned; the world only grows. -/
def GivesBool (w : World) (b : Bool) (e : Ending) (w' : World) : Prop := e = .returned (.bool b) ∧ Below w.heap.size w w'

theorem l2Value_any (v n : Int) (w : World) :
    Calls Tryd.prog 70 #[.int .i64 v, .int .i64 n] w fun e w' => e = .returned (.bool (valIn n v)) ∧ w' = w := by
  by_cases h : 0 ≤ v
  · by_cases h1 : v < n
    · rw [valIn_yes h h1]
      go_enter Tryd.func70, Tryd.ntmps70
      go_wp2
      go_ret
      exact ⟨rfl, rfl⟩
    · rw [valIn_hi h1]
      go_enter Tryd.func70, Tryd.ntmps70
      go_wp2
      go_ret
      exact ⟨rfl, rfl⟩
  · rw [valIn_lo h]
    go_enter Tryd.func70, Tryd.ntmps70
    go_wp2
    go_ret
    exact ⟨rfl, rfl⟩

theorem l1In_any (v lo hi : Int) (w : World) :
    Calls Tryd.prog 43 #[.int .i64 v, .int .i64 lo, .int .i64 hi] w fun e w' => e = .returned (.bool (decide (lo ≤ v) && decide (v ≤ hi))) ∧ w' = w := by
  by_cases h : lo ≤ v
  · by_cases h1 : v ≤ hi
    · rw [show (decide (lo ≤ v) && decide (v ≤ hi)) = true by simp [h, h1]]
      go_enter Tryd.func43, Tryd.ntmps43
      go_wp2
      go_ret
      exact ⟨rfl, rfl⟩
    · rw [show (decide (lo ≤ v) && decide (v ≤ hi)) = false by simp [h1]]
      go_enter Tryd.func43, Tryd.ntmps43
      go_wp2
      go_ret
      exact ⟨rfl, rfl⟩
  · rw [show (decide (lo ≤ v) && decide (v ≤ hi)) = false by simp [h]]
    go_enter Tryd.func43, Tryd.ntmps43
    go_wp2
    go_ret
    exact ⟨rfl, rfl⟩

/-- 'From 0 to n - 1', as the model asks it. -/
theorem l1In_block (v n : Int) (w : World) :
    Calls Tryd.prog 43 #[.int .i64 v, .int .i64 0, .int .i64 (n - 1)] w fun e w' => e = .returned (.bool (valIn n v)) ∧ w' = w := by
  have e1 : valIn n v = (decide (0 ≤ v) && decide (v ≤ n - 1)) := by
    simp only [valIn]
    congr 1
    simp only [decide_eq_decide]
    omega
  rw [e1]
  exact l1In_any v 0 (n - 1) w

theorem valueIn_any (ba : Option Addr) (bn bcap : Nat) (vals v : Int) (w : World) :
    Calls Tryd.prog 86 #[.agg #[.slice ba bn bcap, .int .i64 vals], .int .i64 v] w fun e w' => GivesBool w (valIn vals v) e w' := by
  by_cases h : 0 ≤ v
  · by_cases h1 : v < vals
    · rw [valIn_yes h h1]
      go_enter Tryd.func86, Tryd.ntmps86
      go_wp2
      go_ret
      exact ⟨rfl, Bel.alloc _ _⟩
    · rw [valIn_hi h1]
      go_enter Tryd.func86, Tryd.ntmps86
      go_wp2
      go_ret
      exact ⟨rfl, Bel.alloc _ _⟩
  · rw [valIn_lo h]
    go_enter Tryd.func86, Tryd.ntmps86
    go_wp2
    go_ret
    exact ⟨rfl, Bel.alloc _ _⟩

theorem blockIn_any (ba : Option Addr) (bn bcap : Nat) (vals v : Int) (w : World) :
    Calls Tryd.prog 87 #[.agg #[.slice ba bn bcap, .int .i64 vals], .int .i64 v] w fun e w' => GivesBool w (valIn (bn : Int) v) e w' := by
  by_cases h : 0 ≤ v
  · by_cases h1 : v < (bn : Int)
    · rw [valIn_yes h h1]
      go_enter Tryd.func87, Tryd.ntmps87
      go_wp2
      go_ret
      exact ⟨rfl, Bel.alloc _ _⟩
    · rw [valIn_hi h1]
      go_enter Tryd.func87, Tryd.ntmps87
      go_wp2
      go_ret
      exact ⟨rfl, Bel.alloc _ _⟩
  · rw [valIn_lo h]
    go_enter Tryd.func87, Tryd.ntmps87
    go_wp2
    go_ret
    exact ⟨rfl, Bel.alloc _ _⟩

theorem all_take_step {l : List Int} {p : Int → Bool} {k : Nat} (hk : k < l.length) (h : (l.take k).all p = true) (hx : p (l.getD k 0) = true) : (l.take (k + 1)).all p = true := by
  rw [take_next hk, List.all_append, h]
  simp only [List.all_cons, List.all_nil, hx, Bool.and_self]

theorem all_fails {l : List Int} {p : Int → Bool} {k : Nat} (hk : k < l.length) (hx : p (l.getD k 0) = false) : l.all p = false := by
  rw [List.all_eq_false]
  refine ⟨l.getD k 0, ?_, by rw [hx]; decide⟩
  rw [List.getD_eq_getElem?_getD, List.getElem?_eq_getElem hk]
  exact List.getElem_mem hk

set_option maxHeartbeats 1000000 in
theorem valuesIn_any (ba : Option Addr) (bn bcap : Nat) (vals : Int) (v : Value) (l : List Int) (w : World) (hl : IntsAt w v l) :
    Calls Tryd.prog 90 #[.agg #[.slice ba bn bcap, .int .i64 vals], v] w fun e w' => GivesBool w (l.all (valIn vals)) e w' := by
  obtain ⟨a, cap, rfl, hm, hc⟩ := hl
  obtain ⟨n, HN⟩ : ∃ n, Hid (l.length = n) := ⟨_, rfl⟩
  rw [HN.out] at hm hc ⊢
  have HC : Hid (0 < n → ∃ b off, a = some ⟨b, off, none⟩ ∧ ∀ i, i < n → w.cell? ⟨b, off + i, none⟩ = some (.int .i64 (l.getD i 0))) := hc
  clear hc
  go_enter Tryd.func90, Tryd.ntmps90
  go_wp2
  go_loopw [9] (fun i wr => ∃ k : Nat, k ≤ n ∧ i = .int .i64 k ∧ (l.take k).all (valIn vals) = true ∧ Below (w.alloc (.cells #[.slice ba bn bcap, .int .i64 vals] 26)).heap.size (w.alloc (.cells #[.slice ba bn bcap, .int .i64 vals] 26)) wr) (fun i _ => n - (intOf i).toNat)
  case atStart => exact ⟨0, Nat.zero_le _, rfl, by simp, Below.refl _ _⟩
  case round =>
    obtain ⟨k, hk, rfl, htk, hb3⟩ := hrel
    have HT : Hid ((l.take k).all (valIn vals) = true) := htk
    have H0 : Hid (Below (w.alloc (.cells #[.slice ba bn bcap, .int .i64 vals] 26)).heap.size (w.alloc (.cells #[.slice ba bn bcap, .int .i64 vals] 26)) wr) := hb3
    have H1 : Hid (Below w.heap.size w wr) := Bel.after (Bel.alloc w _) hb3
    have g0 := box_cell hb3 0
    have g1 := box_cell hb3 1
    simp at g0 g1
    clear htk hb3
    by_cases hlt : (k : Int) < (n : Int)
    · obtain ⟨b, off, rfl, hc1⟩ := HC.out (by omega)
      obtain ⟨x, HX⟩ : ∃ x, Hid (l.getD k 0 = x) := ⟨_, rfl⟩
      have q1 := Bel.keeps H1.out (hc1 k (by omega))
      rw [HX.out] at q1
      clear hc1
      go_wp2_with fail
      refine (valueIn_any ba bn bcap vals x _).mono ?_
      rintro e w1 ⟨rfl, b1⟩
      have B1 : Hid (Below wr.heap.size wr w1) := b1
      clear b1
      cases hv : valIn vals x
      · go_wp2
        go_ret
        exact ⟨by rw [all_fails (l := l) (k := k) (by have := HN.out; omega) (by rw [HX.out]; exact hv)]; rfl, Bel.after H1.out B1.out⟩
      · go_wp2
        go_roundw
        case rel => exact ⟨k + 1, by omega, by go_num, all_take_step (by have := HN.out; omega) HT.out (by rw [HX.out]; exact hv), Bel.after H0.out B1.out⟩
        case measure => simp [intOf]; omega
    · have hkn : k = n := by omega
      have hall : l.all (valIn vals) = true := by
        have h := HT.out
        rw [List.take_of_length_le (by have := HN.out; omega)] at h
        exact h
      have HA : Hid (l.all (valIn vals) = true) := hall
      clear hkn hall
      go_wp2
      go_ret
      exact ⟨by rw [HA.out]; rfl, H1.out⟩

end Go.Proofs.YthdioeeanodjiaaDoor

namespace Go.Proofs.YthdioeeanodjiaaDoor
open Go.ChangeShapes Go.WideShapes Go.ChangeAt Go.RowKit
set_option linter.unusedVariables false

/-- Is a place right, of so many values? -/
def insOkV (vals op d a b n : Int) : Bool :=
  if 1 ≤ op ∧ op ≤ 10 then valIn vals d && valIn vals a && valIn vals b && (n == 0)
  else if op = 20 then valIn vals d && (a == 0) && (b == 0)
  else if op = 21 ∨ op = 25 then valIn vals d && valIn vals a && (b == 0) && (n == 0)
  else if op = 22 then valIn vals a && valIn vals b && (d == 0) && (n == 0)
  else if op = 23 then valIn vals a && (d == 0) && (b == 0) && (n == 0)
  else if op = 24 then valIn vals d && (a == 0) && (b == 0) && (n == 0)
  else false
theorem insOkV_word {vals op d a b n : Int} (h : 1 ≤ op) (h1 : op ≤ 10) : insOkV vals op d a b n = (valIn vals d && valIn vals a && valIn vals b && (n == 0)) := by simp [insOkV, h, h1]
theorem insOkV_none {vals op d a b n : Int} (e0 : (op == 20) = false) (e1 : (op == 21) = false) (e2 : (op == 22) = false) (e3 : (op == 23) = false) (e4 : (op == 24) = false) (e5 : (op == 25) = false) (h : ¬ (1 ≤ op ∧ op ≤ 10)) : insOkV vals op d a b n = false := by
  simp only [beq_eq_false_iff_ne, ne_eq] at e0 e1 e2 e3 e4 e5
  simp only [insOkV, e0, e1, e2, e3, e4, e5, h, or_self, if_false]
theorem insOkV_const {vals d a b n : Int} : insOkV vals 20 d a b n = (valIn vals d && (a == 0) && (b == 0)) := by simp [insOkV]
theorem insOkV_load {vals d a b n : Int} : insOkV vals 21 d a b n = (valIn vals d && valIn vals a && (b == 0) && (n == 0)) := by simp [insOkV]
theorem insOkV_copy {vals d a b n : Int} : insOkV vals 25 d a b n = (valIn vals d && valIn vals a && (b == 0) && (n == 0)) := by simp [insOkV]
theorem insOkV_store {vals d a b n : Int} : insOkV vals 22 d a b n = (valIn vals a && valIn vals b && (d == 0) && (n == 0)) := by simp [insOkV]
theorem insOkV_out {vals d a b n : Int} : insOkV vals 23 d a b n = (valIn vals a && (d == 0) && (b == 0) && (n == 0)) := by simp [insOkV]
theorem insOkV_read {vals d a b n : Int} : insOkV vals 24 d a b n = (valIn vals d && (a == 0) && (b == 0) && (n == 0)) := by simp [insOkV]

/-- Is an end right, of so many blocks and values? -/
def termOkV (blocks vals k a t e : Int) : Bool :=
  if k = 1 then valIn blocks t && (a == 0) && (e == 0)
  else if k = 2 then valIn blocks t && valIn blocks e && valIn vals a
  else if k = 3 then valIn vals a && (t == 0) && (e == 0)
  else false

set_option maxHeartbeats 4000000 in
theorem l2Ins_const (vals d a b n : Int) (w : World) :
    Calls Tryd.prog 46 #[.agg #[.int .i64 20, .int .i64 d, .int .i64 a, .int .i64 b, .int .i64 n], .int .i64 vals] w fun e w' => GivesBool w (insOkV vals 20 d a b n) e w' := by
  have hw : wordOkV 20 = false := by decide
  rw [insOkV_const]
  go_enter Tryd.func46, Tryd.ntmps46
  go_wp2_with fail
  refine (l2Value_any d vals _).mono ?_
  rintro e w1 ⟨rfl, rfl⟩
  go_wp2_with fail
  refine (l2Value_any a vals _).mono ?_
  rintro e w2 ⟨rfl, rfl⟩
  go_wp2_with fail
  refine (l2Value_any b vals _).mono ?_
  rintro e w3 ⟨rfl, rfl⟩
  go_wp2_with fail
  refine (spec_wordOk 20 _).mono ?_
  rintro e w4 ⟨rfl, rfl⟩
  try rw [hw]
  cases h0 : valIn vals d
  · (go_wp2; go_ret; exact ⟨by simp only [h0, Bool.false_and]; rfl, Bel.alloc _ _⟩)
  · cases h1 : (a == 0)
    · (go_wp2; go_ret; exact ⟨by simp only [h0, h1, Bool.true_and, Bool.false_and]; rfl, Bel.alloc _ _⟩)
    · cases h2 : (b == 0)
      · (go_wp2; go_ret; exact ⟨by simp only [h0, h1, h2, Bool.true_and]; rfl, Bel.alloc _ _⟩)
      · (go_wp2; go_ret; exact ⟨by simp only [h0, h1, h2, Bool.true_and]; rfl, Bel.alloc _ _⟩)

set_option maxHeartbeats 4000000 in
theorem l2Ins_load (vals d a b n : Int) (w : World) :
    Calls Tryd.prog 46 #[.agg #[.int .i64 21, .int .i64 d, .int .i64 a, .int .i64 b, .int .i64 n], .int .i64 vals] w fun e w' => GivesBool w (insOkV vals 21 d a b n) e w' := by
  have hw : wordOkV 21 = false := by decide
  rw [insOkV_load]
  go_enter Tryd.func46, Tryd.ntmps46
  go_wp2_with fail
  refine (l2Value_any d vals _).mono ?_
  rintro e w1 ⟨rfl, rfl⟩
  go_wp2_with fail
  refine (l2Value_any a vals _).mono ?_
  rintro e w2 ⟨rfl, rfl⟩
  go_wp2_with fail
  refine (l2Value_any b vals _).mono ?_
  rintro e w3 ⟨rfl, rfl⟩
  go_wp2_with fail
  refine (spec_wordOk 21 _).mono ?_
  rintro e w4 ⟨rfl, rfl⟩
  try rw [hw]
  cases h0 : valIn vals d
  · (go_wp2; go_ret; exact ⟨by simp only [h0, Bool.false_and]; rfl, Bel.alloc _ _⟩)
  · cases h1 : valIn vals a
    · (go_wp2; go_ret; exact ⟨by simp only [h0, h1, Bool.true_and, Bool.false_and]; rfl, Bel.alloc _ _⟩)
    · cases h2 : (b == 0)
      · (go_wp2; go_ret; exact ⟨by simp only [h0, h1, h2, Bool.true_and, Bool.false_and]; rfl, Bel.alloc _ _⟩)
      · cases h3 : (n == 0)
        · (go_wp2; go_ret; exact ⟨by simp only [h0, h1, h2, h3, Bool.true_and]; rfl, Bel.alloc _ _⟩)
        · (go_wp2; go_ret; exact ⟨by simp only [h0, h1, h2, h3, Bool.true_and]; rfl, Bel.alloc _ _⟩)

set_option maxHeartbeats 4000000 in
theorem l2Ins_store (vals d a b n : Int) (w : World) :
    Calls Tryd.prog 46 #[.agg #[.int .i64 22, .int .i64 d, .int .i64 a, .int .i64 b, .int .i64 n], .int .i64 vals] w fun e w' => GivesBool w (insOkV vals 22 d a b n) e w' := by
  have hw : wordOkV 22 = false := by decide
  rw [insOkV_store]
  go_enter Tryd.func46, Tryd.ntmps46
  go_wp2_with fail
  refine (l2Value_any d vals _).mono ?_
  rintro e w1 ⟨rfl, rfl⟩
  go_wp2_with fail
  refine (l2Value_any a vals _).mono ?_
  rintro e w2 ⟨rfl, rfl⟩
  go_wp2_with fail
  refine (l2Value_any b vals _).mono ?_
  rintro e w3 ⟨rfl, rfl⟩
  go_wp2_with fail
  refine (spec_wordOk 22 _).mono ?_
  rintro e w4 ⟨rfl, rfl⟩
  try rw [hw]
  cases h0 : valIn vals a
  · (go_wp2; go_ret; exact ⟨by simp only [h0, Bool.false_and]; rfl, Bel.alloc _ _⟩)
  · cases h1 : valIn vals b
    · (go_wp2; go_ret; exact ⟨by simp only [h0, h1, Bool.true_and, Bool.false_and]; rfl, Bel.alloc _ _⟩)
    · cases h2 : (d == 0)
      · (go_wp2; go_ret; exact ⟨by simp only [h0, h1, h2, Bool.true_and, Bool.false_and]; rfl, Bel.alloc _ _⟩)
      · cases h3 : (n == 0)
        · (go_wp2; go_ret; exact ⟨by simp only [h0, h1, h2, h3, Bool.true_and]; rfl, Bel.alloc _ _⟩)
        · (go_wp2; go_ret; exact ⟨by simp only [h0, h1, h2, h3, Bool.true_and]; rfl, Bel.alloc _ _⟩)

set_option maxHeartbeats 4000000 in
theorem l2Ins_out (vals d a b n : Int) (w : World) :
    Calls Tryd.prog 46 #[.agg #[.int .i64 23, .int .i64 d, .int .i64 a, .int .i64 b, .int .i64 n], .int .i64 vals] w fun e w' => GivesBool w (insOkV vals 23 d a b n) e w' := by
  have hw : wordOkV 23 = false := by decide
  rw [insOkV_out]
  go_enter Tryd.func46, Tryd.ntmps46
  go_wp2_with fail
  refine (l2Value_any d vals _).mono ?_
  rintro e w1 ⟨rfl, rfl⟩
  go_wp2_with fail
  refine (l2Value_any a vals _).mono ?_
  rintro e w2 ⟨rfl, rfl⟩
  go_wp2_with fail
  refine (l2Value_any b vals _).mono ?_
  rintro e w3 ⟨rfl, rfl⟩
  go_wp2_with fail
  refine (spec_wordOk 23 _).mono ?_
  rintro e w4 ⟨rfl, rfl⟩
  try rw [hw]
  cases h0 : valIn vals a
  · (go_wp2; go_ret; exact ⟨by simp only [h0, Bool.false_and]; rfl, Bel.alloc _ _⟩)
  · cases h1 : (d == 0)
    · (go_wp2; go_ret; exact ⟨by simp only [h0, h1, Bool.true_and, Bool.false_and]; rfl, Bel.alloc _ _⟩)
    · cases h2 : (b == 0)
      · (go_wp2; go_ret; exact ⟨by simp only [h0, h1, h2, Bool.true_and, Bool.false_and]; rfl, Bel.alloc _ _⟩)
      · cases h3 : (n == 0)
        · (go_wp2; go_ret; exact ⟨by simp only [h0, h1, h2, h3, Bool.true_and]; rfl, Bel.alloc _ _⟩)
        · (go_wp2; go_ret; exact ⟨by simp only [h0, h1, h2, h3, Bool.true_and]; rfl, Bel.alloc _ _⟩)

set_option maxHeartbeats 4000000 in
theorem l2Ins_read (vals d a b n : Int) (w : World) :
    Calls Tryd.prog 46 #[.agg #[.int .i64 24, .int .i64 d, .int .i64 a, .int .i64 b, .int .i64 n], .int .i64 vals] w fun e w' => GivesBool w (insOkV vals 24 d a b n) e w' := by
  have hw : wordOkV 24 = false := by decide
  rw [insOkV_read]
  go_enter Tryd.func46, Tryd.ntmps46
  go_wp2_with fail
  refine (l2Value_any d vals _).mono ?_
  rintro e w1 ⟨rfl, rfl⟩
  go_wp2_with fail
  refine (l2Value_any a vals _).mono ?_
  rintro e w2 ⟨rfl, rfl⟩
  go_wp2_with fail
  refine (l2Value_any b vals _).mono ?_
  rintro e w3 ⟨rfl, rfl⟩
  go_wp2_with fail
  refine (spec_wordOk 24 _).mono ?_
  rintro e w4 ⟨rfl, rfl⟩
  try rw [hw]
  cases h0 : valIn vals d
  · (go_wp2; go_ret; exact ⟨by simp only [h0, Bool.false_and]; rfl, Bel.alloc _ _⟩)
  · cases h1 : (a == 0)
    · (go_wp2; go_ret; exact ⟨by simp only [h0, h1, Bool.true_and, Bool.false_and]; rfl, Bel.alloc _ _⟩)
    · cases h2 : (b == 0)
      · (go_wp2; go_ret; exact ⟨by simp only [h0, h1, h2, Bool.true_and, Bool.false_and]; rfl, Bel.alloc _ _⟩)
      · cases h3 : (n == 0)
        · (go_wp2; go_ret; exact ⟨by simp only [h0, h1, h2, h3, Bool.true_and]; rfl, Bel.alloc _ _⟩)
        · (go_wp2; go_ret; exact ⟨by simp only [h0, h1, h2, h3, Bool.true_and]; rfl, Bel.alloc _ _⟩)

set_option maxHeartbeats 4000000 in
theorem l2Ins_copy (vals d a b n : Int) (w : World) :
    Calls Tryd.prog 46 #[.agg #[.int .i64 25, .int .i64 d, .int .i64 a, .int .i64 b, .int .i64 n], .int .i64 vals] w fun e w' => GivesBool w (insOkV vals 25 d a b n) e w' := by
  have hw : wordOkV 25 = false := by decide
  rw [insOkV_copy]
  go_enter Tryd.func46, Tryd.ntmps46
  go_wp2_with fail
  refine (l2Value_any d vals _).mono ?_
  rintro e w1 ⟨rfl, rfl⟩
  go_wp2_with fail
  refine (l2Value_any a vals _).mono ?_
  rintro e w2 ⟨rfl, rfl⟩
  go_wp2_with fail
  refine (l2Value_any b vals _).mono ?_
  rintro e w3 ⟨rfl, rfl⟩
  go_wp2_with fail
  refine (spec_wordOk 25 _).mono ?_
  rintro e w4 ⟨rfl, rfl⟩
  try rw [hw]
  cases h0 : valIn vals d
  · (go_wp2; go_ret; exact ⟨by simp only [h0, Bool.false_and]; rfl, Bel.alloc _ _⟩)
  · cases h1 : valIn vals a
    · (go_wp2; go_ret; exact ⟨by simp only [h0, h1, Bool.true_and, Bool.false_and]; rfl, Bel.alloc _ _⟩)
    · cases h2 : (b == 0)
      · (go_wp2; go_ret; exact ⟨by simp only [h0, h1, h2, Bool.true_and, Bool.false_and]; rfl, Bel.alloc _ _⟩)
      · cases h3 : (n == 0)
        · (go_wp2; go_ret; exact ⟨by simp only [h0, h1, h2, h3, Bool.true_and]; rfl, Bel.alloc _ _⟩)
        · (go_wp2; go_ret; exact ⟨by simp only [h0, h1, h2, h3, Bool.true_and]; rfl, Bel.alloc _ _⟩)

set_option maxHeartbeats 4000000 in
theorem l2Ins_word (vals op d a b n : Int) (h : 1 ≤ op) (h1 : op ≤ 10) (w : World) :
    Calls Tryd.prog 46 #[.agg #[.int .i64 op, .int .i64 d, .int .i64 a, .int .i64 b, .int .i64 n], .int .i64 vals] w fun e w' => GivesBool w (insOkV vals op d a b n) e w' := by
  have hw : wordOkV op = true := wordOkV_yes h h1
  rw [insOkV_word h h1]
  go_enter Tryd.func46, Tryd.ntmps46
  go_wp2_with fail
  refine (l2Value_any d vals _).mono ?_
  rintro e w1 ⟨rfl, rfl⟩
  go_wp2_with fail
  refine (l2Value_any a vals _).mono ?_
  rintro e w2 ⟨rfl, rfl⟩
  go_wp2_with fail
  refine (l2Value_any b vals _).mono ?_
  rintro e w3 ⟨rfl, rfl⟩
  go_wp2_with fail
  refine (spec_wordOk op _).mono ?_
  rintro e w4 ⟨rfl, rfl⟩
  try rw [hw]
  cases h0 : valIn vals d
  · (go_wp2; go_ret; exact ⟨by simp only [h0, Bool.false_and]; rfl, Bel.alloc _ _⟩)
  · cases h1 : valIn vals a
    · (go_wp2; go_ret; exact ⟨by simp only [h0, h1, Bool.true_and, Bool.false_and]; rfl, Bel.alloc _ _⟩)
    · cases h2 : valIn vals b
      · (go_wp2; go_ret; exact ⟨by simp only [h0, h1, h2, Bool.true_and, Bool.false_and]; rfl, Bel.alloc _ _⟩)
      · cases h3 : (n == 0)
        · (go_wp2; go_ret; exact ⟨by simp only [h0, h1, h2, h3, Bool.true_and]; rfl, Bel.alloc _ _⟩)
        · (go_wp2; go_ret; exact ⟨by simp only [h0, h1, h2, h3, Bool.true_and]; rfl, Bel.alloc _ _⟩)

theorem l2Ins_no (vals op d a b n : Int) (e0 : (op == 20) = false) (e1 : (op == 21) = false) (e2 : (op == 22) = false) (e3 : (op == 23) = false) (e4 : (op == 24) = false) (e5 : (op == 25) = false) (hw : wordOkV op = false) (w : World) :
    Calls Tryd.prog 46 #[.agg #[.int .i64 op, .int .i64 d, .int .i64 a, .int .i64 b, .int .i64 n], .int .i64 vals] w fun e w' => GivesBool w false e w' := by
  go_enter Tryd.func46, Tryd.ntmps46
  go_wp2_with fail
  refine (l2Value_any d vals _).mono ?_
  rintro e w1 ⟨rfl, rfl⟩
  go_wp2_with fail
  refine (l2Value_any a vals _).mono ?_
  rintro e w2 ⟨rfl, rfl⟩
  go_wp2_with fail
  refine (l2Value_any b vals _).mono ?_
  rintro e w3 ⟨rfl, rfl⟩
  go_wp2_with fail
  refine (spec_wordOk op _).mono ?_
  rintro e w4 ⟨rfl, rfl⟩
  try rw [hw]
  (go_wp2; go_ret; exact ⟨rfl, Bel.alloc _ _⟩)
theorem l2Ins_any (vals op d a b n : Int) (w : World) :
    Calls Tryd.prog 46 #[.agg #[.int .i64 op, .int .i64 d, .int .i64 a, .int .i64 b, .int .i64 n], .int .i64 vals] w fun e w' => GivesBool w (insOkV vals op d a b n) e w' := by
  rcases op_cases op with h | h | h | h | h | h | ⟨⟨e0, e1, e2, e3, e4, e5⟩, ⟨h, h1⟩ | h | ⟨h1, h⟩⟩
  · subst h; exact l2Ins_const vals d a b n w
  · subst h; exact l2Ins_load vals d a b n w
  · subst h; exact l2Ins_store vals d a b n w
  · subst h; exact l2Ins_out vals d a b n w
  · subst h; exact l2Ins_read vals d a b n w
  · subst h; exact l2Ins_copy vals d a b n w
  · exact l2Ins_word vals op d a b n h h1 w
  · rw [insOkV_none e0 e1 e2 e3 e4 e5 (by omega)]
    exact l2Ins_no vals op d a b n e0 e1 e2 e3 e4 e5 (wordOkV_lo h) w
  · rw [insOkV_none e0 e1 e2 e3 e4 e5 (by omega)]
    exact l2Ins_no vals op d a b n e0 e1 e2 e3 e4 e5 (wordOkV_hi h) w

set_option maxHeartbeats 4000000 in
theorem l2Term_1 (blocks vals a t o : Int) (hb0 : 0 ≤ blocks) (hb1 : blocks ≤ 9223372036854775807) (w : World) :
    Calls Tryd.prog 44 #[.agg #[.int .i64 1, .int .i64 a, .int .i64 t, .int .i64 o], .int .i64 blocks, .int .i64 vals] w fun e w' => GivesBool w (termOkV blocks vals 1 a t o) e w' := by
  rw [show termOkV blocks vals 1 a t o = (valIn blocks t && (a == 0) && (o == 0)) by simp [termOkV]]
  go_enter Tryd.func44, Tryd.ntmps44
  go_wp2_with fail
  refine (l1In_block t blocks _).mono ?_
  rintro e w1 ⟨rfl, rfl⟩
  go_wp2_with fail
  refine (l1In_block o blocks _).mono ?_
  rintro e w2 ⟨rfl, rfl⟩
  go_wp2_with fail
  refine (l2Value_any a vals _).mono ?_
  rintro e w3 ⟨rfl, rfl⟩
  cases h0 : valIn blocks t
  · (go_wp2; go_ret; exact ⟨by simp only [h0, Bool.false_and]; rfl, Bel.alloc _ _⟩)
  · cases h1 : (a == 0)
    · (go_wp2; go_ret; exact ⟨by simp only [h0, h1, Bool.true_and, Bool.false_and]; rfl, Bel.alloc _ _⟩)
    · cases h2 : (o == 0)
      · (go_wp2; go_ret; exact ⟨by simp only [h0, h1, h2, Bool.true_and]; rfl, Bel.alloc _ _⟩)
      · (go_wp2; go_ret; exact ⟨by simp only [h0, h1, h2, Bool.true_and]; rfl, Bel.alloc _ _⟩)

set_option maxHeartbeats 4000000 in
theorem l2Term_2 (blocks vals a t o : Int) (hb0 : 0 ≤ blocks) (hb1 : blocks ≤ 9223372036854775807) (w : World) :
    Calls Tryd.prog 44 #[.agg #[.int .i64 2, .int .i64 a, .int .i64 t, .int .i64 o], .int .i64 blocks, .int .i64 vals] w fun e w' => GivesBool w (termOkV blocks vals 2 a t o) e w' := by
  rw [show termOkV blocks vals 2 a t o = (valIn blocks t && valIn blocks o && valIn vals a) by simp [termOkV]]
  go_enter Tryd.func44, Tryd.ntmps44
  go_wp2_with fail
  refine (l1In_block t blocks _).mono ?_
  rintro e w1 ⟨rfl, rfl⟩
  go_wp2_with fail
  refine (l1In_block o blocks _).mono ?_
  rintro e w2 ⟨rfl, rfl⟩
  go_wp2_with fail
  refine (l2Value_any a vals _).mono ?_
  rintro e w3 ⟨rfl, rfl⟩
  cases h0 : valIn blocks t
  · (go_wp2; go_ret; exact ⟨by simp only [h0, Bool.false_and]; rfl, Bel.alloc _ _⟩)
  · cases h1 : valIn blocks o
    · (go_wp2; go_ret; exact ⟨by simp only [h0, h1, Bool.true_and, Bool.false_and]; rfl, Bel.alloc _ _⟩)
    · cases h2 : valIn vals a
      · (go_wp2; go_ret; exact ⟨by simp only [h0, h1, h2, Bool.true_and]; rfl, Bel.alloc _ _⟩)
      · (go_wp2; go_ret; exact ⟨by simp only [h0, h1, h2, Bool.true_and]; rfl, Bel.alloc _ _⟩)

set_option maxHeartbeats 4000000 in
theorem l2Term_3 (blocks vals a t o : Int) (hb0 : 0 ≤ blocks) (hb1 : blocks ≤ 9223372036854775807) (w : World) :
    Calls Tryd.prog 44 #[.agg #[.int .i64 3, .int .i64 a, .int .i64 t, .int .i64 o], .int .i64 blocks, .int .i64 vals] w fun e w' => GivesBool w (termOkV blocks vals 3 a t o) e w' := by
  rw [show termOkV blocks vals 3 a t o = (valIn vals a && (t == 0) && (o == 0)) by simp [termOkV]]
  go_enter Tryd.func44, Tryd.ntmps44
  go_wp2_with fail
  refine (l1In_block t blocks _).mono ?_
  rintro e w1 ⟨rfl, rfl⟩
  go_wp2_with fail
  refine (l1In_block o blocks _).mono ?_
  rintro e w2 ⟨rfl, rfl⟩
  go_wp2_with fail
  refine (l2Value_any a vals _).mono ?_
  rintro e w3 ⟨rfl, rfl⟩
  cases h0 : valIn vals a
  · (go_wp2; go_ret; exact ⟨by simp only [h0, Bool.false_and]; rfl, Bel.alloc _ _⟩)
  · cases h1 : (t == 0)
    · (go_wp2; go_ret; exact ⟨by simp only [h0, h1, Bool.true_and, Bool.false_and]; rfl, Bel.alloc _ _⟩)
    · cases h2 : (o == 0)
      · (go_wp2; go_ret; exact ⟨by simp only [h0, h1, h2, Bool.true_and]; rfl, Bel.alloc _ _⟩)
      · (go_wp2; go_ret; exact ⟨by simp only [h0, h1, h2, Bool.true_and]; rfl, Bel.alloc _ _⟩)

theorem l2Term_none (blocks vals k a t o : Int) (e1 : (k == 1) = false) (e2 : (k == 2) = false) (e3 : (k == 3) = false) (hb0 : 0 ≤ blocks) (hb1 : blocks ≤ 9223372036854775807) (w : World) :
    Calls Tryd.prog 44 #[.agg #[.int .i64 k, .int .i64 a, .int .i64 t, .int .i64 o], .int .i64 blocks, .int .i64 vals] w fun e w' => GivesBool w (termOkV blocks vals k a t o) e w' := by
  rw [show termOkV blocks vals k a t o = false by simp only [beq_eq_false_iff_ne, ne_eq] at e1 e2 e3; simp [termOkV, e1, e2, e3]]
  go_enter Tryd.func44, Tryd.ntmps44
  go_wp2_with fail
  refine (l1In_block t blocks _).mono ?_
  rintro e w1 ⟨rfl, rfl⟩
  go_wp2_with fail
  refine (l1In_block o blocks _).mono ?_
  rintro e w2 ⟨rfl, rfl⟩
  go_wp2_with fail
  refine (l2Value_any a vals _).mono ?_
  rintro e w3 ⟨rfl, rfl⟩
  go_wp2
  go_ret
  exact ⟨rfl, Bel.alloc _ _⟩

theorem l2Term_any (blocks vals k a t o : Int) (hb0 : 0 ≤ blocks) (hb1 : blocks ≤ 9223372036854775807) (w : World) :
    Calls Tryd.prog 44 #[.agg #[.int .i64 k, .int .i64 a, .int .i64 t, .int .i64 o], .int .i64 blocks, .int .i64 vals] w fun e w' => GivesBool w (termOkV blocks vals k a t o) e w' := by
  by_cases h1 : k = 1
  · subst h1; exact l2Term_1 blocks vals a t o hb0 hb1 w
  · by_cases h2 : k = 2
    · subst h2; exact l2Term_2 blocks vals a t o hb0 hb1 w
    · by_cases h3 : k = 3
      · subst h3; exact l2Term_3 blocks vals a t o hb0 hb1 w
      · exact l2Term_none blocks vals k a t o (by simpa using h1) (by simpa using h2) (by simpa using h3) hb0 hb1 w

end Go.Proofs.YthdioeeanodjiaaDoor

namespace Go.Proofs.YthdioeeanodjiaaDoor
open Go.ChangeShapes Go.WideShapes Go.ChangeAt Go.RowKit
set_option linter.unusedVariables false

/-- A Bool is returned that tells p; the world only grows. -/
def GivesIff (w : World) (p : Prop) (e : Ending) (w' : World) : Prop := ∃ b : Bool, e = .returned (.bool b) ∧ (b = true ↔ p) ∧ Below w.heap.size w w'

theorem iff_no {p : Prop} (h : ¬ p) : (false = true ↔ p) := ⟨fun e => (nomatch e), fun hp => (h hp).elim⟩

/-- The first k arms are right. -/
def ArmsOk (blocks vals : Int) (arms : List ArmD) (k : Nat) : Prop :=
  ∀ j x, j < k → arms[j]? = some x → valIn blocks x.fr = true ∧ valIn vals x.v = true ∧ ∀ i y, i < j → arms[i]? = some y → (y.fr == x.fr) = false
def PhiOk (blocks vals : Int) (x : PhiD) : Prop := valIn vals x.d = true ∧ x.arms.length ≤ 16 ∧ ArmsOk blocks vals x.arms x.arms.length

theorem ArmsOk.step {blocks vals : Int} {arms : List ArmD} {k : Nat} {x : ArmD} (h : ArmsOk blocks vals arms k) (hx : arms[k]? = some x) (h1 : valIn blocks x.fr = true) (h2 : valIn vals x.v = true) (h3 : ∀ i y, i < k → arms[i]? = some y → (y.fr == x.fr) = false) : ArmsOk blocks vals arms (k + 1) := by
  intro j z hj hz
  by_cases e : j = k
  · subst e
    have e2 := hx.symm.trans hz
    simp only [Option.some.injEq] at e2
    subst e2
    exact ⟨h1, h2, h3⟩
  · exact h j z (by omega) hz

theorem getElem_lt {α : Type} {l : List α} {i : Nat} {x : α} (h : l[i]? = some x) : i < l.length := by
  by_cases hlt : i < l.length
  · exact hlt
  · rw [List.getElem?_eq_none (by omega)] at h
    cases h

set_option maxHeartbeats 4000000 in
theorem l2Phi_any (d : Int) (sv : Value) (arms : List ArmD) (blocks vals : Int) (w : World) (ha : ListAt 0 2 ArmAt w sv arms) (hb0 : 0 ≤ blocks) (hb1 : blocks ≤ 9223372036854775807) :
    Calls Tryd.prog 45 #[.agg #[.int .i64 d, sv], .int .i64 blocks, .int .i64 vals] w fun e w' => GivesIff w (PhiOk blocks vals ⟨d, arms⟩) e w' := by
  obtain ⟨a, cap, rfl, hm, hc⟩ := ha
  obtain ⟨n, HN⟩ : ∃ n, Hid (arms.length = n) := ⟨_, rfl⟩
  rw [HN.out] at hm hc ⊢
  have HC : Hid (0 < n → ∃ b off, a = some ⟨b, off, none⟩ ∧ 0 ≤ b ∧ ∀ i x, arms[i]? = some x → ArmAt w b (off + i * 2) x) := hc
  clear hc
  go_enter Tryd.func45, Tryd.ntmps45
  go_wp2_with fail
  refine (l2Value_any d vals _).mono ?_
  rintro e w1 ⟨rfl, rfl⟩
  cases hvd : valIn vals d
  · go_wp2
    go_ret
    exact ⟨false, rfl, by simp [PhiOk, hvd], Bel.alloc _ _⟩
  · by_cases h16 : (16 : Int) < (n : Int)
    · go_wp2
      go_ret
      exact ⟨false, rfl, by have := HN.out; simp [PhiOk]; intro _ h; omega, Bel.alloc _ _⟩
    · go_wp2
      go_loopw [7] (fun i wr => ∃ k : Nat, k ≤ n ∧ i = .int .i64 k ∧ ArmsOk blocks vals arms k ∧ Below (w.alloc (.cells #[.int .i64 d, .slice a n cap] 61)).heap.size (w.alloc (.cells #[.int .i64 d, .slice a n cap] 61)) wr) (fun i _ => n - (intOf i).toNat)
      case atStart => exact ⟨0, Nat.zero_le _, rfl, fun j x hj => absurd hj (by omega), Below.refl _ _⟩
      case round =>
        obtain ⟨k, hk, rfl, hok, hb3⟩ := hrel
        have HK : Hid (ArmsOk blocks vals arms k) := hok
        have H0 : Hid (Below (w.alloc (.cells #[.int .i64 d, .slice a n cap] 61)).heap.size (w.alloc (.cells #[.int .i64 d, .slice a n cap] 61)) wr) := hb3
        have H1 : Hid (Below w.heap.size w wr) := Bel.after (Bel.alloc w _) hb3
        have g0 := box_cell hb3 0
        have g1 := box_cell hb3 1
        simp at g0 g1
        clear hok hb3
        by_cases hlt : (k : Int) < (n : Int)
        · obtain ⟨b, off, rfl, _, hc1⟩ := HC.out (by omega)
          have HC1 : Hid (∀ i x, arms[i]? = some x → ArmAt w b (off + i * 2) x) := hc1
          have hkl : k < arms.length := by have := HN.out; omega
          obtain ⟨x, HX⟩ : ∃ x, Hid (arms[k]? = some x) := ⟨arms[k], List.getElem?_eq_getElem hkl⟩
          obtain ⟨c0, c1⟩ := (hc1 k x HX.out).keep (Keeps.of_below H1.out 0) (Nat.zero_le _)
          clear hc1 hkl
          obtain ⟨x0, x1⟩ := x
          go_wp2_with fail
          refine (l1In_block x0 blocks _).mono ?_
          rintro e w2 ⟨rfl, rfl⟩
          cases hvb : valIn blocks x0
          · go_wp2
            go_ret
            exact ⟨false, rfl, iff_no (by intro hp; obtain ⟨_, _, h⟩ := hp; have h2 := (h k ⟨x0, x1⟩ (by have := HN.out; show k < arms.length; omega) HX.out).1; rw [hvb] at h2; exact (nomatch h2)), H1.out⟩
          · go_wp2_with fail
            refine (l2Value_any x1 vals _).mono ?_
            rintro e w3 ⟨rfl, rfl⟩
            cases hvv : valIn vals x1
            · go_wp2
              go_ret
              exact ⟨false, rfl, iff_no (by intro hp; obtain ⟨_, _, h⟩ := hp; have h2 := (h k ⟨x0, x1⟩ (by have := HN.out; show k < arms.length; omega) HX.out).2.1; rw [hvv] at h2; exact (nomatch h2)), H1.out⟩
            · go_wp2
              obtain ⟨wo, HWO⟩ : ∃ wo : World, Hid (wo = w3) := ⟨_, rfl⟩
              go_loopw [8] (fun i wr => ∃ m : Nat, m ≤ k ∧ i = .int .i64 m ∧ (∀ i y, i < m → arms[i]? = some y → (y.fr == x0) = false) ∧ Below (w.alloc (.cells #[.int .i64 d, .slice (some ⟨b, off, none⟩) n cap] 61)).heap.size (w.alloc (.cells #[.int .i64 d, .slice (some ⟨b, off, none⟩) n cap] 61)) wr) (fun i _ => k - (intOf i).toNat)
              case atStart => exact ⟨0, Nat.zero_le _, rfl, fun j x hj => absurd hj (by omega), H0.out⟩
              case round =>
                obtain ⟨m, hmk, rfl, hdiff, hb4⟩ := hrel
                have HDF : Hid (∀ i y, i < m → arms[i]? = some y → (y.fr == x0) = false) := hdiff
                have HI0 : Hid (Below (w.alloc (.cells #[.int .i64 d, .slice (some ⟨b, off, none⟩) n cap] 61)).heap.size (w.alloc (.cells #[.int .i64 d, .slice (some ⟨b, off, none⟩) n cap] 61)) wr) := hb4
                have HI1 : Hid (Below w.heap.size w wr) := Bel.after (Bel.alloc w _) hb4
                have j0 := box_cell hb4 0
                have j1 := box_cell hb4 1
                simp at j0 j1
                clear hdiff hb4
                by_cases hlt2 : (m : Int) < (k : Int)
                · have hml : m < arms.length := by have := HN.out; omega
                  obtain ⟨y, HY⟩ : ∃ y, Hid (arms[m]? = some y) := ⟨arms[m], List.getElem?_eq_getElem hml⟩
                  obtain ⟨p0, p1⟩ := (HC1.out m y HY.out).keep (Keeps.of_below HI1.out 0) (Nat.zero_le _)
                  obtain ⟨q0, q1⟩ := (HC1.out k _ HX.out).keep (Keeps.of_below HI1.out 0) (Nat.zero_le _)
                  obtain ⟨y0, y1⟩ := y
                  have hmn : (m : Int) < (n : Int) := by omega
                  clear hml c0 c1 g0 g1
                  cases heq : (y0 == x0)
                  · go_wp2
                    go_quiet (fail)
                    go_wp2
                    go_roundw
                    case rel =>
                      refine ⟨m + 1, by omega, by go_num, fun i z hi hz => ?_, HI0.out.trans ⟨rfl, rfl, rfl, Nat.le_refl _, fun _ _ => rfl⟩⟩
                      by_cases e : i = m
                      · subst e
                        have e2 := HY.out.symm.trans hz
                        simp only [Option.some.injEq] at e2
                        subst e2
                        exact heq
                      · exact HDF.out i z (by omega) hz
                    case measure => simp [intOf]; omega
                  · go_wp2
                    go_quiet (fail)
                    go_wp2
                    go_ret
                    exact ⟨false, rfl, iff_no (by intro hp; obtain ⟨_, _, h⟩ := hp; have h2 := (h k ⟨x0, x1⟩ (by have := HN.out; show k < arms.length; omega) HX.out).2.2 m ⟨y0, y1⟩ (by omega) HY.out; rw [heq] at h2; exact (nomatch h2)), HI1.out.trans ⟨rfl, rfl, rfl, Nat.le_refl _, fun _ _ => rfl⟩⟩
                · have hme : m = k := by omega
                  have HME : Hid (m = k) := hme
                  clear hme
                  go_wp2
                  go_roundw
                  case rel => exact ⟨k + 1, by omega, by go_num, HK.out.step HX.out hvb hvv (by have := HME.out; subst this; exact HDF.out), HI0.out⟩
                  case measure => simp [intOf]; omega
        · have hkn : k = n := by omega
          have HKN : Hid (k = n) := hkn
          clear hkn
          go_wp2
          go_ret
          exact ⟨true, rfl, ⟨fun _ => ⟨hvd, by have := HN.out; show arms.length ≤ 16; omega, by show ArmsOk blocks vals arms arms.length; rw [HN.out, ← HKN.out]; exact HK.out⟩, fun _ => rfl⟩, H1.out⟩
end Go.Proofs.YthdioeeanodjiaaDoor

namespace Go.Proofs.YthdioeeanodjiaaDoor
open Go.ChangeShapes Go.WideShapes Go.ChangeAt Go.RowKit
set_option linter.unusedVariables false

def placeOkV (vals : Int) (x : InsD) : Bool := insOkV vals x.op x.d x.a x.b x.n
/-- Is a block right, of so many blocks and values? -/
def BlockOk (n vals : Int) (x : BlockD) : Prop :=
  x.phis.length ≤ 24 ∧ x.list.length ≤ 24 ∧ (∀ (j : Nat) p, x.phis[j]? = some p → PhiOk n vals p) ∧ (∀ (j : Nat) i, x.list[j]? = some i → placeOkV vals i = true) ∧ termOkV n vals x.term.k x.term.a x.term.t x.term.e = true

/-- Is a program of the right shape? -/
def FnShape (F : FnD) : Prop := 1 ≤ F.blocks.length ∧ F.blocks.length ≤ 16 ∧ 0 ≤ F.values ∧ F.values ≤ 80 ∧ ∀ (j : Nat) b, F.blocks[j]? = some b → BlockOk (F.blocks.length : Int) F.values b
end Go.Proofs.YthdioeeanodjiaaDoor

namespace Go.Proofs.YthdioeeanodjiaaDoor
open Go.ChangeShapes Go.WideShapes Go.ChangeAt Go.RowKit
set_option linter.unusedVariables false

def packB (xs : List Int) : List UInt8 := xs.flatMap packX
def allF (xs : List Int) : Bool := xs.all (fun x => decide (Formed x))
theorem packB_app (a b : List Int) : packB (a ++ b) = packB a ++ packB b := by simp [packB]
theorem allF_app (a b : List Int) : allF (a ++ b) = (allF a && allF b) := by simp [allF]
theorem packB_nil : packB [] = [] := rfl
theorem allF_nil : allF [] = true := rfl
theorem packB_one (x : Int) : packB [x] = packX x := by simp [packB]
theorem allF_one (x : Int) : allF [x] = decide (Formed x) := by simp [allF]
theorem packB_len (xs : List Int) : (packB xs).length ≤ 9 * xs.length := by
  induction xs with
  | nil => simp [packB]
  | cons x r ih =>
    have h9 := packX_len x
    unfold packB at ih ⊢
    rw [List.flatMap_cons, List.length_append, List.length_cons]
    omega
theorem packB_next {xs : List Int} {k : Nat} {x : Int} (h : xs[k]? = some x) : packB (xs.take (k + 1)) = packB (xs.take k) ++ packX x := by
  rw [List.take_add_one, h, packB_app]
  simp [packB]
theorem allF_next {xs : List Int} {k : Nat} {x : Int} (h : xs[k]? = some x) : allF (xs.take (k + 1)) = (allF (xs.take k) && decide (Formed x)) := by
  rw [List.take_add_one, h, allF_app]
  simp [allF]

def armsN (l : List ArmD) : List Int := l.flatMap (fun a => [a.fr, a.v])
def phiN (p : PhiD) : List Int := [p.d, (p.arms.length : Int)] ++ armsN p.arms
def phisN (l : List PhiD) : List Int := l.flatMap phiN
def insN (l : List InsD) : List Int := l.flatMap (fun x => [x.op, x.d, x.a, x.b, x.n])
def blockN (x : BlockD) : List Int := [(x.phis.length : Int)] ++ phisN x.phis ++ [(x.list.length : Int)] ++ insN x.list ++ [x.term.k, x.term.a, x.term.t, x.term.e]
def fnN (F : FnD) : List Int := [F.values, (F.blocks.length : Int)] ++ F.blocks.flatMap blockN
theorem armsN_next {l : List ArmD} {k : Nat} {a : ArmD} (h : l[k]? = some a) : armsN (l.take (k + 1)) = armsN (l.take k) ++ [a.fr, a.v] := by
  rw [List.take_add_one, h]
  simp [armsN]
theorem phisN_next {l : List PhiD} {k : Nat} {p : PhiD} (h : l[k]? = some p) : phisN (l.take (k + 1)) = phisN (l.take k) ++ phiN p := by
  rw [List.take_add_one, h]
  simp [phisN]
theorem insN_next {l : List InsD} {k : Nat} {x : InsD} (h : l[k]? = some x) : insN (l.take (k + 1)) = insN (l.take k) ++ [x.op, x.d, x.a, x.b, x.n] := by
  rw [List.take_add_one, h]
  simp [insN]
def blocksN (l : List BlockD) : List Int := l.flatMap blockN
theorem blocksN_next {l : List BlockD} {k : Nat} {x : BlockD} (h : l[k]? = some x) : blocksN (l.take (k + 1)) = blocksN (l.take k) ++ blockN x := by
  rw [List.take_add_one, h]
  simp [blocksN]
theorem armsN_len (l : List ArmD) : (armsN l).length = 2 * l.length := by
  induction l with
  | nil => rfl
  | cons a r ih => unfold armsN at ih ⊢; rw [List.flatMap_cons, List.length_append, ih, List.length_cons]; simp; omega
theorem insN_len (l : List InsD) : (insN l).length = 5 * l.length := by
  induction l with
  | nil => rfl
  | cons a r ih => unfold insN at ih ⊢; rw [List.flatMap_cons, List.length_append, ih, List.length_cons]; simp; omega
theorem phisN_len : ∀ (l : List PhiD), (∀ p ∈ l, p.arms.length ≤ 16) → (phisN l).length ≤ 34 * l.length
  | [], _ => by simp [phisN]
  | p :: r, h => by
    have h1 := phisN_len r (fun q hq => h q (List.mem_cons_of_mem _ hq))
    have h2 := h p List.mem_cons_self
    unfold phisN at h1 ⊢
    rw [List.flatMap_cons, List.length_append, List.length_cons]
    unfold phiN
    rw [List.length_append, armsN_len]
    simp only [List.length_cons, List.length_nil]
    unfold phiN at h1
    omega
/-- A block with no more than its limits. -/
def BlockLim (x : BlockD) : Prop := x.phis.length ≤ 24 ∧ x.list.length ≤ 24 ∧ ∀ p ∈ x.phis, p.arms.length ≤ 16
theorem blockN_len {x : BlockD} (h : BlockLim x) : (blockN x).length ≤ 1000 := by
  have h1 := phisN_len x.phis h.2.2
  have h2 := insN_len x.list
  obtain ⟨h3, h4, _⟩ := h
  unfold blockN
  simp only [List.length_append, List.length_cons, List.length_nil]
  omega
theorem blocksN_len : ∀ (l : List BlockD), (∀ x ∈ l, BlockLim x) → (blocksN l).length ≤ 1000 * l.length
  | [], _ => by simp [blocksN]
  | x :: r, h => by
    have h1 := blocksN_len r (fun q hq => h q (List.mem_cons_of_mem _ hq))
    have h2 := blockN_len (h x List.mem_cons_self)
    unfold blocksN at h1 ⊢
    rw [List.flatMap_cons, List.length_append, List.length_cons]
    omega
theorem shape_lim {F : FnD} (h : FnShape F) : ∀ x ∈ F.blocks, BlockLim x := fun x hx => by
  obtain ⟨i, hi⟩ := List.getElem?_of_mem hx
  obtain ⟨h1, h2, h3, _⟩ := h.2.2.2.2 i x hi
  refine ⟨h1, h2, fun p hp => ?_⟩
  obtain ⟨j, hj⟩ := List.getElem?_of_mem hp
  exact (h3 j p hj).2.1

/-- What PackFn answers. -/
def PackOk (F : FnD) : Prop := FnShape F ∧ allF (fnN F) = true
open Classical in
noncomputable def packFnB (F : FnD) : List UInt8 := if PackOk F then packB (fnN F) else []
open Classical in
noncomputable def packFnOk (F : FnD) : Bool := decide (PackOk F)
theorem packFn_yes {F : FnD} (h : PackOk F) : packFnB F = packB (fnN F) ∧ packFnOk F = true := ⟨if_pos h, by simp [packFnOk, h]⟩
theorem packFn_no {F : FnD} (h : ¬ PackOk F) : packFnB F = [] ∧ packFnOk F = false := ⟨if_neg h, by simp [packFnOk, h]⟩
end Go.Proofs.YthdioeeanodjiaaDoor

namespace Go.Proofs.YthdioeeanodjiaaDoor
open Go.ChangeShapes Go.WideShapes Go.ChangeAt Go.RowKit
set_option linter.unusedVariables false

theorem valuesIn_at (ba : Option Addr) (bn bcap : Nat) (vals : Int) (v : Value) (l : List Int) (bb : Bool) (hbb : l.all (valIn vals) = bb) (w : World) (hl : IntsAt w v l) :
    Calls Tryd.prog 90 #[.agg #[.slice ba bn bcap, .int .i64 vals], v] w fun e w' => GivesBool w bb e w' := by
  subst hbb
  exact valuesIn_any ba bn bcap vals v l w hl
/-- The two boxes of a look at a place, behind a call. -/
theorem ins_two {w w1 : World} {x0 x1 y0 y1 y2 y3 y4 : Value} {t u : TypeId} (b : Below ((w.alloc (.cells #[x0, x1] t)).alloc (.cells #[y0, y1, y2, y3, y4] u)).heap.size ((w.alloc (.cells #[x0, x1] t)).alloc (.cells #[y0, y1, y2, y3, y4] u)) w1) :
    Hid (Below w.heap.size w w1) ∧ w1.cell? ⟨w.heap.size, 0, none⟩ = some x0 ∧ w1.cell? ⟨w.heap.size, 1, none⟩ = some x1 ∧ w1.cell? ⟨w.heap.size + 1, 0, none⟩ = some y0 ∧ w1.cell? ⟨w.heap.size + 1, 1, none⟩ = some y1 ∧ w1.cell? ⟨w.heap.size + 1, 2, none⟩ = some y2 ∧ w1.cell? ⟨w.heap.size + 1, 3, none⟩ = some y3 ∧ w1.cell? ⟨w.heap.size + 1, 4, none⟩ = some y4 :=
  by
  have h0 : ((w.alloc (.cells #[x0, x1] t)).alloc (.cells #[y0, y1, y2, y3, y4] u)).heap[w.heap.size]? = some (.cells #[x0, x1] t) := by
    show ((w.heap.push _).push _)[_]? = _
    simp [Array.getElem?_push]
  have h1 : ((w.alloc (.cells #[x0, x1] t)).alloc (.cells #[y0, y1, y2, y3, y4] u)).heap[w.heap.size + 1]? = some (.cells #[y0, y1, y2, y3, y4] u) := by
    show ((w.heap.push _).push _)[_]? = _
    simp [Array.getElem_push]
  have g0 : ∀ k, ((w.alloc (.cells #[x0, x1] t)).alloc (.cells #[y0, y1, y2, y3, y4] u)).cell? ⟨w.heap.size, k, none⟩ = #[x0, x1][k]? := fun k => by unfold World.cell?; dsimp only; rw [h0]; simp
  have g1 : ∀ k, ((w.alloc (.cells #[x0, x1] t)).alloc (.cells #[y0, y1, y2, y3, y4] u)).cell? ⟨w.heap.size + 1, k, none⟩ = #[y0, y1, y2, y3, y4][k]? := fun k => by unfold World.cell?; dsimp only; rw [h1]; simp
  exact ⟨Bel.after ((Bel.alloc w _).trans ((Bel.alloc _ _).mono (by simp))) b, Bel.keeps b (g0 0), Bel.keeps b (g0 1), Bel.keeps b (g1 0), Bel.keeps b (g1 1), Bel.keeps b (g1 2), Bel.keeps b (g1 3), Bel.keeps b (g1 4)⟩
theorem keeps7 {w w' : World} (b : Below w.heap.size w w') {p0 p1 p2 p3 p4 p5 p6 : Addr} {v0 v1 v2 v3 v4 v5 v6 : Value} (h0 : w.cell? p0 = some v0) (h1 : w.cell? p1 = some v1) (h2 : w.cell? p2 = some v2) (h3 : w.cell? p3 = some v3) (h4 : w.cell? p4 = some v4) (h5 : w.cell? p5 = some v5) (h6 : w.cell? p6 = some v6) :
    w'.cell? p0 = some v0 ∧ w'.cell? p1 = some v1 ∧ w'.cell? p2 = some v2 ∧ w'.cell? p3 = some v3 ∧ w'.cell? p4 = some v4 ∧ w'.cell? p5 = some v5 ∧ w'.cell? p6 = some v6 := ⟨Bel.keeps b h0, Bel.keeps b h1, Bel.keeps b h2, Bel.keeps b h3, Bel.keeps b h4, Bel.keeps b h5, Bel.keeps b h6⟩
end Go.Proofs.YthdioeeanodjiaaDoor
