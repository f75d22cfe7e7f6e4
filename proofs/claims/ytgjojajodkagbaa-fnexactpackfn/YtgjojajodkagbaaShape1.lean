/- The shape of a program, part 1: values, blocks, places and ends: the model and the program answer alike. -/
import Derived.Test.YtgjojajodkagbaaDeep
import Derived.Test.YtgjojajodkagbaaUses
import Derived.Handy
import Derived.Deep.RegionWith
import Derived.BigRegion
import Derived.Deep.QuietTactic
import Derived.BigQuiet
namespace Go.Proofs.Ytgjojajodkagbaa
open Go.ChangeShapes Go.WideShapes Go.ChangeAt Go.RowKit
set_option linter.unusedVariables false

/-- Is v a number from 0 on and below n? -/
def valIn (n v : Int) : Bool := decide (0 ≤ v) && decide (v < n)
theorem valIn_yes {n v : Int} (h : 0 ≤ v) (h1 : v < n) : valIn n v = true := by simp [valIn, h, h1]
theorem valIn_lo {n v : Int} (h : ¬ 0 ≤ v) : valIn n v = false := by simp [valIn, h]
theorem valIn_hi {n v : Int} (h : ¬ v < n) : valIn n v = false := by simp [valIn, h]
theorem valIn_iff {n v : Int} : valIn n v = true ↔ 0 ≤ v ∧ v < n := by simp [valIn]

/-- A Bool is returned; the world only grows. -/
def GivesBool (w : World) (b : Bool) (e : Ending) (w' : World) : Prop := e = .returned (.bool b) ∧ Below w.heap.size w w'

theorem l2Value_any (v n : Int) (w : World) :
    Calls Try.prog 52 #[.int .i64 v, .int .i64 n] w fun e w' => e = .returned (.bool (valIn n v)) ∧ w' = w := by
  by_cases h : 0 ≤ v
  · by_cases h1 : v < n
    · rw [valIn_yes h h1]
      go_enter Try.func52, Try.ntmps52
      go_wp2
      go_ret
      exact ⟨rfl, rfl⟩
    · rw [valIn_hi h1]
      go_enter Try.func52, Try.ntmps52
      go_wp2
      go_ret
      exact ⟨rfl, rfl⟩
  · rw [valIn_lo h]
    go_enter Try.func52, Try.ntmps52
    go_wp2
    go_ret
    exact ⟨rfl, rfl⟩

theorem l1In_any (v lo hi : Int) (w : World) :
    Calls Try.prog 28 #[.int .i64 v, .int .i64 lo, .int .i64 hi] w fun e w' => e = .returned (.bool (decide (lo ≤ v) && decide (v ≤ hi))) ∧ w' = w := by
  by_cases h : lo ≤ v
  · by_cases h1 : v ≤ hi
    · rw [show (decide (lo ≤ v) && decide (v ≤ hi)) = true by simp [h, h1]]
      go_enter Try.func28, Try.ntmps28
      go_wp2
      go_ret
      exact ⟨rfl, rfl⟩
    · rw [show (decide (lo ≤ v) && decide (v ≤ hi)) = false by simp [h1]]
      go_enter Try.func28, Try.ntmps28
      go_wp2
      go_ret
      exact ⟨rfl, rfl⟩
  · rw [show (decide (lo ≤ v) && decide (v ≤ hi)) = false by simp [h]]
    go_enter Try.func28, Try.ntmps28
    go_wp2
    go_ret
    exact ⟨rfl, rfl⟩

/-- 'From 0 to n - 1', as the model asks it. -/
theorem l1In_block (v n : Int) (w : World) :
    Calls Try.prog 28 #[.int .i64 v, .int .i64 0, .int .i64 (n - 1)] w fun e w' => e = .returned (.bool (valIn n v)) ∧ w' = w := by
  have e1 : valIn n v = (decide (0 ≤ v) && decide (v ≤ n - 1)) := by
    simp only [valIn]
    congr 1
    simp only [decide_eq_decide]
    omega
  rw [e1]
  exact l1In_any v 0 (n - 1) w

theorem valueIn_any (ba : Option Addr) (bn bcap : Nat) (vals v : Int) (w : World) :
    Calls Try.prog 67 #[.agg #[.slice ba bn bcap, .int .i64 vals], .int .i64 v] w fun e w' => GivesBool w (valIn vals v) e w' := by
  by_cases h : 0 ≤ v
  · by_cases h1 : v < vals
    · rw [valIn_yes h h1]
      go_enter Try.func67, Try.ntmps67
      go_wp2
      go_ret
      exact ⟨rfl, Bel.alloc _ _⟩
    · rw [valIn_hi h1]
      go_enter Try.func67, Try.ntmps67
      go_wp2
      go_ret
      exact ⟨rfl, Bel.alloc _ _⟩
  · rw [valIn_lo h]
    go_enter Try.func67, Try.ntmps67
    go_wp2
    go_ret
    exact ⟨rfl, Bel.alloc _ _⟩

theorem blockIn_any (ba : Option Addr) (bn bcap : Nat) (vals v : Int) (w : World) :
    Calls Try.prog 68 #[.agg #[.slice ba bn bcap, .int .i64 vals], .int .i64 v] w fun e w' => GivesBool w (valIn (bn : Int) v) e w' := by
  by_cases h : 0 ≤ v
  · by_cases h1 : v < (bn : Int)
    · rw [valIn_yes h h1]
      go_enter Try.func68, Try.ntmps68
      go_wp2
      go_ret
      exact ⟨rfl, Bel.alloc _ _⟩
    · rw [valIn_hi h1]
      go_enter Try.func68, Try.ntmps68
      go_wp2
      go_ret
      exact ⟨rfl, Bel.alloc _ _⟩
  · rw [valIn_lo h]
    go_enter Try.func68, Try.ntmps68
    go_wp2
    go_ret
    exact ⟨rfl, Bel.alloc _ _⟩

theorem all_take_step {l : List Int} {p : Int → Bool} {k : Nat} (hk : k < l.length) (h : (l.take k).all p = true) (hx : p (l.getD k 0) = true) : (l.take (k + 1)).all p = true := by
  rw [take_next hk, List.all_append, h]
  simp only [List.all_cons, List.all_nil, hx, Bool.and_self]

theorem all_fails {l : List Int} {p : Int → Bool} {k : Nat} (hk : k < l.length) (hx : p (l.getD k 0) = false) : l.all p = false := by
  rw [List.all_eq_false]
  refine ⟨l.getD k 0, ?_, by rw [hx]; decide⟩
  rw [List.getD_eq_getElem?_getD, List.getElem?_eq_getElem hk]
  exact List.getElem_mem hk

set_option maxHeartbeats 1000000 in
theorem valuesIn_any (ba : Option Addr) (bn bcap : Nat) (vals : Int) (v : Value) (l : List Int) (w : World) (hl : IntsAt w v l) :
    Calls Try.prog 71 #[.agg #[.slice ba bn bcap, .int .i64 vals], v] w fun e w' => GivesBool w (l.all (valIn vals)) e w' := by
  obtain ⟨a, cap, rfl, hm, hc⟩ := hl
  obtain ⟨n, HN⟩ : ∃ n, Hid (l.length = n) := ⟨_, rfl⟩
  rw [HN.out] at hm hc ⊢
  have HC : Hid (0 < n → ∃ b off, a = some ⟨b, off, none⟩ ∧ ∀ i, i < n → w.cell? ⟨b, off + i, none⟩ = some (.int .i64 (l.getD i 0))) := hc
  clear hc
  go_enter Try.func71, Try.ntmps71
  go_wp2
  go_loopw [9] (fun i wr => ∃ k : Nat, k ≤ n ∧ i = .int .i64 k ∧ (l.take k).all (valIn vals) = true ∧ Below (w.alloc (.cells #[.slice ba bn bcap, .int .i64 vals] 43)).heap.size (w.alloc (.cells #[.slice ba bn bcap, .int .i64 vals] 43)) wr) (fun i _ => n - (intOf i).toNat)
  case atStart => exact ⟨0, Nat.zero_le _, rfl, by simp, Below.refl _ _⟩
  case round =>
    obtain ⟨k, hk, rfl, htk, hb3⟩ := hrel
    have HT : Hid ((l.take k).all (valIn vals) = true) := htk
    have H0 : Hid (Below (w.alloc (.cells #[.slice ba bn bcap, .int .i64 vals] 43)).heap.size (w.alloc (.cells #[.slice ba bn bcap, .int .i64 vals] 43)) wr) := hb3
    have H1 : Hid (Below w.heap.size w wr) := Bel.after (Bel.alloc w _) hb3
    have g0 := box_cell hb3 0
    have g1 := box_cell hb3 1
    simp at g0 g1
    clear htk hb3
    by_cases hlt : (k : Int) < (n : Int)
    · obtain ⟨b, off, rfl, hc1⟩ := HC.out (by omega)
      obtain ⟨x, HX⟩ : ∃ x, Hid (l.getD k 0 = x) := ⟨_, rfl⟩
      have q1 := Bel.keeps H1.out (hc1 k (by omega))
      rw [HX.out] at q1
      clear hc1
      go_wp2_with fail
      refine (valueIn_any ba bn bcap vals x _).mono ?_
      rintro e w1 ⟨rfl, b1⟩
      have B1 : Hid (Below wr.heap.size wr w1) := b1
      clear b1
      cases hv : valIn vals x
      · go_wp2
        go_ret
        exact ⟨by rw [all_fails (l := l) (k := k) (by have := HN.out; omega) (by rw [HX.out]; exact hv)]; rfl, Bel.after H1.out B1.out⟩
      · go_wp2
        go_roundw
        case rel => exact ⟨k + 1, by omega, by go_num, all_take_step (by have := HN.out; omega) HT.out (by rw [HX.out]; exact hv), Bel.after H0.out B1.out⟩
        case measure => simp [intOf]; omega
    · have hkn : k = n := by omega
      have hall : l.all (valIn vals) = true := by
        have h := HT.out
        rw [List.take_of_length_le (by have := HN.out; omega)] at h
        exact h
      have HA : Hid (l.all (valIn vals) = true) := hall
      clear hkn hall
      go_wp2
      go_ret
      exact ⟨by rw [HA.out]; rfl, H1.out⟩

end Go.Proofs.Ytgjojajodkagbaa
