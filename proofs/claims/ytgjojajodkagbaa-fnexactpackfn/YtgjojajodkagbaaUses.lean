/- What places and ends take: the program's InsUses and TermUses and the model's answer alike, each in new memory. -/
import Derived.Test.YtgjojajodkagbaaRows
import Derived.WalkKit
import Derived.ProofKit
import Derived.OpenShut
import Derived.Below
import Derived.Handy
import Derived.Test.YtgjojajodkagbaaIns
import Derived.Test.YtgjojajodkagbaaInts
namespace Go.Proofs.Ytgjojajodkagbaa
open Go.ChangeShapes Go.WideShapes Go.ChangeAt Go.RowKit
set_option linter.unusedVariables false

theorem rowNew0 (w : World) (t : TypeId) (B : Nat) (hB : B = w.heap.size) : RowNew (w.alloc (.cells #[] t)) B (.slice (some ⟨B, 0, none⟩) 0 0) [] := by
  subst hB
  exact ⟨rfl, by simp, by simp, fun i hi => absurd hi (by simp), fun i hi => absurd hi (by simp)⟩
theorem rowNew1 (w : World) (t : TypeId) (a : Int) (B : Nat) (hB : B = w.heap.size) : RowNew (w.alloc (.cells #[.int .i64 a] t)) B (.slice (some ⟨B, 0, none⟩) 1 1) [a] := by
  subst hB
  refine ⟨rfl, by simp, by simp, fun i hi => ?_, fun i hi => ?_⟩
  all_goals
    simp at hi
    subst hi
    simp
theorem rowNew2 (w : World) (t : TypeId) (a b : Int) (B : Nat) (hB : B = w.heap.size) : RowNew (w.alloc (.cells #[.int .i64 a, .int .i64 b] t)) B (.slice (some ⟨B, 0, none⟩) 2 2) [a, b] := by
  subst hB
  refine ⟨rfl, by simp, by simp, fun i hi => ?_, fun i hi => ?_⟩
  all_goals
    have hi' : i = 0 ∨ i = 1 := by simp at hi; omega
    rcases hi' with rfl | rfl
    · simp
    · simp

/-- A list of numbers is returned, in new memory. -/
def GivesInts (w : World) (l : List Int) (e : Ending) (w' : World) : Prop := ∃ v k, e = .returned v ∧ w.heap.size ≤ k ∧ RowNew w' k v l ∧ Below w.heap.size w w'

/-- Which values a place takes. -/
def usesV (op a b : Int) : List Int := if (1 ≤ op ∧ op ≤ 10) ∨ op = 22 then [a, b] else if op = 21 ∨ op = 23 ∨ op = 25 then [a] else []
theorem usesV_word {op a b : Int} (h : 1 ≤ op) (h1 : op ≤ 10) : usesV op a b = [a, b] := by simp [usesV, h, h1]
theorem usesV_none {op a b : Int} (e0 : (op == 20) = false) (e1 : (op == 21) = false) (e2 : (op == 22) = false) (e3 : (op == 23) = false) (e4 : (op == 24) = false) (e5 : (op == 25) = false) (h : ¬ (1 ≤ op ∧ op ≤ 10)) : usesV op a b = [] := by
  simp only [beq_eq_false_iff_ne, ne_eq] at e0 e1 e2 e3 e4 e5
  simp only [usesV, e1, e2, e3, e5, h, or_self, if_false]

set_option maxHeartbeats 1000000 in
theorem placeUses_any (op d a b n : Int) (w : World) :
    Calls Try.prog 72 #[placeV op d a b n] w fun e w' => GivesInts w (usesV op a b) e w' := by
  rcases op_cases op with h | h | h | h | h | h | ⟨⟨e0, e1, e2, e3, e4, e5⟩, ⟨h, h1⟩ | h | ⟨h1, h⟩⟩
  all_goals
    first | (have hu : usesV op a b = [a, b] := by first | exact usesV_word h h1 | (simp [usesV, h]; done)) | (have hu : usesV op a b = [a] := by simp [usesV, h]; done) | (have hu : usesV op a b = [] := by first | (simp [usesV, h]; done) | exact usesV_none e0 e1 e2 e3 e4 e5 (by omega))
    rw [hu]
    clear hu
    first | (subst h; simp only [placeV, if_true, if_false, Int.reduceEq]) | (rw [placeV_word e0 e1 e2 e3 e4 e5 h h1]) | (rw [placeV_none e0 e1 e2 e3 e4 e5 (by omega)])
    have y0 := wordPlace_yes
    have n0 := wordPlace_no
    have z0 := wordPlace_nil
    have y1 := loadPlace_yes
    have n1 := loadPlace_no
    have z1 := loadPlace_nil
    have y2 := storePlace_yes
    have n2 := storePlace_no
    have z2 := storePlace_nil
    have y3 := outPlace_yes
    have n3 := outPlace_no
    have z3 := outPlace_nil
    have y4 := copyPlace_yes
    have n4 := copyPlace_no
    have z4 := copyPlace_nil
    go_enter Try.func72, Try.ntmps72
    go_wp2
    go_ret
    first | exact ⟨_, _, rfl, by simp, rowNew2 _ _ _ _ _ (by simp), by repeat (first | exact Below.refl _ _ | apply Below.drew | refine Below.alloc ?_ (by simp <;> omega) _ | refine Below.setCell ?_ (by simp <;> omega) _)⟩ | exact ⟨_, _, rfl, by simp, rowNew1 _ _ _ _ (by simp), by repeat (first | exact Below.refl _ _ | apply Below.drew | refine Below.alloc ?_ (by simp <;> omega) _ | refine Below.setCell ?_ (by simp <;> omega) _)⟩ | exact ⟨_, _, rfl, by simp, rowNew0 _ _ _ (by simp), by repeat (first | exact Below.refl _ _ | apply Below.drew | refine Below.alloc ?_ (by simp <;> omega) _ | refine Below.setCell ?_ (by simp <;> omega) _)⟩

theorem toTerm_any (k a t e : Int) (w : World) :
    Calls Try.prog 56 #[.agg #[.int .i64 k, .int .i64 a, .int .i64 t, .int .i64 e]] w fun r w' => r = .returned (.agg #[.int .i64 k, .int .i64 a, .int .i64 t, .int .i64 e]) ∧ Below w.heap.size w w' := by
  go_enter Try.func56, Try.ntmps56
  go_wp2
  refine bodyPost_ret (v := .agg #[.int .i64 k, .int .i64 a, .int .i64 t, .int .i64 e]) (by simp [results, Try.results56, go_sem]) rfl ?_
  exact ⟨rfl, by repeat (first | exact Below.refl _ _ | apply Below.drew | refine Below.alloc ?_ (by simp <;> omega) _ | refine Below.setCell ?_ (by simp <;> omega) _)⟩

/-- Which values an end takes. -/
def endsV (k a : Int) : List Int := if k = 2 ∨ k = 3 then [a] else []

theorem impl_termUses (k a t e : Int) (w : World) :
    Calls Try.prog 73 #[.agg #[.int .i64 k, .int .i64 a, .int .i64 t, .int .i64 e]] w fun r w' => GivesInts w (endsV k a) r w' := by
  by_cases h2 : k = 2
  · rw [show endsV k a = [a] by simp [endsV, h2]]
    go_enter Try.func73, Try.ntmps73
    go_wp2
    go_ret
    exact ⟨_, _, rfl, by simp, rowNew1 _ _ _ _ (by simp), by repeat (first | exact Below.refl _ _ | apply Below.drew | refine Below.alloc ?_ (by simp <;> omega) _ | refine Below.setCell ?_ (by simp <;> omega) _)⟩
  · by_cases h3 : k = 3
    · rw [show endsV k a = [a] by simp [endsV, h3]]
      go_enter Try.func73, Try.ntmps73
      go_wp2
      go_ret
      exact ⟨_, _, rfl, by simp, rowNew1 _ _ _ _ (by simp), by repeat (first | exact Below.refl _ _ | apply Below.drew | refine Below.alloc ?_ (by simp <;> omega) _ | refine Below.setCell ?_ (by simp <;> omega) _)⟩
    · rw [show endsV k a = [] by simp [endsV, h2, h3]]
      have e2 : (k == 2) = false := by simpa using h2
      have e3 : (k == 3) = false := by simpa using h3
      clear h2 h3
      go_enter Try.func73, Try.ntmps73
      go_wp2
      go_ret
      exact ⟨_, _, rfl, by simp, rowNew0 _ _ _ (by simp), by repeat (first | exact Below.refl _ _ | apply Below.drew | refine Below.alloc ?_ (by simp <;> omega) _ | refine Below.setCell ?_ (by simp <;> omega) _)⟩

theorem usesV_forms (op a b : Int) : usesV op a b = [a, b] ∨ usesV op a b = [a] ∨ usesV op a b = [] := by
  unfold usesV
  split
  · exact .inl rfl
  · split
    · exact .inr (.inl rfl)
    · exact .inr (.inr rfl)
theorem endsV_forms (k a : Int) : endsV k a = [a] ∨ endsV k a = [] := by
  unfold endsV
  split
  · exact .inl rfl
  · exact .inr rfl

/-- A place that lies in block B. -/
def InsBox (w : World) (B : Nat) (op d a b n : Int) : Prop :=
  w.cell? ⟨B, 0, none⟩ = some (.int .i64 op) ∧ w.cell? ⟨B, 1, none⟩ = some (.int .i64 d) ∧ w.cell? ⟨B, 2, none⟩ = some (.int .i64 a) ∧ w.cell? ⟨B, 3, none⟩ = some (.int .i64 b) ∧ w.cell? ⟨B, 4, none⟩ = some (.int .i64 n)
theorem InsBox.keep {w w' : World} {B : Nat} {op d a b n : Int} (h : InsBox w B op d a b n) (hb : Below w.heap.size w w') : InsBox w' B op d a b n :=
  ⟨Bel.keeps hb h.1, Bel.keeps hb h.2.1, Bel.keeps hb h.2.2.1, Bel.keeps hb h.2.2.2.1, Bel.keeps hb h.2.2.2.2⟩
theorem insBox_new (w : World) (t : TypeId) (op d a b n : Int) : InsBox (w.alloc (.cells #[.int .i64 op, .int .i64 d, .int .i64 a, .int .i64 b, .int .i64 n] t)) w.heap.size op d a b n :=
  ⟨by simp, by simp, by simp, by simp, by simp⟩
/-- An end that lies in block B. -/
def TermBox (w : World) (B : Nat) (k a t e : Int) : Prop :=
  w.cell? ⟨B, 0, none⟩ = some (.int .i64 k) ∧ w.cell? ⟨B, 1, none⟩ = some (.int .i64 a) ∧ w.cell? ⟨B, 2, none⟩ = some (.int .i64 t) ∧ w.cell? ⟨B, 3, none⟩ = some (.int .i64 e)
theorem TermBox.keep {w w' : World} {B : Nat} {k a t e : Int} (h : TermBox w B k a t e) (hb : Below w.heap.size w w') : TermBox w' B k a t e :=
  ⟨Bel.keeps hb h.1, Bel.keeps hb h.2.1, Bel.keeps hb h.2.2.1, Bel.keeps hb h.2.2.2⟩
theorem termBox_new (w : World) (ty : TypeId) (k a t e : Int) : TermBox (w.alloc (.cells #[.int .i64 k, .int .i64 a, .int .i64 t, .int .i64 e] ty)) w.heap.size k a t e :=
  ⟨by simp, by simp, by simp, by simp⟩
end Go.Proofs.Ytgjojajodkagbaa
