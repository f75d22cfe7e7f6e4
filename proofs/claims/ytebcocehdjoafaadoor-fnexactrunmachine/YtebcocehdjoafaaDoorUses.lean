/- What places and ends take: the program's InsUses and TermUses and the model's answer alike, each in new memory. -/
import Derived.Test.YtebcocehdjoafaaDoorRows
import Derived.WalkKit
import Derived.ProofKit
import Derived.OpenShut
import Derived.Below
import Derived.Handy
import Derived.Test.YtebcocehdjoafaaDoorIns
import Derived.Test.YtebcocehdjoafaaDoorInts
namespace Go.Proofs.YtebcocehdjoafaaDoor
open Go.ChangeShapes Go.WideShapes Go.ChangeAt Go.RowKit
set_option linter.unusedVariables false

theorem rowNew0 (w : World) (t : TypeId) (B : Nat) (hB : B = w.heap.size) : RowNew (w.alloc (.cells #[] t)) B (.slice (some ⟨B, 0, none⟩) 0 0) [] := by
  subst hB
  exact ⟨rfl, by simp, by simp, fun i hi => absurd hi (by simp), fun i hi => absurd hi (by simp)⟩
theorem rowNew1 (w : World) (t : TypeId) (a : Int) (B : Nat) (hB : B = w.heap.size) : RowNew (w.alloc (.cells #[.int .i64 a] t)) B (.slice (some ⟨B, 0, none⟩) 1 1) [a] := by
  subst hB
  refine ⟨rfl, by simp, by simp, fun i hi => ?_, fun i hi => ?_⟩
  all_goals
    simp at hi
    subst hi
    simp
theorem rowNew2 (w : World) (t : TypeId) (a b : Int) (B : Nat) (hB : B = w.heap.size) : RowNew (w.alloc (.cells #[.int .i64 a, .int .i64 b] t)) B (.slice (some ⟨B, 0, none⟩) 2 2) [a, b] := by
  subst hB
  refine ⟨rfl, by simp, by simp, fun i hi => ?_, fun i hi => ?_⟩
  all_goals
    have hi' : i = 0 ∨ i = 1 := by simp at hi; omega
    rcases hi' with rfl | rfl
    · simp
    · simp

/-- A list of numbers is returned, in new memory. -/
def GivesInts (w : World) (l : List Int) (e : Ending) (w' : World) : Prop := ∃ v k, e = .returned v ∧ w.heap.size ≤ k ∧ RowNew w' k v l ∧ Below w.heap.size w w'

/-- Which values a place takes. -/
def usesV (op a b : Int) : List Int := if (1 ≤ op ∧ op ≤ 10) ∨ op = 22 then [a, b] else if op = 21 ∨ op = 23 ∨ op = 25 then [a] else []
theorem usesV_word {op a b : Int} (h : 1 ≤ op) (h1 : op ≤ 10) : usesV op a b = [a, b] := by simp [usesV, h, h1]
theorem usesV_none {op a b : Int} (e0 : (op == 20) = false) (e1 : (op == 21) = false) (e2 : (op == 22) = false) (e3 : (op == 23) = false) (e4 : (op == 24) = false) (e5 : (op == 25) = false) (h : ¬ (1 ≤ op ∧ op ≤ 10)) : usesV op a b = [] := by
  simp only [beq_eq_false_iff_ne, ne_eq] at e0 e1 e2 e3 e4 e5
  simp only [usesV, e1, e2, e3, e5, h, or_self, if_false]

/-- Which values an end takes. -/
def endsV (k a : Int) : List Int := if k = 2 ∨ k = 3 then [a] else []

theorem usesV_forms (op a b : Int) : usesV op a b = [a, b] ∨ usesV op a b = [a] ∨ usesV op a b = [] := by
  unfold usesV
  split
  · exact .inl rfl
  · split
    · exact .inr (.inl rfl)
    · exact .inr (.inr rfl)
theorem endsV_forms (k a : Int) : endsV k a = [a] ∨ endsV k a = [] := by
  unfold endsV
  split
  · exact .inl rfl
  · exact .inr rfl

/-- A place that lies in block B. -/
def InsBox (w : World) (B : Nat) (op d a b n : Int) : Prop :=
  w.cell? ⟨B, 0, none⟩ = some (.int .i64 op) ∧ w.cell? ⟨B, 1, none⟩ = some (.int .i64 d) ∧ w.cell? ⟨B, 2, none⟩ = some (.int .i64 a) ∧ w.cell? ⟨B, 3, none⟩ = some (.int .i64 b) ∧ w.cell? ⟨B, 4, none⟩ = some (.int .i64 n)
theorem InsBox.keep {w w' : World} {B : Nat} {op d a b n : Int} (h : InsBox w B op d a b n) (hb : Below w.heap.size w w') : InsBox w' B op d a b n :=
  ⟨Bel.keeps hb h.1, Bel.keeps hb h.2.1, Bel.keeps hb h.2.2.1, Bel.keeps hb h.2.2.2.1, Bel.keeps hb h.2.2.2.2⟩
theorem insBox_new (w : World) (t : TypeId) (op d a b n : Int) : InsBox (w.alloc (.cells #[.int .i64 op, .int .i64 d, .int .i64 a, .int .i64 b, .int .i64 n] t)) w.heap.size op d a b n :=
  ⟨by simp, by simp, by simp, by simp, by simp⟩
/-- An end that lies in block B. -/
def TermBox (w : World) (B : Nat) (k a t e : Int) : Prop :=
  w.cell? ⟨B, 0, none⟩ = some (.int .i64 k) ∧ w.cell? ⟨B, 1, none⟩ = some (.int .i64 a) ∧ w.cell? ⟨B, 2, none⟩ = some (.int .i64 t) ∧ w.cell? ⟨B, 3, none⟩ = some (.int .i64 e)
theorem TermBox.keep {w w' : World} {B : Nat} {k a t e : Int} (h : TermBox w B k a t e) (hb : Below w.heap.size w w') : TermBox w' B k a t e :=
  ⟨Bel.keeps hb h.1, Bel.keeps hb h.2.1, Bel.keeps hb h.2.2.1, Bel.keeps hb h.2.2.2⟩
theorem termBox_new (w : World) (ty : TypeId) (k a t e : Int) : TermBox (w.alloc (.cells #[.int .i64 k, .int .i64 a, .int .i64 t, .int .i64 e] ty)) w.heap.size k a t e :=
  ⟨by simp, by simp, by simp, by simp⟩
end Go.Proofs.YtebcocehdjoafaaDoor
