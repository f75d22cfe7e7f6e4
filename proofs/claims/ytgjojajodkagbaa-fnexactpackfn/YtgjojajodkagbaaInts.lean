/- Lists of numbers in memory: compared, marked, held against the marks. -/
import Derived.Test.YtgjojajodkagbaaRows
import Derived.WalkKit
import Derived.ProofKit
import Derived.OpenShut
import Derived.Below
import Derived.Handy
import Derived.Deep.QuietTactic
import Derived.BigQuiet
import Derived.Test.YtgjojajodkagbaaIns
namespace Go.Proofs.Ytgjojajodkagbaa
open Go.ChangeShapes Go.WideShapes Go.ChangeAt Go.RowKit
set_option linter.unusedVariables false

/-- A slice that reads as the numbers l. -/
def IntsAt (w : World) (v : Value) (l : List Int) : Prop :=
  ∃ (a : Option Addr) (cap : Nat), v = .slice a l.length cap ∧ l.length ≤ 9223372036854775807 ∧ (0 < l.length → ∃ b off, a = some ⟨b, off, none⟩ ∧ ∀ i, i < l.length → w.cell? ⟨b, off + i, none⟩ = some (.int .i64 (l.getD i 0)))

theorem IntsAt.keep {w w' : World} {v : Value} {l : List Int} (h : IntsAt w v l) (hb : Below w.heap.size w w') : IntsAt w' v l := by
  obtain ⟨a, cap, rfl, hm, hc⟩ := h
  refine ⟨a, cap, rfl, hm, fun hp => ?_⟩
  obtain ⟨b, off, rfl, hd⟩ := hc hp
  exact ⟨b, off, rfl, fun i hi => Bel.keeps hb (hd i hi)⟩

theorem take_next {l : List Int} {k : Nat} (hl : k < l.length) : l.take (k + 1) = l.take k ++ [l.getD k 0] := by
  rw [List.take_add_one]
  simp [hl]

/-- Two lists of one length whose first k are alike. -/
theorem lists_step {l m : List Int} {k : Nat} (hl : k < l.length) (hm : k < m.length) (h : l.take k = m.take k) (e : l.getD k 0 = m.getD k 0) : l.take (k + 1) = m.take (k + 1) := by
  rw [take_next hl, take_next hm, h, e]

theorem lists_differ {l m : List Int} {k : Nat} (e : ¬ l.getD k 0 = m.getD k 0) : decide (l = m) = false := by
  simp only [decide_eq_false_iff_not]
  rintro rfl
  exact e rfl

theorem lists_end {l m : List Int} {k : Nat} (hl : l.length = k) (hm : m.length = k) (h : l.take k = m.take k) : decide (l = m) = true := by
  simp only [decide_eq_true_eq]
  rw [List.take_of_length_le (by omega), List.take_of_length_le (by omega)] at h
  exact h



/-- A row of numbers that lies in block b from its start: it can be written. -/
def RowNew (w : World) (b : Nat) (v : Value) (l : List Int) : Prop :=
  v = .slice (some ⟨b, 0, none⟩) l.length l.length ∧ l.length ≤ 9223372036854775807 ∧ b < w.heap.size ∧ (∀ i, i < l.length → w.cell? ⟨b, i, none⟩ = some (.int .i64 (l.getD i 0))) ∧ ∀ i, i < l.length → w.frozen? ⟨b, i, none⟩ = false

theorem RowNew.at {w : World} {b : Nat} {v : Value} {l : List Int} (h : RowNew w b v l) : IntsAt w v l := by
  obtain ⟨rfl, hm, hb, hc, hf⟩ := h
  exact ⟨_, _, rfl, hm, fun _ => ⟨b, 0, rfl, fun i hi => by simpa using hc i hi⟩⟩

theorem RowNew.keep {w w' : World} {b : Nat} {v : Value} {l : List Int} (h : RowNew w b v l) (hb : Below w.heap.size w w') : RowNew w' b v l := by
  obtain ⟨rfl, hm, hlt, hc, hf⟩ := h
  refine ⟨rfl, hm, Nat.lt_of_lt_of_le hlt hb.size, fun i hi => Bel.keeps hb (hc i hi), fun i hi => ?_⟩
  rw [hb.frozen (p := ⟨b, i, none⟩) hlt]
  exact hf i hi

/-- Nothing that was there has turned but block p. -/
structure FrB (p : Nat) (w w' : World) : Prop where
  os : w'.os = w.os
  tape : w'.tape = w.tape
  output : w'.output = w.output
  size : w.heap.size ≤ w'.heap.size
  block : ∀ k, k < w.heap.size → k ≠ p → w'.heap[k]? = w.heap[k]?

theorem FrB.refl (p : Nat) (w : World) : FrB p w w := ⟨rfl, rfl, rfl, Nat.le_refl _, fun _ _ _ => rfl⟩
theorem FrB.trans {p : Nat} {a b c : World} (h : FrB p a b) (k : FrB p b c) : FrB p a c :=
  ⟨k.os.trans h.os, k.tape.trans h.tape, k.output.trans h.output, Nat.le_trans h.size k.size, fun i hi hp => (k.block i (Nat.lt_of_lt_of_le hi h.size) hp).trans (h.block i hi hp)⟩
theorem FrB.setCell {p : Nat} {a w : World} (h : FrB p a w) (o : Nat) (u : Value) : FrB p a (w.setCell ⟨p, o, none⟩ u) :=
  h.trans ⟨rfl, rfl, rfl, by simp [World.setCell], fun k _ hp => Below.heap_setCell _ _ _ _ hp⟩
theorem FrB.below {p B : Nat} {a w : World} (h : FrB p a w) (hp : B ≤ p) (hB : B ≤ a.heap.size) : Below B a w :=
  ⟨h.os, h.tape, h.output, h.size, fun k hk => h.block k (by omega) (by omega)⟩
theorem FrB.ofBelow {p : Nat} {a w : World} (h : Below a.heap.size a w) : FrB p a w :=
  ⟨h.os, h.tape, h.output, h.size, fun k hk _ => h.block k hk⟩
theorem FrB.cell {p : Nat} {a w : World} (h : FrB p a w) {x : Addr} (hx : x.block < a.heap.size) (hp : x.block ≠ p) : w.cell? x = a.cell? x := World.cell?_of_block (w := a) (h.block x.block hx hp)
theorem FrB.frozen {p : Nat} {a w : World} (h : FrB p a w) {x : Addr} (hx : x.block < a.heap.size) (hp : x.block ≠ p) : w.frozen? x = a.frozen? x := World.frozen?_of_block (w := a) (h.block x.block hx hp)

theorem RowNew.aside {w w' : World} {b p : Nat} {v : Value} {l : List Int} (h : RowNew w b v l) (hb : FrB p w w') (hp : b ≠ p) : RowNew w' b v l := by
  obtain ⟨rfl, hm, hlt, hc, hf⟩ := h
  refine ⟨rfl, hm, Nat.lt_of_lt_of_le hlt hb.size, fun i hi => ?_, fun i hi => ?_⟩
  · rw [hb.cell (x := ⟨b, i, none⟩) hlt hp]
    exact hc i hi
  · rw [hb.frozen (x := ⟨b, i, none⟩) hlt hp]
    exact hf i hi

/-- The numbers from k on. -/
def marks (k : Int) (n : Nat) : List Int := (List.range n).map (fun (i : Nat) => k + (i : Int))
theorem marks_len (k : Int) (n : Nat) : (marks k n).length = n := by simp [marks]
theorem marks_at (k : Int) (n i : Nat) (h : i < n) : (marks k n).getD i 0 = k + (i : Int) := by simp [marks, List.getD, h]

end Go.Proofs.Ytgjojajodkagbaa
