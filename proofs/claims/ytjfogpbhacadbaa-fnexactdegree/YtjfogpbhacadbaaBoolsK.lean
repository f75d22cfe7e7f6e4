/- Lists of bools in memory: compared, marked, held against the marks; lists that a call has made. -/
import Derived.Test.YtjfogpbhacadbaaKSeq
import Derived.Test.YtjfogpbhacadbaaKMark
namespace Go.Proofs.Ytjfogpbhacadbaa
open Go.ChangeShapes Go.WideShapes Go.ChangeAt Go.RowKit
set_option linter.unusedVariables false

/-- A slice that reads as the numbers l. -/
def BoolsAt (w : World) (v : Value) (l : List Bool) : Prop :=
  ∃ (a : Option Addr) (cap : Nat), v = .slice a l.length cap ∧ l.length ≤ 9223372036854775807 ∧ (0 < l.length → ∃ b off, a = some ⟨b, off, none⟩ ∧ ∀ i, i < l.length → w.cell? ⟨b, off + i, none⟩ = some (.bool (l.getD i false)))

theorem BoolsAt.keep {w w' : World} {v : Value} {l : List Bool} (h : BoolsAt w v l) (hb : Below w.heap.size w w') : BoolsAt w' v l := by
  obtain ⟨a, cap, rfl, hm, hc⟩ := h
  refine ⟨a, cap, rfl, hm, fun hp => ?_⟩
  obtain ⟨b, off, rfl, hd⟩ := hc hp
  exact ⟨b, off, rfl, fun i hi => Bel.keeps hb (hd i hi)⟩

theorem take_nextB {l : List Bool} {k : Nat} (hl : k < l.length) : l.take (k + 1) = l.take k ++ [l.getD k false] := by
  rw [List.take_add_one]
  simp [hl]

/-- Two lists of one length whose first k are alike. -/
theorem lists_stepB {l m : List Bool} {k : Nat} (hl : k < l.length) (hm : k < m.length) (h : l.take k = m.take k) (e : l.getD k false = m.getD k false) : l.take (k + 1) = m.take (k + 1) := by
  rw [take_nextB hl, take_nextB hm, h, e]

theorem lists_differB {l m : List Bool} {k : Nat} (e : ¬ l.getD k false = m.getD k false) : decide (l = m) = false := by
  simp only [decide_eq_false_iff_not]
  rintro rfl
  exact e rfl

theorem lists_endB {l m : List Bool} {k : Nat} (hl : l.length = k) (hm : m.length = k) (h : l.take k = m.take k) : decide (l = m) = true := by
  simp only [decide_eq_true_eq]
  rw [List.take_of_length_le (by omega), List.take_of_length_le (by omega)] at h
  exact h

/-- The marks from k on. -/
def bmark (z : Int) : Bool := (z % 3 == 0)
def bmarks (k : Int) (n : Nat) : List Bool := (List.range n).map (fun (i : Nat) => bmark (k + (i : Int)))
theorem bmarks_len (k : Int) (n : Nat) : (bmarks k n).length = n := by simp [bmarks]
theorem bmarks_at (k : Int) (n i : Nat) (h : i < n) : (bmarks k n).getD i false = bmark (k + (i : Int)) := by simp [bmarks, List.getD, h]

/-- A list of numbers in memory of the call's own, in blocks from lo on. -/
def OwnBools (w : World) (lo : Nat) (v : Value) (l : List Bool) : Prop := w.ownsRow lo 4 1 v l.length (l.map (fun x => Value.bool x))

theorem OwnBools.small {w : World} {lo : Nat} {v : Value} {l : List Bool} (h : OwnBools w lo v l) : l.length ≤ maxLen := by
  rcases h.2 with ⟨_, h0⟩ | ⟨g, cap, cur, _, _, _, h1, h2, _⟩
  · rw [h0]; exact Nat.zero_le _
  · omega

/-- What it is, cell by cell. -/
theorem OwnBools.row {w : World} {lo : Nat} {v : Value} {l : List Bool} (h : OwnBools w lo v l) :
    ∃ a cap, v = .slice a l.length cap ∧ (0 < l.length → ∃ g, a = some ⟨g, 0, none⟩ ∧ lo ≤ g ∧ g < w.heap.size ∧ (∀ i, i < l.length → w.cell? ⟨g, i, none⟩ = some (.bool (l.getD i false))) ∧ ∀ i, w.frozen? ⟨g, i, none⟩ = false) := by
  rcases h.2 with ⟨rfl, h0⟩ | ⟨g, cap, cur, rfl, hlo, hg, h1, h2, h3, h4⟩
  · exact ⟨none, 0, by rw [h0], fun hp => absurd hp (by omega)⟩
  · refine ⟨_, cap, rfl, fun hp => ⟨g, rfl, hlo, (Array.getElem?_eq_some_iff.1 hg).1, fun i hi => ?_, fun i => ?_⟩⟩
    · have hs : i < cur.size := by omega
      have e : cur[i]? = some (.bool (l.getD i false)) := by
        have e1 : (cur.toList.take (l.length * 1))[i]? = cur[i]? := by rw [List.getElem?_take]; simp [hi]
        rw [← e1, h4, List.getElem?_map]
        simp [List.getD, hi]
      simp [World.cell?, hg, e]
    · simp [World.frozen?, hg]

theorem OwnBools.at {w : World} {lo : Nat} {v : Value} {l : List Bool} (h : OwnBools w lo v l) : BoolsAt w v l := by
  have hs := h.small
  obtain ⟨a, cap, rfl, hc⟩ := h.row
  refine ⟨a, cap, rfl, by have : maxLen ≤ 9223372036854775807 := by decide
                          omega, fun hp => ?_⟩
  obtain ⟨g, rfl, _, _, hd, _⟩ := hc hp
  exact ⟨g, 0, rfl, fun i hi => by simpa using hd i hi⟩

theorem ownsRow_laterB {w w' : World} {lo : Nat} {e : TypeId} {s : Nat} {v : Value} {k : Nat} {xs : List Value} (h : w.ownsRow lo e s v k xs) (hb : Below w.heap.size w w') : w'.ownsRow lo e s v k xs := by
  obtain ⟨h0, h1⟩ := h
  refine ⟨h0, ?_⟩
  rcases h1 with h1 | ⟨g, cap, cur, rfl, hlo, hg, h2⟩
  · exact .inl h1
  · exact .inr ⟨g, cap, cur, rfl, hlo, (hb.block g (Array.getElem?_eq_some_iff.1 hg).1).trans hg, h2⟩
theorem OwnBools.keep {w w' : World} {lo : Nat} {v : Value} {l : List Bool} (h : OwnBools w lo v l) (hb : Below w.heap.size w w') : OwnBools w' lo v l := ownsRow_laterB h hb
theorem ownsRow_lowB {w : World} {lo lo' : Nat} {e : TypeId} {s : Nat} {v : Value} {k : Nat} {xs : List Value} (h : w.ownsRow lo e s v k xs) (hl : lo' ≤ lo) : w.ownsRow lo' e s v k xs := by
  obtain ⟨h0, h1⟩ := h
  refine ⟨h0, ?_⟩
  rcases h1 with h1 | ⟨g, cap, cur, rfl, hlo, h2⟩
  · exact .inl h1
  · exact .inr ⟨g, cap, cur, rfl, Nat.le_trans hl hlo, h2⟩
theorem OwnBools.low {w : World} {lo lo' : Nat} {v : Value} {l : List Bool} (h : OwnBools w lo v l) (hl : lo' ≤ lo) : OwnBools w lo' v l := ownsRow_lowB h hl
/-- What was made below lo stays when what lies from lo on turns. -/
theorem BoolsAt.under {w w' : World} {v : Value} {l : List Bool} (h : BoolsAt w v l) {lo : Nat} (hb : Below lo w w') (hv : ∀ a, v.ownBlock = some a → a < lo) : BoolsAt w' v l := by
  obtain ⟨a, cap, rfl, hm, hc⟩ := h
  refine ⟨a, cap, rfl, hm, fun hp => ?_⟩
  obtain ⟨b, off, rfl, hd⟩ := hc hp
  exact ⟨b, off, rfl, fun i hi => by rw [hb.cell (p := ⟨b, off + i, none⟩) (hv b rfl)]; exact hd i hi⟩

/-- A list of numbers is given, in new memory. -/
def GivesOwnB (w : World) (l : List Bool) (e : Ending) (w' : World) : Prop := ∃ v, e = .returned v ∧ OwnBools w' w.heap.size v l ∧ Below w.heap.size w w'

/-- An empty list that was laid. -/
theorem ownBools_new (w : World) : OwnBools (w.alloc (.cells #[] 4)) w.heap.size (.slice (some ⟨w.heap.size, 0, none⟩) 0 0) [] :=
  ⟨rfl, .inr ⟨w.heap.size, 0, #[], rfl, Nat.le_refl _, World.alloc_heap_new w _, Nat.le_refl _, Nat.zero_le _, rfl, rfl⟩⟩

theorem OwnBools.marked {w w' : World} {lo hi b : Nat} {v : Value} {l : List Bool} (h : OwnBools w b v l) (m : Marked lo hi w w') (hv : ∀ g, v.ownBlock = some g → g < lo ∨ hi ≤ g) : OwnBools w' b v l := ownsRow_marked h m hv
theorem OwnBools.lt {w : World} {b : Nat} {v : Value} {l : List Bool} (h : OwnBools w b v l) : ∀ g, v.ownBlock = some g → b ≤ g ∧ g < w.heap.size := World.ownsRow.lt h
end Go.Proofs.Ytjfogpbhacadbaa
