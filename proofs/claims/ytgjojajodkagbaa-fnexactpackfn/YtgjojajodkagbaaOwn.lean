/- Lists of numbers that a call has made: read, marked, kept. -/
import Derived.Test.YtgjojajodkagbaaInts
import Derived.Laws.AppendOwn
import Derived.OwnWalk
import Derived.RangeFuncBox
namespace Go.Proofs.Ytgjojajodkagbaa
open Go.ChangeShapes Go.WideShapes Go.ChangeAt Go.RowKit
set_option linter.unusedVariables false

/-- A list of numbers in memory of the call's own, in blocks from lo on. -/
def OwnInts (w : World) (lo : Nat) (v : Value) (l : List Int) : Prop := w.ownsRow lo 3 1 v l.length (l.map (fun x => Value.int .i64 x))

theorem OwnInts.small {w : World} {lo : Nat} {v : Value} {l : List Int} (h : OwnInts w lo v l) : l.length ≤ maxLen := by
  rcases h.2 with ⟨_, h0⟩ | ⟨g, cap, cur, _, _, _, h1, h2, _⟩
  · rw [h0]; exact Nat.zero_le _
  · omega

/-- What it is, cell by cell. -/
theorem OwnInts.row {w : World} {lo : Nat} {v : Value} {l : List Int} (h : OwnInts w lo v l) :
    ∃ a cap, v = .slice a l.length cap ∧ (0 < l.length → ∃ g, a = some ⟨g, 0, none⟩ ∧ lo ≤ g ∧ g < w.heap.size ∧ (∀ i, i < l.length → w.cell? ⟨g, i, none⟩ = some (.int .i64 (l.getD i 0))) ∧ ∀ i, w.frozen? ⟨g, i, none⟩ = false) := by
  rcases h.2 with ⟨rfl, h0⟩ | ⟨g, cap, cur, rfl, hlo, hg, h1, h2, h3, h4⟩
  · exact ⟨none, 0, by rw [h0], fun hp => absurd hp (by omega)⟩
  · refine ⟨_, cap, rfl, fun hp => ⟨g, rfl, hlo, (Array.getElem?_eq_some_iff.1 hg).1, fun i hi => ?_, fun i => ?_⟩⟩
    · have hs : i < cur.size := by omega
      have e : cur[i]? = some (.int .i64 (l.getD i 0)) := by
        have e1 : (cur.toList.take (l.length * 1))[i]? = cur[i]? := by rw [List.getElem?_take]; simp [hi]
        rw [← e1, h4, List.getElem?_map]
        simp [List.getD, hi]
      simp [World.cell?, hg, e]
    · simp [World.frozen?, hg]

theorem OwnInts.at {w : World} {lo : Nat} {v : Value} {l : List Int} (h : OwnInts w lo v l) : IntsAt w v l := by
  have hs := h.small
  obtain ⟨a, cap, rfl, hc⟩ := h.row
  refine ⟨a, cap, rfl, by have : maxLen ≤ 9223372036854775807 := by decide
                          omega, fun hp => ?_⟩
  obtain ⟨g, rfl, _, _, hd, _⟩ := hc hp
  exact ⟨g, 0, rfl, fun i hi => by simpa using hd i hi⟩

theorem ownsRow_later {w w' : World} {lo : Nat} {e : TypeId} {s : Nat} {v : Value} {k : Nat} {xs : List Value} (h : w.ownsRow lo e s v k xs) (hb : Below w.heap.size w w') : w'.ownsRow lo e s v k xs := by
  obtain ⟨h0, h1⟩ := h
  refine ⟨h0, ?_⟩
  rcases h1 with h1 | ⟨g, cap, cur, rfl, hlo, hg, h2⟩
  · exact .inl h1
  · exact .inr ⟨g, cap, cur, rfl, hlo, (hb.block g (Array.getElem?_eq_some_iff.1 hg).1).trans hg, h2⟩
theorem OwnInts.keep {w w' : World} {lo : Nat} {v : Value} {l : List Int} (h : OwnInts w lo v l) (hb : Below w.heap.size w w') : OwnInts w' lo v l := ownsRow_later h hb
theorem ownsRow_low {w : World} {lo lo' : Nat} {e : TypeId} {s : Nat} {v : Value} {k : Nat} {xs : List Value} (h : w.ownsRow lo e s v k xs) (hl : lo' ≤ lo) : w.ownsRow lo' e s v k xs := by
  obtain ⟨h0, h1⟩ := h
  refine ⟨h0, ?_⟩
  rcases h1 with h1 | ⟨g, cap, cur, rfl, hlo, h2⟩
  · exact .inl h1
  · exact .inr ⟨g, cap, cur, rfl, Nat.le_trans hl hlo, h2⟩
theorem OwnInts.low {w : World} {lo lo' : Nat} {v : Value} {l : List Int} (h : OwnInts w lo v l) (hl : lo' ≤ lo) : OwnInts w lo' v l := ownsRow_low h hl
/-- What was made below lo stays when what lies from lo on turns. -/
theorem IntsAt.under {w w' : World} {v : Value} {l : List Int} (h : IntsAt w v l) {lo : Nat} (hb : Below lo w w') (hv : ∀ a, v.ownBlock = some a → a < lo) : IntsAt w' v l := by
  obtain ⟨a, cap, rfl, hm, hc⟩ := h
  refine ⟨a, cap, rfl, hm, fun hp => ?_⟩
  obtain ⟨b, off, rfl, hd⟩ := hc hp
  exact ⟨b, off, rfl, fun i hi => by rw [hb.cell (p := ⟨b, off + i, none⟩) (hv b rfl)]; exact hd i hi⟩

/-- A list of numbers is given, in new memory. -/
def GivesOwn (w : World) (l : List Int) (e : Ending) (w' : World) : Prop := ∃ v, e = .returned v ∧ OwnInts w' w.heap.size v l ∧ Below w.heap.size w w'

/-- An empty list that was laid. -/
theorem ownInts_new (w : World) : OwnInts (w.alloc (.cells #[] 3)) w.heap.size (.slice (some ⟨w.heap.size, 0, none⟩) 0 0) [] :=
  ⟨rfl, .inr ⟨w.heap.size, 0, #[], rfl, Nat.le_refl _, World.alloc_heap_new w _, Nat.le_refl _, Nat.zero_le _, rfl, rfl⟩⟩

end Go.Proofs.Ytgjojajodkagbaa
