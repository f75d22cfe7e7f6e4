/- A program's blocks and lists in memory, one at a time. Small facts of lists of numbers in memory. Lists of edges: of the call's own, read, compared, marked, held against the marks. -/
import Derived.Test.YtinlfjgabkodcaaGreatDoorKIns
import Derived.Test.YtinlfjgabkodcaaGreatDoorKSeq
import Derived.Maps.AppendAt
namespace Go.Proofs.YtinlfjgabkodcaaGreatDoor
open Go.ChangeShapes Go.WideShapes Go.ChangeAt Go.RowKit
set_option linter.unusedVariables false

theorem FnAt.blockC {w : World} {ba : Option Addr} {n bcap : Nat} {vals : Int} {F : FnD} (h : FnAt w (.agg #[.slice ba n bcap, .int .i64 vals]) F) {k : Nat} {x : BlockD} (hn : F.blocks.length = n) (hk : k < n) (hx : F.blocks[k]? = some x) : ∃ b off, ba = some ⟨b, off, none⟩ ∧ BlockAt 0 w b (off + k * 6) x := by
  obtain ⟨bv, he, a0, cap0, hbv, _, hc⟩ := h
  have e1 : (.slice ba n bcap : Value) = bv := by simp at he; exact he.1
  rw [hbv] at e1
  simp at e1
  obtain ⟨b, off, hb, _, hel⟩ := hc (by omega)
  exact ⟨b, off, e1.1.trans hb, hel k x hx⟩
theorem listAt_at {α : Type} {sz : Nat} {E : World → Nat → Nat → α → Prop} {w : World} {a : Option Addr} {n cap : Nat} {l : List α} (h : ListAt 0 sz E w (.slice a n cap) l) {k : Nat} {x : α} (hx : l[k]? = some x) : ∃ b off, a = some ⟨b, off, none⟩ ∧ E w b (off + k * sz) x := by
  obtain ⟨a0, cap0, e, _, hc⟩ := h
  simp at e
  have hk := (List.getElem?_eq_some_iff.1 hx).1
  obtain ⟨b, off, ha, _, hd⟩ := hc (by omega)
  exact ⟨b, off, e.1.trans ha, hd k x hx⟩
end Go.Proofs.YtinlfjgabkodcaaGreatDoor

namespace Go.Proofs.YtinlfjgabkodcaaGreatDoor
theorem IntsAt.cellsQ {w : World} {oa : Option Addr} {n ocap : Nat} {o : List Int} (h : IntsAt w (.slice oa n ocap) o) : ∀ k, k < n → ∃ b off, oa = some ⟨b, off, none⟩ ∧ w.cell? ⟨b, off + k, none⟩ = some (.int .i64 (o.getD k 0)) := by
  intro k hk
  obtain ⟨a, cap, e, _, hc⟩ := h
  simp at e
  obtain ⟨rfl, rfl, rfl⟩ := e
  obtain ⟨b, off, rfl, hd⟩ := hc (by omega)
  exact ⟨b, off, rfl, hd k hk⟩
theorem getD_in {l : List Int} {i : Nat} (h : i < l.length) : l.getD i 0 ∈ l := by
  rw [List.getD_eq_getElem?_getD, List.getElem?_eq_getElem h]
  exact List.getElem_mem h
end Go.Proofs.YtinlfjgabkodcaaGreatDoor

namespace Go.Proofs.YtinlfjgabkodcaaGreatDoor
open Go.ChangeShapes Go.WideShapes Go.ChangeAt Go.RowKit
set_option linter.unusedVariables false

/-- The cells of a list of edges (of each: from, to). -/
def edgeC : List ArmD → List Value
  | [] => []
  | e :: l => .int .i64 e.fr :: .int .i64 e.v :: edgeC l
theorem edgeC_len (l : List ArmD) : (edgeC l).length = l.length * 2 := by
  induction l with
  | nil => rfl
  | cons e l ih => simp only [edgeC, List.length_cons, ih]; omega
theorem edgeC_at (l : List ArmD) : ∀ {i : Nat} {x : ArmD}, l[i]? = some x → (edgeC l)[i * 2]? = some (.int .i64 x.fr) ∧ (edgeC l)[i * 2 + 1]? = some (.int .i64 x.v) := by
  induction l with
  | nil => intro i x h; simp at h
  | cons e l ih =>
    intro i x h
    cases i with
    | zero =>
      simp at h
      subst h
      exact ⟨rfl, rfl⟩
    | succ i =>
      simp at h
      have := ih h
      rw [show (i + 1) * 2 = i * 2 + 1 + 1 by omega]
      simpa [edgeC] using this
theorem edgeC_app (l m : List ArmD) : edgeC (l ++ m) = edgeC l ++ edgeC m := by
  induction l with
  | nil => rfl
  | cons e l ih => simp [edgeC, ih]
/-- A list of edges in memory of the call's own, in blocks from lo on. -/
def OwnEdges (w : World) (lo : Nat) (v : Value) (l : List ArmD) : Prop := w.ownsRow lo 96 2 v l.length (edgeC l)
/-- A slice that reads as the edges l. -/
def EdgesAt (w : World) (v : Value) (l : List ArmD) : Prop := ListAt 0 2 ArmAt w v l
theorem OwnEdges.small {w : World} {lo : Nat} {v : Value} {l : List ArmD} (h : OwnEdges w lo v l) : l.length ≤ maxLen := by
  rcases h.2 with ⟨_, h0⟩ | ⟨g, cap, cur, _, _, _, h1, h2, _⟩
  · rw [h0]; exact Nat.zero_le _
  · omega
theorem OwnEdges.row {w : World} {lo : Nat} {v : Value} {l : List ArmD} (h : OwnEdges w lo v l) :
    ∃ a cap, v = .slice a l.length cap ∧ (0 < l.length → ∃ g, a = some ⟨g, 0, none⟩ ∧ lo ≤ g ∧ g < w.heap.size ∧ (∀ i x, l[i]? = some x → ArmAt w g (i * 2) x) ∧ ∀ i, w.frozen? ⟨g, i, none⟩ = false) := by
  rcases h.2 with ⟨rfl, h0⟩ | ⟨g, cap, cur, rfl, hlo, hg, h1, h2, h3, h4⟩
  · exact ⟨none, 0, by rw [h0], fun hp => absurd hp (by omega)⟩
  · refine ⟨_, cap, rfl, fun hp => ⟨g, rfl, hlo, (Array.getElem?_eq_some_iff.1 hg).1, fun i x hx => ?_, fun i => ?_⟩⟩
    · have hi : i < l.length := (List.getElem?_eq_some_iff.1 hx).1
      obtain ⟨c0, c1⟩ := edgeC_at l hx
      have e0 : cur[i * 2]? = some (.int .i64 x.fr) := by
        have e1 : (cur.toList.take (l.length * 2))[i * 2]? = cur[i * 2]? := by rw [List.getElem?_take]; simp; omega
        rw [← e1, h4]
        exact c0
      have e2 : cur[i * 2 + 1]? = some (.int .i64 x.v) := by
        have e1 : (cur.toList.take (l.length * 2))[i * 2 + 1]? = cur[i * 2 + 1]? := by rw [List.getElem?_take]; simp; omega
        rw [← e1, h4]
        exact c1
      exact ⟨by simp [World.cell?, hg, e0], by simp [World.cell?, hg, e2]⟩
    · simp [World.frozen?, hg]
theorem OwnEdges.at {w : World} {lo : Nat} {v : Value} {l : List ArmD} (h : OwnEdges w lo v l) : EdgesAt w v l := by
  have hs := h.small
  obtain ⟨a, cap, rfl, hc⟩ := h.row
  refine ⟨a, cap, rfl, by have : maxLen ≤ 9223372036854775807 := by decide
                          omega, fun hp => ?_⟩
  obtain ⟨g, rfl, _, _, hd, _⟩ := hc hp
  exact ⟨g, 0, rfl, Nat.zero_le _, fun i x hx => by simpa using hd i x hx⟩
theorem OwnEdges.keep {w w' : World} {lo : Nat} {v : Value} {l : List ArmD} (h : OwnEdges w lo v l) (hb : Below w.heap.size w w') : OwnEdges w' lo v l := ownsRow_later h hb
theorem OwnEdges.low {w : World} {lo lo' : Nat} {v : Value} {l : List ArmD} (h : OwnEdges w lo v l) (hl : lo' ≤ lo) : OwnEdges w lo' v l := ownsRow_low h hl
theorem OwnEdges.lt {w : World} {b : Nat} {v : Value} {l : List ArmD} (h : OwnEdges w b v l) : ∀ g, v.ownBlock = some g → b ≤ g ∧ g < w.heap.size := World.ownsRow.lt h
theorem EdgesAt.keep {w w' : World} {v : Value} {l : List ArmD} (h : EdgesAt w v l) (hb : Below w.heap.size w w') : EdgesAt w' v l := ListAt.keep h (fun b o z hb2 h => h.keep (Keeps.of_below hb 0) hb2)
theorem EdgesAt.under {w w' : World} {v : Value} {l : List ArmD} (h : EdgesAt w v l) {lo : Nat} (hb : Below lo w w') (hv : ∀ a, v.ownBlock = some a → a < lo) : EdgesAt w' v l := by
  obtain ⟨a, cap, rfl, hm, hc⟩ := h
  refine ⟨a, cap, rfl, hm, fun hp => ?_⟩
  obtain ⟨b, off, rfl, h0, hd⟩ := hc hp
  exact ⟨b, off, rfl, h0, fun i x hx => ⟨(hb.cell (p := ⟨b, off + i * 2, none⟩) (hv b rfl)).trans (hd i x hx).1, (hb.cell (p := ⟨b, off + i * 2 + 1, none⟩) (hv b rfl)).trans (hd i x hx).2⟩⟩
/-- A list of edges is given, in new memory. -/
def GivesEdges (w : World) (l : List ArmD) (e : Ending) (w' : World) : Prop := ∃ v, e = .returned v ∧ OwnEdges w' w.heap.size v l ∧ Below w.heap.size w w'
theorem ownEdges_nil {w w' : World} {lo g : Nat} (hg : w'.heap[g]? = some (.cells #[] 96 (0, 0))) (hl : lo ≤ g) : OwnEdges w' lo (.slice (some ⟨g, 0, none⟩) 0 0) [] :=
  ⟨rfl, .inr ⟨g, 0, #[], rfl, hl, hg, Nat.le_refl _, Nat.zero_le _, rfl, rfl⟩⟩
theorem OwnEdges.next {w : World} {lo : Nat} {v : Value} {l : List ArmD} {x : ArmD} (h : w.ownsRow lo 96 2 v (l.length + 1) (edgeC l ++ [Value.int .i64 x.fr, Value.int .i64 x.v])) : OwnEdges w lo v (l ++ [x]) := by
  unfold OwnEdges
  rw [edgeC_app, List.length_append]
  exact h
theorem OwnEdges.more {w : World} {lo : Nat} {v : Value} {l m : List ArmD} (h : w.ownsRow lo 96 2 v (l.length + m.length) (edgeC l ++ edgeC m)) : OwnEdges w lo v (l ++ m) := by
  unfold OwnEdges
  rw [edgeC_app, List.length_append]
  exact h
theorem OwnEdges.not_box {w : World} {lo : Nat} {v : Value} {l : List ArmD} (h : OwnEdges w lo v l) {B : Nat} {c : Array Value} {t : TypeId} {z : Nat × Nat} (hB : w.heap[B]? = some (.cells c t z)) (ht : t ≠ 96) : some B ≠ v.ownBlock := by
  rcases h.2 with ⟨rfl, _⟩ | ⟨g, cap, cur, rfl, _, hgb, _⟩
  · simp [Value.ownBlock]
  · intro e'
    obtain rfl : B = g := by simpa [Value.ownBlock] using e'
    rw [hgb] at hB
    simp at hB
    exact ht hB.2.1.symm

end Go.Proofs.YtinlfjgabkodcaaGreatDoor
