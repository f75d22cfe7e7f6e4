/- Lists of numbers that a call has made: read, marked, kept. -/
import Derived.Test.YtebcocehdjoafaaDoorInts
import Derived.Laws.AppendOwn
import Derived.OwnWalk
import Derived.RangeFuncBox
namespace Go.Proofs.YtebcocehdjoafaaDoor
open Go.ChangeShapes Go.WideShapes Go.ChangeAt Go.RowKit
set_option linter.unusedVariables false

/-- A list of numbers in memory of the call's own, in blocks from lo on. -/
def OwnInts (w : World) (lo : Nat) (v : Value) (l : List Int) : Prop := w.ownsRow lo 3 1 v l.length (l.map (fun x => Value.int .i64 x))

theorem OwnInts.small {w : World} {lo : Nat} {v : Value} {l : List Int} (h : OwnInts w lo v l) : l.length ≤ maxLen := by
  rcases h.2 with ⟨_, h0⟩ | ⟨g, cap, cur, _, _, _, h1, h2, _⟩
  · rw [h0]; exact Nat.zero_le _
  · omega

/-- What it is, cell by cell. -/
theorem OwnInts.row {w : World} {lo : Nat} {v : Value} {l : List Int} (h : OwnInts w lo v l) :
    ∃ a cap, v = .slice a l.length cap ∧ (0 < l.length → ∃ g, a = some ⟨g, 0, none⟩ ∧ lo ≤ g ∧ g < w.heap.size ∧ (∀ i, i < l.length → w.cell? ⟨g, i, none⟩ = some (.int .i64 (l.getD i 0))) ∧ ∀ i, w.frozen? ⟨g, i, none⟩ = false) := by
  rcases h.2 with ⟨rfl, h0⟩ | ⟨g, cap, cur, rfl, hlo, hg, h1, h2, h3, h4⟩
  · exact ⟨none, 0, by rw [h0], fun hp => absurd hp (by omega)⟩
  · refine ⟨_, cap, rfl, fun hp => ⟨g, rfl, hlo, (Array.getElem?_eq_some_iff.1 hg).1, fun i hi => ?_, fun i => ?_⟩⟩
    · have hs : i < cur.size := by omega
      have e : cur[i]? = some (.int .i64 (l.getD i 0)) := by
        have e1 : (cur.toList.take (l.length * 1))[i]? = cur[i]? := by rw [List.getElem?_take]; simp [hi]
        rw [← e1, h4, List.getElem?_map]
        simp [List.getD, hi]
      simp [World.cell?, hg, e]
    · simp [World.frozen?, hg]

theorem OwnInts.at {w : World} {lo : Nat} {v : Value} {l : List Int} (h : OwnInts w lo v l) : IntsAt w v l := by
  have hs := h.small
  obtain ⟨a, cap, rfl, hc⟩ := h.row
  refine ⟨a, cap, rfl, by have : maxLen ≤ 9223372036854775807 := by decide
                          omega, fun hp => ?_⟩
  obtain ⟨g, rfl, _, _, hd, _⟩ := hc hp
  exact ⟨g, 0, rfl, fun i hi => by simpa using hd i hi⟩

theorem ownsRow_later {w w' : World} {lo : Nat} {e : TypeId} {s : Nat} {v : Value} {k : Nat} {xs : List Value} (h : w.ownsRow lo e s v k xs) (hb : Below w.heap.size w w') : w'.ownsRow lo e s v k xs := by
  obtain ⟨h0, h1⟩ := h
  refine ⟨h0, ?_⟩
  rcases h1 with h1 | ⟨g, cap, cur, rfl, hlo, hg, h2⟩
  · exact .inl h1
  · exact .inr ⟨g, cap, cur, rfl, hlo, (hb.block g (Array.getElem?_eq_some_iff.1 hg).1).trans hg, h2⟩
theorem OwnInts.keep {w w' : World} {lo : Nat} {v : Value} {l : List Int} (h : OwnInts w lo v l) (hb : Below w.heap.size w w') : OwnInts w' lo v l := ownsRow_later h hb
theorem ownsRow_low {w : World} {lo lo' : Nat} {e : TypeId} {s : Nat} {v : Value} {k : Nat} {xs : List Value} (h : w.ownsRow lo e s v k xs) (hl : lo' ≤ lo) : w.ownsRow lo' e s v k xs := by
  obtain ⟨h0, h1⟩ := h
  refine ⟨h0, ?_⟩
  rcases h1 with h1 | ⟨g, cap, cur, rfl, hlo, h2⟩
  · exact .inl h1
  · exact .inr ⟨g, cap, cur, rfl, Nat.le_trans hl hlo, h2⟩
theorem OwnInts.low {w : World} {lo lo' : Nat} {v : Value} {l : List Int} (h : OwnInts w lo v l) (hl : lo' ≤ lo) : OwnInts w lo' v l := ownsRow_low h hl
/-- What was made below lo stays when what lies from lo on turns. -/
theorem IntsAt.under {w w' : World} {v : Value} {l : List Int} (h : IntsAt w v l) {lo : Nat} (hb : Below lo w w') (hv : ∀ a, v.ownBlock = some a → a < lo) : IntsAt w' v l := by
  obtain ⟨a, cap, rfl, hm, hc⟩ := h
  refine ⟨a, cap, rfl, hm, fun hp => ?_⟩
  obtain ⟨b, off, rfl, hd⟩ := hc hp
  exact ⟨b, off, rfl, fun i hi => by rw [hb.cell (p := ⟨b, off + i, none⟩) (hv b rfl)]; exact hd i hi⟩

/-- A list of numbers is given, in new memory. -/
def GivesOwn (w : World) (l : List Int) (e : Ending) (w' : World) : Prop := ∃ v, e = .returned v ∧ OwnInts w' w.heap.size v l ∧ Below w.heap.size w w'

/-- An empty list that was laid. -/
theorem ownInts_new (w : World) : OwnInts (w.alloc (.cells #[] 3)) w.heap.size (.slice (some ⟨w.heap.size, 0, none⟩) 0 0) [] :=
  ⟨rfl, .inr ⟨w.heap.size, 0, #[], rfl, Nat.le_refl _, World.alloc_heap_new w _, Nat.le_refl _, Nat.zero_le _, rfl, rfl⟩⟩

set_option maxHeartbeats 1000000 in
theorem markIntS_own (lo : Nat) (v : Value) (l : List Int) (q : Int) (w : World) (hr : OwnInts w lo v l) (hlo : lo ≤ w.heap.size) (hq : 0 ≤ q) (hq2 : q + l.length ≤ 9223372036854775807) :
    Calls Tryd.prog 23 #[v, .int .i64 q] w fun e w' => e = .returned (.int .i64 (q + l.length)) ∧ Below lo w w' ∧ IntsAt w' v (marks q l.length) := by
  have hs := hr.small
  have hmx : l.length ≤ 9223372036854775807 := by
    have : maxLen ≤ 9223372036854775807 := by decide
    omega
  obtain ⟨a, cap, rfl, hc⟩ := hr.row
  obtain ⟨n, HN⟩ : ∃ n, Hid (l.length = n) := ⟨_, rfl⟩
  rw [HN.out] at hmx hq2 hc ⊢
  have HC : Hid (0 < n → ∃ g, a = some ⟨g, 0, none⟩ ∧ lo ≤ g ∧ g < w.heap.size ∧ (∀ i, i < n → w.cell? ⟨g, i, none⟩ = some (.int .i64 (l.getD i 0))) ∧ ∀ i, w.frozen? ⟨g, i, none⟩ = false) := hc
  clear hc hr hs
  go_enter Tryd.func23, Tryd.ntmps23
  go_wp2
  go_loopw [1, 5] (fun kv i wr => ∃ k : Nat, k ≤ n ∧ i = .int .i64 k ∧ kv = .int .i64 (q + k) ∧ Below lo w wr ∧ ∀ g, a = some ⟨g, 0, none⟩ → ((∀ j, j < k → wr.cell? ⟨g, j, none⟩ = some (.int .i64 (q + j))) ∧ (∀ j, k ≤ j → j < n → ∃ x, wr.cell? ⟨g, j, none⟩ = some (.int .i64 x)) ∧ (∀ j, j < n → wr.frozen? ⟨g, j, none⟩ = false))) (fun _ i _ => n - (intOf i).toNat)
  case atStart =>
    refine ⟨0, Nat.zero_le _, rfl, by go_num, Below.refl _ _, fun g hg => ⟨fun j hj => absurd hj (by omega), fun j _ hj => ?_, fun j hj => ?_⟩⟩
    · obtain ⟨g', e, _, _, h1, _⟩ := HC.out (by omega)
      rw [hg] at e
      cases e
      exact ⟨_, h1 j hj⟩
    · obtain ⟨g', e, _, _, _, h2⟩ := HC.out (by omega)
      rw [hg] at e
      cases e
      exact h2 j
  case round =>
    obtain ⟨k, hk, rfl, rfl, hfr, hdone⟩ := hrel
    have H1 : Hid (Below lo w wr) := hfr
    have H2 : Hid (∀ g, a = some ⟨g, 0, none⟩ → ((∀ j, j < k → wr.cell? ⟨g, j, none⟩ = some (.int .i64 (q + j))) ∧ (∀ j, k ≤ j → j < n → ∃ x, wr.cell? ⟨g, j, none⟩ = some (.int .i64 x)) ∧ (∀ j, j < n → wr.frozen? ⟨g, j, none⟩ = false))) := hdone
    clear hfr hdone
    by_cases hlt2 : (k : Int) < (n : Int)
    · obtain ⟨g, rfl, hg, _⟩ := HC.out (by omega)
      obtain ⟨K1, K2, K3⟩ := H2.out g rfl
      obtain ⟨x, q1⟩ := K2 k (Nat.le_refl _) (by omega)
      have q2 := K3 k (by omega)
      have K1' : Hid (∀ j, j < k → wr.cell? ⟨g, j, none⟩ = some (.int .i64 (q + j))) := K1
      have K2' : Hid (∀ j, k ≤ j → j < n → ∃ x, wr.cell? ⟨g, j, none⟩ = some (.int .i64 x)) := K2
      have K3' : Hid (∀ j, j < n → wr.frozen? ⟨g, j, none⟩ = false) := K3
      clear K1 K2 K3
      go_wp2
      go_roundw
      case rel =>
        refine ⟨k + 1, by omega, by go_num, by go_num, H1.out.setCell (p := ⟨g, k, none⟩) hg _, fun g' e => ?_⟩
        cases e
        refine ⟨fun j hj => ?_, fun j hj hj2 => ?_, fun j hj => ?_⟩
        · by_cases hjk : j = k
          · subst hjk
            exact World.cell?_setCell_same _ _ _ q1
          · rw [World.cell?_setCell_other _ _ _ _ (by simp <;> omega)]
            exact K1'.out j (by omega)
        · rw [World.cell?_setCell_other _ _ _ _ (by simp <;> omega)]
          exact K2'.out j (by omega) hj2
        · simpa using K3'.out j hj
      case measure => simp [intOf]; omega
    · have hkn : k = n := by omega
      subst hkn
      go_wp2
      go_ret
      refine ⟨rfl, H1.out, a, cap, by rw [marks_len], by rw [marks_len]; exact hmx, fun hp => ?_⟩
      rw [marks_len] at hp
      obtain ⟨g, rfl, _⟩ := HC.out hp
      refine ⟨g, 0, rfl, fun i hi => ?_⟩
      rw [marks_len] at hi
      rw [marks_at _ _ _ hi]
      simpa using (H2.out g rfl).1 i hi
end Go.Proofs.YtebcocehdjoafaaDoor
