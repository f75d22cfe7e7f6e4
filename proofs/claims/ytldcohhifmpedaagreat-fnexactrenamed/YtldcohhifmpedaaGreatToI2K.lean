/- Marks in a list of numbers of its own; a program that was marked, with a bound. -/
import Derived.Test.YtldcohhifmpedaaGreatKOA
import Derived.Test.YtldcohhifmpedaaGreatKMark
namespace Go.Proofs.YtldcohhifmpedaaGreat
open Go.ChangeShapes Go.WideShapes Go.ChangeAt Go.RowKit
set_option linter.unusedVariables false

set_option maxHeartbeats 1000000 in
theorem markIntS_apart (lo : Nat) (v : Value) (l : List Int) (q : Int) (w : World) (hr : OwnInts w lo v l) (hlo : lo ≤ w.heap.size) (hq : 0 ≤ q) (hq2 : q + l.length ≤ 9223372036854775807) :
    Calls Tryz.prog 61 #[v, .int .i64 q] w fun e w' => e = .returned (.int .i64 (q + l.length)) ∧ Below lo w w' ∧ IntsAt w' v (marks q l.length) ∧ ∀ b, v.ownBlock ≠ some b → w'.heap[b]? = w.heap[b]? := by
  have hs := hr.small
  have hmx : l.length ≤ 9223372036854775807 := by
    have : maxLen ≤ 9223372036854775807 := by decide
    omega
  obtain ⟨a, cap, rfl, hc⟩ := hr.row
  obtain ⟨n, HN⟩ : ∃ n, Hid (l.length = n) := ⟨_, rfl⟩
  rw [HN.out] at hmx hq2 hc ⊢
  have HC : Hid (0 < n → ∃ g, a = some ⟨g, 0, none⟩ ∧ lo ≤ g ∧ g < w.heap.size ∧ (∀ i, i < n → w.cell? ⟨g, i, none⟩ = some (.int .i64 (l.getD i 0))) ∧ ∀ i, w.frozen? ⟨g, i, none⟩ = false) := hc
  clear hc hr hs
  go_enter Tryz.func61, Tryz.ntmps61
  go_wp2
  go_loopw [1, 5] (fun kv i wr => ∃ k : Nat, k ≤ n ∧ i = .int .i64 k ∧ kv = .int .i64 (q + k) ∧ Below lo w wr ∧ (∀ b, (Value.slice a n cap).ownBlock ≠ some b → wr.heap[b]? = w.heap[b]?) ∧ ∀ g, a = some ⟨g, 0, none⟩ → ((∀ j, j < k → wr.cell? ⟨g, j, none⟩ = some (.int .i64 (q + j))) ∧ (∀ j, k ≤ j → j < n → ∃ x, wr.cell? ⟨g, j, none⟩ = some (.int .i64 x)) ∧ (∀ j, j < n → wr.frozen? ⟨g, j, none⟩ = false))) (fun _ i _ => n - (intOf i).toNat)
  case atStart =>
    refine ⟨0, Nat.zero_le _, rfl, by go_num, Below.refl _ _, fun _ _ => rfl, fun g hg => ⟨fun j hj => absurd hj (by omega), fun j _ hj => ?_, fun j hj => ?_⟩⟩
    · obtain ⟨g', e, _, _, h1, _⟩ := HC.out (by omega)
      rw [hg] at e
      cases e
      exact ⟨_, h1 j hj⟩
    · obtain ⟨g', e, _, _, _, h2⟩ := HC.out (by omega)
      rw [hg] at e
      cases e
      exact h2 j
  case round =>
    obtain ⟨k, hk, rfl, rfl, hfr, hfo, hdone⟩ := hrel
    have H1 : Hid (Below lo w wr) := hfr
    have H0 : Hid (∀ b, (Value.slice a n cap).ownBlock ≠ some b → wr.heap[b]? = w.heap[b]?) := hfo
    have H2 : Hid (∀ g, a = some ⟨g, 0, none⟩ → ((∀ j, j < k → wr.cell? ⟨g, j, none⟩ = some (.int .i64 (q + j))) ∧ (∀ j, k ≤ j → j < n → ∃ x, wr.cell? ⟨g, j, none⟩ = some (.int .i64 x)) ∧ (∀ j, j < n → wr.frozen? ⟨g, j, none⟩ = false))) := hdone
    clear hfr hfo hdone
    by_cases hlt2 : (k : Int) < (n : Int)
    · obtain ⟨g, rfl, hg, _⟩ := HC.out (by omega)
      obtain ⟨K1, K2, K3⟩ := H2.out g rfl
      obtain ⟨x, q1⟩ := K2 k (Nat.le_refl _) (by omega)
      have q2 := K3 k (by omega)
      have K1' : Hid (∀ j, j < k → wr.cell? ⟨g, j, none⟩ = some (.int .i64 (q + j))) := K1
      have K2' : Hid (∀ j, k ≤ j → j < n → ∃ x, wr.cell? ⟨g, j, none⟩ = some (.int .i64 x)) := K2
      have K3' : Hid (∀ j, j < n → wr.frozen? ⟨g, j, none⟩ = false) := K3
      clear K1 K2 K3
      go_wp2
      go_roundw
      case rel =>
        refine ⟨k + 1, by omega, by go_num, by go_num, H1.out.setCell (p := ⟨g, k, none⟩) hg _, fun b hb => ?_, fun g' e => ?_⟩
        · rw [Below.heap_setCell _ _ _ b (by show b ≠ g; intro e; exact hb (by rw [e]; rfl))]
          exact H0.out b hb
        · cases e
          refine ⟨fun j hj => ?_, fun j hj hj2 => ?_, fun j hj => ?_⟩
          · by_cases hjk : j = k
            · subst hjk
              exact World.cell?_setCell_same _ _ _ q1
            · rw [World.cell?_setCell_other _ _ _ _ (by simp <;> omega)]
              exact K1'.out j (by omega)
          · rw [World.cell?_setCell_other _ _ _ _ (by simp <;> omega)]
            exact K2'.out j (by omega) hj2
          · simpa using K3'.out j hj
      case measure => simp [intOf]; omega
    · have hkn : k = n := by omega
      subst hkn
      go_wp2
      go_ret
      refine ⟨rfl, H1.out, ⟨a, cap, by rw [marks_len], by rw [marks_len]; exact hmx, fun hp => ?_⟩, H0.out⟩
      rw [marks_len] at hp
      obtain ⟨g, rfl, _⟩ := HC.out hp
      refine ⟨g, 0, rfl, fun i hi => ?_⟩
      rw [marks_len] at hi
      rw [marks_at _ _ _ hi]
      simpa using (H2.out g rfl).1 i hi

/-- What lies elsewhere, behind marks in a list of numbers. -/
theorem OwnInts.apartM {w w' : World} {lo : Nat} {v u : Value} {l : List Int} (h : OwnInts w lo u l) (hb : ∀ b, v.ownBlock ≠ some b → w'.heap[b]? = w.heap[b]?) (hne : ∀ b, v.ownBlock = some b → u.ownBlock = some b → False) : OwnInts w' lo u l := by
  obtain ⟨h0, h1⟩ := h
  refine ⟨h0, ?_⟩
  rcases h1 with h1 | ⟨g, cap, cur, rfl, hlo, hg, h2⟩
  · exact .inl h1
  · exact .inr ⟨g, cap, cur, rfl, hlo, (hb g (fun e => hne g e rfl)).trans hg, h2⟩

set_option maxHeartbeats 1000000 in
theorem markFn_top (lo hi : Nat) (v : Value) (n : Nat) (vals : Int) (q : Int) (w : World) (hm : FnM lo hi w v n vals) (hz : Thaw lo hi w) (hn : n ≤ 1048576) (hlo : lo ≤ w.heap.size) (hhi : hi ≤ w.heap.size) (hq : 0 ≤ q) (hq2 : q ≤ 1000000) :
    Calls Tryz.prog 60 #[v, .int .i64 q] w fun e w' => ∃ z, e = .returned (.int .i64 z) ∧ 0 ≤ z ∧ z ≤ 4000000000000000000 ∧ Marked lo hi w w' := by
  obtain ⟨bv, rfl, hb⟩ := hm
  have HB : Hid (MarkAt lo hi 6 (BlockM lo hi) w bv n) := hb
  have HZ : Hid (Thaw lo hi w) := hz
  obtain ⟨ba, bcap, rfl⟩ := hb.isSlice
  clear hb hz
  go_enter Tryz.func60, Tryz.ntmps60
  go_wp2_with fail
  refine (markBlockS_any lo hi _ n q _ (HB.out.keep fun _ _ hx => hx.later (Bel.alloc _ _)) (fun p h1 h2 => (frozen?_alloc_cells _ _ _ _).trans (HZ.out p h1 h2)) hn hq hq2).mono ?_
  rintro e w1 ⟨z, rfl, h1, h2, t1⟩
  have HT : Hid (Turns lo hi (w.alloc (.cells #[.slice ba n bcap, .int .i64 vals] 26)) w1) := t1
  clear t1
  go_wp2_with fail
  go_ret
  refine ⟨z, rfl, by omega, by omega, ((Below.refl lo w).alloc hlo _).trans HT.out.bel, fun k hk hk2 => ?_⟩
  exact (HT.out.above k hk).trans (Below.heap_alloc w _ k hk2)
end Go.Proofs.YtldcohhifmpedaaGreat
