/- Lists of edges: of the call's own, read, compared, marked, held against the marks. Small facts of lists of numbers in memory. A program's blocks and lists in memory, one at a time. -/
import Derived.Test.YtfnilamkapabkabKEq
import Derived.Test.YtfnilamkapabkabKMark
import Derived.Test.YtfnilamkapabkabKIns
namespace Go.Proofs.Ytfnilamkapabkab
open Go.ChangeShapes Go.WideShapes Go.ChangeAt Go.RowKit
set_option linter.unusedVariables false

/-- The cells of a list of edges (of each: from, to). -/
def edgeC : List ArmD → List Value
  | [] => []
  | e :: l => .int .i64 e.fr :: .int .i64 e.v :: edgeC l
theorem edgeC_len (l : List ArmD) : (edgeC l).length = l.length * 2 := by
  induction l with
  | nil => rfl
  | cons e l ih => simp only [edgeC, List.length_cons, ih]; omega
theorem edgeC_at (l : List ArmD) : ∀ {i : Nat} {x : ArmD}, l[i]? = some x → (edgeC l)[i * 2]? = some (.int .i64 x.fr) ∧ (edgeC l)[i * 2 + 1]? = some (.int .i64 x.v) := by
  induction l with
  | nil => intro i x h; simp at h
  | cons e l ih =>
    intro i x h
    cases i with
    | zero =>
      simp at h
      subst h
      exact ⟨rfl, rfl⟩
    | succ i =>
      simp at h
      have := ih h
      rw [show (i + 1) * 2 = i * 2 + 1 + 1 by omega]
      simpa [edgeC] using this
theorem edgeC_app (l m : List ArmD) : edgeC (l ++ m) = edgeC l ++ edgeC m := by
  induction l with
  | nil => rfl
  | cons e l ih => simp [edgeC, ih]
/-- A list of edges in memory of the call's own, in blocks from lo on. -/
def OwnEdges (w : World) (lo : Nat) (v : Value) (l : List ArmD) : Prop := w.ownsRow lo 43 2 v l.length (edgeC l)
/-- A slice that reads as the edges l. -/
def EdgesAt (w : World) (v : Value) (l : List ArmD) : Prop := ListAt 0 2 ArmAt w v l
theorem OwnEdges.small {w : World} {lo : Nat} {v : Value} {l : List ArmD} (h : OwnEdges w lo v l) : l.length ≤ maxLen := by
  rcases h.2 with ⟨_, h0⟩ | ⟨g, cap, cur, _, _, _, h1, h2, _⟩
  · rw [h0]; exact Nat.zero_le _
  · omega
theorem OwnEdges.row {w : World} {lo : Nat} {v : Value} {l : List ArmD} (h : OwnEdges w lo v l) :
    ∃ a cap, v = .slice a l.length cap ∧ (0 < l.length → ∃ g, a = some ⟨g, 0, none⟩ ∧ lo ≤ g ∧ g < w.heap.size ∧ (∀ i x, l[i]? = some x → ArmAt w g (i * 2) x) ∧ ∀ i, w.frozen? ⟨g, i, none⟩ = false) := by
  rcases h.2 with ⟨rfl, h0⟩ | ⟨g, cap, cur, rfl, hlo, hg, h1, h2, h3, h4⟩
  · exact ⟨none, 0, by rw [h0], fun hp => absurd hp (by omega)⟩
  · refine ⟨_, cap, rfl, fun hp => ⟨g, rfl, hlo, (Array.getElem?_eq_some_iff.1 hg).1, fun i x hx => ?_, fun i => ?_⟩⟩
    · have hi : i < l.length := (List.getElem?_eq_some_iff.1 hx).1
      obtain ⟨c0, c1⟩ := edgeC_at l hx
      have e0 : cur[i * 2]? = some (.int .i64 x.fr) := by
        have e1 : (cur.toList.take (l.length * 2))[i * 2]? = cur[i * 2]? := by rw [List.getElem?_take]; simp; omega
        rw [← e1, h4]
        exact c0
      have e2 : cur[i * 2 + 1]? = some (.int .i64 x.v) := by
        have e1 : (cur.toList.take (l.length * 2))[i * 2 + 1]? = cur[i * 2 + 1]? := by rw [List.getElem?_take]; simp; omega
        rw [← e1, h4]
        exact c1
      exact ⟨by simp [World.cell?, hg, e0], by simp [World.cell?, hg, e2]⟩
    · simp [World.frozen?, hg]
theorem OwnEdges.at {w : World} {lo : Nat} {v : Value} {l : List ArmD} (h : OwnEdges w lo v l) : EdgesAt w v l := by
  have hs := h.small
  obtain ⟨a, cap, rfl, hc⟩ := h.row
  refine ⟨a, cap, rfl, by have : maxLen ≤ 9223372036854775807 := by decide
                          omega, fun hp => ?_⟩
  obtain ⟨g, rfl, _, _, hd, _⟩ := hc hp
  exact ⟨g, 0, rfl, Nat.zero_le _, fun i x hx => by simpa using hd i x hx⟩
theorem OwnEdges.keep {w w' : World} {lo : Nat} {v : Value} {l : List ArmD} (h : OwnEdges w lo v l) (hb : Below w.heap.size w w') : OwnEdges w' lo v l := ownsRow_later h hb
theorem OwnEdges.low {w : World} {lo lo' : Nat} {v : Value} {l : List ArmD} (h : OwnEdges w lo v l) (hl : lo' ≤ lo) : OwnEdges w lo' v l := ownsRow_low h hl
theorem OwnEdges.marked {w w' : World} {lo hi b : Nat} {v : Value} {l : List ArmD} (h : OwnEdges w b v l) (m : Marked lo hi w w') (hv : ∀ g, v.ownBlock = some g → g < lo ∨ hi ≤ g) : OwnEdges w' b v l := ownsRow_marked h m hv
theorem OwnEdges.lt {w : World} {b : Nat} {v : Value} {l : List ArmD} (h : OwnEdges w b v l) : ∀ g, v.ownBlock = some g → b ≤ g ∧ g < w.heap.size := World.ownsRow.lt h
theorem EdgesAt.keep {w w' : World} {v : Value} {l : List ArmD} (h : EdgesAt w v l) (hb : Below w.heap.size w w') : EdgesAt w' v l := ListAt.keep h (fun b o z hb2 h => h.keep (Keeps.of_below hb 0) hb2)
theorem EdgesAt.under {w w' : World} {v : Value} {l : List ArmD} (h : EdgesAt w v l) {lo : Nat} (hb : Below lo w w') (hv : ∀ a, v.ownBlock = some a → a < lo) : EdgesAt w' v l := by
  obtain ⟨a, cap, rfl, hm, hc⟩ := h
  refine ⟨a, cap, rfl, hm, fun hp => ?_⟩
  obtain ⟨b, off, rfl, h0, hd⟩ := hc hp
  exact ⟨b, off, rfl, h0, fun i x hx => ⟨(hb.cell (p := ⟨b, off + i * 2, none⟩) (hv b rfl)).trans (hd i x hx).1, (hb.cell (p := ⟨b, off + i * 2 + 1, none⟩) (hv b rfl)).trans (hd i x hx).2⟩⟩
/-- A list of edges is given, in new memory. -/
def GivesEdges (w : World) (l : List ArmD) (e : Ending) (w' : World) : Prop := ∃ v, e = .returned v ∧ OwnEdges w' w.heap.size v l ∧ Below w.heap.size w w'
theorem ownEdges_nil {w w' : World} {lo g : Nat} (hg : w'.heap[g]? = some (.cells #[] 43 (0, 0))) (hl : lo ≤ g) : OwnEdges w' lo (.slice (some ⟨g, 0, none⟩) 0 0) [] :=
  ⟨rfl, .inr ⟨g, 0, #[], rfl, hl, hg, Nat.le_refl _, Nat.zero_le _, rfl, rfl⟩⟩
theorem OwnEdges.next {w : World} {lo : Nat} {v : Value} {l : List ArmD} {x : ArmD} (h : w.ownsRow lo 43 2 v (l.length + 1) (edgeC l ++ [Value.int .i64 x.fr, Value.int .i64 x.v])) : OwnEdges w lo v (l ++ [x]) := by
  unfold OwnEdges
  rw [edgeC_app, List.length_append]
  exact h
theorem OwnEdges.more {w : World} {lo : Nat} {v : Value} {l m : List ArmD} (h : w.ownsRow lo 43 2 v (l.length + m.length) (edgeC l ++ edgeC m)) : OwnEdges w lo v (l ++ m) := by
  unfold OwnEdges
  rw [edgeC_app, List.length_append]
  exact h
theorem OwnEdges.not_box {w : World} {lo : Nat} {v : Value} {l : List ArmD} (h : OwnEdges w lo v l) {B : Nat} {c : Array Value} {t : TypeId} {z : Nat × Nat} (hB : w.heap[B]? = some (.cells c t z)) (ht : t ≠ 43) : some B ≠ v.ownBlock := by
  rcases h.2 with ⟨rfl, _⟩ | ⟨g, cap, cur, rfl, _, hgb, _⟩
  · simp [Value.ownBlock]
  · intro e'
    obtain rfl : B = g := by simpa [Value.ownBlock] using e'
    rw [hgb] at hB
    simp at hB
    exact ht hB.2.1.symm

/-- So they are marked. -/
def emarks (q : Int) (n : Nat) : List ArmD := (List.range n).map (fun i : Nat => ⟨q + (i : Int) * 2, q + (i : Int) * 2 + 1⟩)
theorem emarks_len (q : Int) (n : Nat) : (emarks q n).length = n := by simp [emarks]
theorem emarks_at (q : Int) {n i : Nat} (h : i < n) : (emarks q n)[i]? = some ⟨q + (i : Int) * 2, q + (i : Int) * 2 + 1⟩ := by simp [emarks, h]

theorem eqEdge_same (a b : Int) (w : World) :
    Calls Try.prog 19 #[.agg #[.int .i64 a, .int .i64 b], .agg #[.int .i64 a, .int .i64 b]] w fun e w' => GivesTrue w e w' := by
  have na : (a != a) = false := by simp
  have nb : (b != b) = false := by simp
  go_enter Try.func19, Try.ntmps19
  go_wp2
  go_ret
  exact ⟨rfl, by repeat (first | exact Below.refl _ _ | apply Below.drew | refine Below.alloc ?_ (by simp <;> omega) _ | refine Below.setCell ?_ (by simp <;> omega) _)⟩

set_option maxHeartbeats 4000000 in
theorem eqEdgeS_same (va vb : Value) (l : List ArmD) (w : World) (ha : EdgesAt w va l) (hb : EdgesAt w vb l) :
    Calls Try.prog 8 #[va, vb] w fun e w' => GivesTrue w e w' := by
  obtain ⟨aa, ca, rfl, hm, hca⟩ := ha
  obtain ⟨ab, cb, rfl, _, hcb⟩ := hb
  obtain ⟨n, HN⟩ : ∃ n, Hid (l.length = n) := ⟨_, rfl⟩
  rw [HN.out] at hm hca hcb ⊢
  have HA : Hid (0 < n → ∃ b off, aa = some ⟨b, off, none⟩ ∧ 0 ≤ b ∧ ∀ i x, l[i]? = some x → ArmAt w b (off + i * 2) x) := hca
  have HB : Hid (0 < n → ∃ b off, ab = some ⟨b, off, none⟩ ∧ 0 ≤ b ∧ ∀ i x, l[i]? = some x → ArmAt w b (off + i * 2) x) := hcb
  clear hca hcb
  have hne : ((n : Int) != (n : Int)) = false := by simp
  go_enter Try.func8, Try.ntmps8
  go_wp2
  go_loopw [5] (fun i wr => ∃ k : Nat, k ≤ n ∧ i = .int .i64 k ∧ Below w.heap.size w wr) (fun i _ => n - (intOf i).toNat)
  case atStart => exact ⟨0, Nat.zero_le _, rfl, Below.refl _ _⟩
  case round =>
    obtain ⟨k, hk, rfl, hb3⟩ := hrel
    have H1 : Hid (Below w.heap.size w wr) := hb3
    clear hb3
    by_cases hlt : (k : Int) < (n : Int)
    · obtain ⟨b, off, rfl, _, hc1⟩ := HA.out (by omega)
      obtain ⟨b', off', rfl, _, hc2⟩ := HB.out (by omega)
      have hkl : k < l.length := by have := HN.out; omega
      obtain ⟨x, HX⟩ : ∃ x, Hid (l[k]? = some x) := ⟨l[k], List.getElem?_eq_getElem hkl⟩
      obtain ⟨c0, c1⟩ := (hc1 k x HX.out).keep (Keeps.of_below H1.out 0) (Nat.zero_le _)
      obtain ⟨d0, d1⟩ := (hc2 k x HX.out).keep (Keeps.of_below H1.out 0) (Nat.zero_le _)
      clear hc1 hc2 hkl
      obtain ⟨x0, x1⟩ := x
      go_wp2
      go_region_with (go_at_call 19; refine (eqEdge_same x0 x1 _).mono ?_; rintro e w1 ⟨rfl, b1⟩)
      all_goals
        go_wp2
        go_roundw
        case rel => exact ⟨k + 1, by omega, by go_num, by first | exact Bel.after H1.out.drew (by assumption) | exact Bel.after H1.out (by assumption)⟩
        case measure => simp [intOf]; omega
    · go_wp2
      go_ret
      exact ⟨rfl, H1.out⟩

set_option maxHeartbeats 2000000 in
theorem markEdgeS_own (lo : Nat) (v : Value) (l : List ArmD) (q : Int) (w : World) (hr : OwnEdges w lo v l) (hlo : lo ≤ w.heap.size) (hq : 0 ≤ q) (hq2 : q + l.length * 2 ≤ 9223372036854775807) :
    Calls Try.prog 11 #[v, .int .i64 q] w fun e w' => e = .returned (.int .i64 (q + l.length * 2)) ∧ Below lo w w' ∧ EdgesAt w' v (emarks q l.length) := by
  have hs := hr.small
  have hmx : l.length ≤ 9223372036854775807 := by
    have : maxLen ≤ 9223372036854775807 := by decide
    omega
  obtain ⟨a, cap, rfl, hc⟩ := hr.row
  obtain ⟨n, HN⟩ : ∃ n, Hid (l.length = n) := ⟨_, rfl⟩
  rw [HN.out] at hmx hq2 hc ⊢
  have HC : Hid (0 < n → ∃ g, a = some ⟨g, 0, none⟩ ∧ lo ≤ g ∧ g < w.heap.size ∧ (∀ i x, l[i]? = some x → ArmAt w g (i * 2) x) ∧ ∀ i, w.frozen? ⟨g, i, none⟩ = false) := hc
  clear hc hr hs
  go_enter Try.func11, Try.ntmps11
  go_wp2
  go_loopw [1, 5] (fun kv i wr => ∃ k : Nat, k ≤ n ∧ i = .int .i64 k ∧ kv = .int .i64 (q + k * 2) ∧ Below lo w wr ∧ ∀ g, a = some ⟨g, 0, none⟩ → ((∀ j : Nat, j < k * 2 → wr.cell? ⟨g, j, none⟩ = some (.int .i64 (q + j))) ∧ (∀ j : Nat, k * 2 ≤ j → j < n * 2 → ∃ x, wr.cell? ⟨g, j, none⟩ = some (.int .i64 x)) ∧ (∀ j : Nat, j < n * 2 → wr.frozen? ⟨g, j, none⟩ = false))) (fun _ i _ => n - (intOf i).toNat)
  case atStart =>
    refine ⟨0, Nat.zero_le _, rfl, by go_num, Below.refl _ _, fun g hg => ⟨fun j hj => absurd hj (by omega), fun j _ hj => ?_, fun j hj => ?_⟩⟩
    · obtain ⟨g', e, _, _, h1, _⟩ := HC.out (by omega)
      rw [hg] at e
      cases e
      obtain ⟨x, hx⟩ : ∃ x, l[j / 2]? = some x := ⟨_, List.getElem?_eq_getElem (by have := HN.out; omega)⟩
      obtain ⟨y0, y1⟩ := h1 (j / 2) x hx
      rcases Nat.mod_two_eq_zero_or_one j with h | h
      · rw [show j / 2 * 2 = j by omega] at y0
        exact ⟨_, y0⟩
      · rw [show j / 2 * 2 + 1 = j by omega] at y1
        exact ⟨_, y1⟩
    · obtain ⟨g', e, _, _, _, h2⟩ := HC.out (by omega)
      rw [hg] at e
      cases e
      exact h2 j
  case round =>
    obtain ⟨k, hk, rfl, rfl, hfr, hdone⟩ := hrel
    have H1 : Hid (Below lo w wr) := hfr
    have H2 : Hid (∀ g, a = some ⟨g, 0, none⟩ → ((∀ j : Nat, j < k * 2 → wr.cell? ⟨g, j, none⟩ = some (.int .i64 (q + j))) ∧ (∀ j : Nat, k * 2 ≤ j → j < n * 2 → ∃ x, wr.cell? ⟨g, j, none⟩ = some (.int .i64 x)) ∧ (∀ j : Nat, j < n * 2 → wr.frozen? ⟨g, j, none⟩ = false))) := hdone
    clear hfr hdone
    by_cases hlt2 : (k : Int) < (n : Int)
    · obtain ⟨g, rfl, hg, _⟩ := HC.out (by omega)
      obtain ⟨K1, K2, K3⟩ := H2.out g rfl
      obtain ⟨x0, c0⟩ := K2 (k * 2) (Nat.le_refl _) (by omega)
      obtain ⟨x1, c1⟩ := K2 (k * 2 + 1) (by omega) (by omega)
      have f0 := K3 (k * 2) (by omega)
      have f1 := K3 (k * 2 + 1) (by omega)
      have K1' : Hid (∀ j : Nat, j < k * 2 → wr.cell? ⟨g, j, none⟩ = some (.int .i64 (q + j))) := K1
      have K2' : Hid (∀ j : Nat, k * 2 ≤ j → j < n * 2 → ∃ x, wr.cell? ⟨g, j, none⟩ = some (.int .i64 x)) := K2
      have K3' : Hid (∀ j : Nat, j < n * 2 → wr.frozen? ⟨g, j, none⟩ = false) := K3
      have C0 : Hid (wr.cell? ⟨g, k * 2, none⟩ = some (.int .i64 x0)) := c0
      have C1 : Hid (wr.cell? ⟨g, k * 2 + 1, none⟩ = some (.int .i64 x1)) := c1
      clear K1 K2 K3
      go_wp2
      go_roundw
      case rel =>
        refine ⟨k + 1, by omega, by go_num, by go_num, (H1.out.setCell (p := ⟨g, k * 2, none⟩) hg _).setCell (p := ⟨g, k * 2 + 1, none⟩) hg _, fun g' e => ?_⟩
        cases e
        refine ⟨fun j hj => ?_, fun j hj hj2 => ?_, fun j hj => ?_⟩
        · by_cases hj1 : j = k * 2 + 1
          · subst hj1
            rw [World.cell?_setCell_same _ _ _ ((World.cell?_setCell_other _ _ _ _ (by simp)).trans C1.out)]
            congr 2
            omega
          · rw [World.cell?_setCell_other _ _ _ _ (by simp <;> omega)]
            by_cases hjk : j = k * 2
            · subst hjk
              rw [World.cell?_setCell_same _ _ _ C0.out]
              congr 2
            · rw [World.cell?_setCell_other _ _ _ _ (by simp <;> omega)]
              exact K1'.out j (by omega)
        · rw [World.cell?_setCell_other _ _ _ _ (by simp <;> omega), World.cell?_setCell_other _ _ _ _ (by simp <;> omega)]
          exact K2'.out j (by omega) hj2
        · simpa using K3'.out j hj
      case measure => simp [intOf]; omega
    · have hkn : k = n := by omega
      subst hkn
      go_wp2
      go_ret
      refine ⟨rfl, H1.out, a, cap, by rw [emarks_len], by rw [emarks_len]; exact hmx, fun hp => ?_⟩
      rw [emarks_len] at hp
      obtain ⟨g, rfl, _⟩ := HC.out hp
      refine ⟨g, 0, rfl, Nat.zero_le _, fun i x hx => ?_⟩
      have hi : i < k := by have := (List.getElem?_eq_some_iff.1 hx).1; rw [emarks_len] at this; exact this
      rw [emarks_at q hi] at hx
      cases hx
      have h1 := (H2.out g rfl).1 (i * 2) (by omega)
      have h2 := (H2.out g rfl).1 (i * 2 + 1) (by omega)
      refine ⟨?_, ?_⟩
      · rw [Nat.zero_add, h1]
        congr 2
      · rw [Nat.zero_add, h2]
        congr 2
        show _ = q + (i : Int) * 2 + 1
        omega

set_option maxHeartbeats 2000000 in
theorem heldEdgeS_any (v : Value) (n : Nat) (q : Int) (w : World) (hr : EdgesAt w v (emarks q n)) (hq : 0 ≤ q) (hq2 : q + n * 2 ≤ 9223372036854775807) :
    Calls Try.prog 12 #[v, .int .i64 q] w fun e w' => e = .returned (.int .i64 (q + n * 2)) ∧ w' = w := by
  obtain ⟨a, cap, rfl, hm, hc⟩ := hr
  rw [emarks_len] at hm hc ⊢
  have HC : Hid (0 < n → ∃ b off, a = some ⟨b, off, none⟩ ∧ 0 ≤ b ∧ ∀ i x, (emarks q n)[i]? = some x → ArmAt w b (off + i * 2) x) := hc
  clear hc
  go_enter Try.func12, Try.ntmps12
  go_wp2
  go_loop [1, 5] (fun kv i => ∃ k : Nat, k ≤ n ∧ i = .int .i64 k ∧ kv = .int .i64 (q + k * 2)) (fun _ i => n - (intOf i).toNat)
  case atStart => exact ⟨0, Nat.zero_le _, rfl, by go_num⟩
  case round =>
    obtain ⟨k, hk, rfl, rfl⟩ := hrel
    by_cases hlt2 : (k : Int) < (n : Int)
    · obtain ⟨b, off, rfl, _, hc1⟩ := HC.out (by omega)
      obtain ⟨q1, q2⟩ := hc1 k _ (emarks_at q (by omega))
      dsimp only at q1 q2
      clear hc1
      go_wp2
      go_round
      case rel => exact ⟨k + 1, by omega, by go_num, by go_num⟩
      case measure => simp [intOf]; omega
    · have hkn : k = n := by omega
      subst hkn
      go_wp2
      go_ret
      exact ⟨rfl, rfl⟩
end Go.Proofs.Ytfnilamkapabkab

namespace Go.Proofs.Ytfnilamkapabkab
theorem IntsAt.cellsQ {w : World} {oa : Option Addr} {n ocap : Nat} {o : List Int} (h : IntsAt w (.slice oa n ocap) o) : ∀ k, k < n → ∃ b off, oa = some ⟨b, off, none⟩ ∧ w.cell? ⟨b, off + k, none⟩ = some (.int .i64 (o.getD k 0)) := by
  intro k hk
  obtain ⟨a, cap, e, _, hc⟩ := h
  simp at e
  obtain ⟨rfl, rfl, rfl⟩ := e
  obtain ⟨b, off, rfl, hd⟩ := hc (by omega)
  exact ⟨b, off, rfl, hd k hk⟩
theorem getD_in {l : List Int} {i : Nat} (h : i < l.length) : l.getD i 0 ∈ l := by
  rw [List.getD_eq_getElem?_getD, List.getElem?_eq_getElem h]
  exact List.getElem_mem h
end Go.Proofs.Ytfnilamkapabkab

namespace Go.Proofs.Ytfnilamkapabkab
open Go.ChangeShapes Go.WideShapes Go.ChangeAt Go.RowKit
set_option linter.unusedVariables false

theorem FnAt.blockC {w : World} {ba : Option Addr} {n bcap : Nat} {vals : Int} {F : FnD} (h : FnAt w (.agg #[.slice ba n bcap, .int .i64 vals]) F) {k : Nat} {x : BlockD} (hn : F.blocks.length = n) (hk : k < n) (hx : F.blocks[k]? = some x) : ∃ b off, ba = some ⟨b, off, none⟩ ∧ BlockAt 0 w b (off + k * 6) x := by
  obtain ⟨bv, he, a0, cap0, hbv, _, hc⟩ := h
  have e1 : (.slice ba n bcap : Value) = bv := by simp at he; exact he.1
  rw [hbv] at e1
  simp at e1
  obtain ⟨b, off, hb, _, hel⟩ := hc (by omega)
  exact ⟨b, off, e1.1.trans hb, hel k x hx⟩
theorem listAt_at {α : Type} {sz : Nat} {E : World → Nat → Nat → α → Prop} {w : World} {a : Option Addr} {n cap : Nat} {l : List α} (h : ListAt 0 sz E w (.slice a n cap) l) {k : Nat} {x : α} (hx : l[k]? = some x) : ∃ b off, a = some ⟨b, off, none⟩ ∧ E w b (off + k * sz) x := by
  obtain ⟨a0, cap0, e, _, hc⟩ := h
  simp at e
  have hk := (List.getElem?_eq_some_iff.1 hx).1
  obtain ⟨b, off, ha, _, hd⟩ := hc (by omega)
  exact ⟨b, off, e.1.trans ha, hd k x hx⟩
end Go.Proofs.Ytfnilamkapabkab
