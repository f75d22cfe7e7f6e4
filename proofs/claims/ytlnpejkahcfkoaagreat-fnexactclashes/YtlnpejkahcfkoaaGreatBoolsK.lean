/- Lists of bools in memory: compared, marked, held against the marks; lists that a call has made. -/
import Derived.Test.YtlnpejkahcfkoaaGreatKSeq
import Derived.Test.YtlnpejkahcfkoaaGreatKMark
namespace Go.Proofs.YtlnpejkahcfkoaaGreat
open Go.ChangeShapes Go.WideShapes Go.ChangeAt Go.RowKit
set_option linter.unusedVariables false

/-- A slice that reads as the numbers l. -/
def BoolsAt (w : World) (v : Value) (l : List Bool) : Prop :=
  ∃ (a : Option Addr) (cap : Nat), v = .slice a l.length cap ∧ l.length ≤ 9223372036854775807 ∧ (0 < l.length → ∃ b off, a = some ⟨b, off, none⟩ ∧ ∀ i, i < l.length → w.cell? ⟨b, off + i, none⟩ = some (.bool (l.getD i false)))

theorem BoolsAt.keep {w w' : World} {v : Value} {l : List Bool} (h : BoolsAt w v l) (hb : Below w.heap.size w w') : BoolsAt w' v l := by
  obtain ⟨a, cap, rfl, hm, hc⟩ := h
  refine ⟨a, cap, rfl, hm, fun hp => ?_⟩
  obtain ⟨b, off, rfl, hd⟩ := hc hp
  exact ⟨b, off, rfl, fun i hi => Bel.keeps hb (hd i hi)⟩

theorem take_nextB {l : List Bool} {k : Nat} (hl : k < l.length) : l.take (k + 1) = l.take k ++ [l.getD k false] := by
  rw [List.take_add_one]
  simp [hl]

/-- Two lists of one length whose first k are alike. -/
theorem lists_stepB {l m : List Bool} {k : Nat} (hl : k < l.length) (hm : k < m.length) (h : l.take k = m.take k) (e : l.getD k false = m.getD k false) : l.take (k + 1) = m.take (k + 1) := by
  rw [take_nextB hl, take_nextB hm, h, e]

theorem lists_differB {l m : List Bool} {k : Nat} (e : ¬ l.getD k false = m.getD k false) : decide (l = m) = false := by
  simp only [decide_eq_false_iff_not]
  rintro rfl
  exact e rfl

theorem lists_endB {l m : List Bool} {k : Nat} (hl : l.length = k) (hm : m.length = k) (h : l.take k = m.take k) : decide (l = m) = true := by
  simp only [decide_eq_true_eq]
  rw [List.take_of_length_le (by omega), List.take_of_length_le (by omega)] at h
  exact h

set_option maxHeartbeats 1000000 in
theorem eqBoolS_any (va vb : Value) (l m : List Bool) (w : World) (ha : BoolsAt w va l) (hb : BoolsAt w vb m) :
    Calls Tryz.prog 45 #[va, vb] w fun e w' => e = .returned (.bool (decide (l = m))) ∧ Below w.heap.size w w' := by
  obtain ⟨aa, ca, rfl, hma, hca⟩ := ha
  obtain ⟨ab, cb, rfl, hmb, hcb⟩ := hb
  obtain ⟨n, HN⟩ : ∃ n, Hid (l.length = n) := ⟨_, rfl⟩
  obtain ⟨n', HN'⟩ : ∃ n, Hid (m.length = n) := ⟨_, rfl⟩
  rw [HN.out] at hma hca ⊢
  rw [HN'.out] at hmb hcb ⊢
  have HA : Hid (0 < n → ∃ b off, aa = some ⟨b, off, none⟩ ∧ ∀ i, i < n → w.cell? ⟨b, off + i, none⟩ = some (.bool (l.getD i false))) := hca
  have HB : Hid (0 < n' → ∃ b off, ab = some ⟨b, off, none⟩ ∧ ∀ i, i < n' → w.cell? ⟨b, off + i, none⟩ = some (.bool (m.getD i false))) := hcb
  clear hca hcb
  by_cases hlen : n = n'
  · have HL : Hid (n = n') := hlen
    have hne : ((n : Int) != (n' : Int)) = false := by simp [hlen]
    clear hlen
    go_enter Tryz.func45, Tryz.ntmps45
    go_wp2
    go_loopw [5] (fun i wr => ∃ k : Nat, k ≤ n ∧ i = .int .i64 k ∧ l.take k = m.take k ∧ Below w.heap.size w wr) (fun i _ => n - (intOf i).toNat)
    case atStart => exact ⟨0, Nat.zero_le _, rfl, by simp, Below.refl _ _⟩
    case round =>
      obtain ⟨k, hk, rfl, htk, hb3⟩ := hrel
      have HT : Hid (l.take k = m.take k) := htk
      have HBel : Hid (Below w.heap.size w wr) := hb3
      clear htk hb3
      by_cases hlt : (k : Int) < (n : Int)
      · obtain ⟨b, off, rfl, hc1⟩ := HA.out (by omega)
        obtain ⟨b', off', rfl, hc2⟩ := HB.out (by have := HL.out; omega)
        obtain ⟨x, HX⟩ : ∃ x, Hid (l.getD k false = x) := ⟨_, rfl⟩
        obtain ⟨y, HY⟩ : ∃ y, Hid (m.getD k false = y) := ⟨_, rfl⟩
        have q1 := Bel.keeps HBel.out (hc1 k (by omega))
        have q2 := Bel.keeps HBel.out (hc2 k (by have := HL.out; omega))
        rw [HX.out] at q1
        rw [HY.out] at q2
        have hlt' : k < n' := by have := HL.out; omega
        clear hc1 hc2
        by_cases he : x = y
        · subst he
          have HE : Hid (l.getD k false = m.getD k false) := HX.out.trans HY.out.symm
          cases x
          all_goals
            go_wp2
            go_quiet (fail)
            go_wp2
            go_roundw
            case rel => exact ⟨k + 1, by omega, by go_num, lists_stepB (by have := HN.out; omega) (by have := HN'.out; omega) HT.out HE.out, HBel.out.trans ⟨rfl, rfl, rfl, Nat.le_refl _, fun _ _ => rfl⟩⟩
            case measure => simp [intOf]; omega
        · have HE : Hid (¬ l.getD k false = m.getD k false) := by rw [HX.out, HY.out]; exact he
          cases x <;> cases y
          · exact absurd rfl he
          · clear he
            go_wp2
            go_quiet (fail)
            go_wp2
            go_ret
            exact ⟨by rw [lists_differB (k := k) (l := l) (m := m) HE.out]; rfl, HBel.out.trans ⟨rfl, rfl, rfl, Nat.le_refl _, fun _ _ => rfl⟩⟩
          · clear he
            go_wp2
            go_quiet (fail)
            go_wp2
            go_ret
            exact ⟨by rw [lists_differB (k := k) (l := l) (m := m) HE.out]; rfl, HBel.out.trans ⟨rfl, rfl, rfl, Nat.le_refl _, fun _ _ => rfl⟩⟩
          · exact absurd rfl he
      · have hkn : k = n := by omega
        have hd : decide (l = m) = true := lists_endB (k := k) (by have := HN.out; omega) (by have := HN'.out; have := HL.out; omega) HT.out
        have HD : Hid (decide (l = m) = true) := hd
        clear hkn hd
        go_wp2
        go_ret
        exact ⟨by rw [HD.out]; rfl, HBel.out⟩
  · have hd : decide (l = m) = false := by
      simp only [decide_eq_false_iff_not]
      rintro rfl
      exact hlen (HN.out.symm.trans HN'.out)
    rw [hd]
    have hne : ((n : Int) != (n' : Int)) = true := by simp; omega
    clear hlen hd
    go_enter Tryz.func45, Tryz.ntmps45
    go_wp2
    go_ret
    exact ⟨rfl, Below.refl _ _⟩

/-- The marks from k on. -/
def bmark (z : Int) : Bool := (z % 3 == 0)
def bmarks (k : Int) (n : Nat) : List Bool := (List.range n).map (fun (i : Nat) => bmark (k + (i : Int)))
theorem bmarks_len (k : Int) (n : Nat) : (bmarks k n).length = n := by simp [bmarks]
theorem bmarks_at (k : Int) (n i : Nat) (h : i < n) : (bmarks k n).getD i false = bmark (k + (i : Int)) := by simp [bmarks, List.getD, h]

set_option maxHeartbeats 1000000 in
theorem heldBoolS_any (v : Value) (n : Nat) (q : Int) (w : World) (hr : BoolsAt w v (bmarks q n)) (hq : 0 ≤ q) (hq2 : q + n ≤ 9223372036854775807) :
    Calls Tryz.prog 49 #[v, .int .i64 q] w fun e w' => e = .returned (.int .i64 (q + n)) ∧ w' = w := by
  obtain ⟨a, cap, rfl, hm, hc⟩ := hr
  rw [bmarks_len] at hm hc ⊢
  have HC : Hid (0 < n → ∃ b off, a = some ⟨b, off, none⟩ ∧ ∀ i, i < n → w.cell? ⟨b, off + i, none⟩ = some (.bool ((bmarks q n).getD i false))) := hc
  clear hc
  go_enter Tryz.func49, Tryz.ntmps49
  go_wp2
  go_loop [1, 5] (fun kv i => ∃ k : Nat, k ≤ n ∧ i = .int .i64 k ∧ kv = .int .i64 (q + k)) (fun _ i => n - (intOf i).toNat)
  case atStart => exact ⟨0, Nat.zero_le _, rfl, by go_num⟩
  case round =>
    obtain ⟨k, hk, rfl, rfl⟩ := hrel
    by_cases hlt2 : (k : Int) < (n : Int)
    · obtain ⟨b, off, rfl, hc1⟩ := HC.out (by omega)
      have q1 := hc1 k (by omega)
      rw [bmarks_at _ _ _ (by omega)] at q1
      clear hc1
      have q0 : w.cell? ⟨b, off + k, none⟩ = some (.bool ((q + (k : Int)) % 3 == 0)) := q1
      clear q1
      cases hy : ((q + (k : Int)) % 3 == 0)
      all_goals
        rw [hy] at q0
        go_wp2
        go_round
        case rel => exact ⟨k + 1, by omega, by go_num, by go_num⟩
        case measure => simp [intOf]; omega
    · have hkn : k = n := by omega
      subst hkn
      go_wp2
      go_ret
      exact ⟨rfl, rfl⟩

/-- A list of numbers in memory of the call's own, in blocks from lo on. -/
def OwnBools (w : World) (lo : Nat) (v : Value) (l : List Bool) : Prop := w.ownsRow lo 4 1 v l.length (l.map (fun x => Value.bool x))

theorem OwnBools.small {w : World} {lo : Nat} {v : Value} {l : List Bool} (h : OwnBools w lo v l) : l.length ≤ maxLen := by
  rcases h.2 with ⟨_, h0⟩ | ⟨g, cap, cur, _, _, _, h1, h2, _⟩
  · rw [h0]; exact Nat.zero_le _
  · omega

/-- What it is, cell by cell. -/
theorem OwnBools.row {w : World} {lo : Nat} {v : Value} {l : List Bool} (h : OwnBools w lo v l) :
    ∃ a cap, v = .slice a l.length cap ∧ (0 < l.length → ∃ g, a = some ⟨g, 0, none⟩ ∧ lo ≤ g ∧ g < w.heap.size ∧ (∀ i, i < l.length → w.cell? ⟨g, i, none⟩ = some (.bool (l.getD i false))) ∧ ∀ i, w.frozen? ⟨g, i, none⟩ = false) := by
  rcases h.2 with ⟨rfl, h0⟩ | ⟨g, cap, cur, rfl, hlo, hg, h1, h2, h3, h4⟩
  · exact ⟨none, 0, by rw [h0], fun hp => absurd hp (by omega)⟩
  · refine ⟨_, cap, rfl, fun hp => ⟨g, rfl, hlo, (Array.getElem?_eq_some_iff.1 hg).1, fun i hi => ?_, fun i => ?_⟩⟩
    · have hs : i < cur.size := by omega
      have e : cur[i]? = some (.bool (l.getD i false)) := by
        have e1 : (cur.toList.take (l.length * 1))[i]? = cur[i]? := by rw [List.getElem?_take]; simp [hi]
        rw [← e1, h4, List.getElem?_map]
        simp [List.getD, hi]
      simp [World.cell?, hg, e]
    · simp [World.frozen?, hg]

theorem OwnBools.at {w : World} {lo : Nat} {v : Value} {l : List Bool} (h : OwnBools w lo v l) : BoolsAt w v l := by
  have hs := h.small
  obtain ⟨a, cap, rfl, hc⟩ := h.row
  refine ⟨a, cap, rfl, by have : maxLen ≤ 9223372036854775807 := by decide
                          omega, fun hp => ?_⟩
  obtain ⟨g, rfl, _, _, hd, _⟩ := hc hp
  exact ⟨g, 0, rfl, fun i hi => by simpa using hd i hi⟩

theorem ownsRow_laterB {w w' : World} {lo : Nat} {e : TypeId} {s : Nat} {v : Value} {k : Nat} {xs : List Value} (h : w.ownsRow lo e s v k xs) (hb : Below w.heap.size w w') : w'.ownsRow lo e s v k xs := by
  obtain ⟨h0, h1⟩ := h
  refine ⟨h0, ?_⟩
  rcases h1 with h1 | ⟨g, cap, cur, rfl, hlo, hg, h2⟩
  · exact .inl h1
  · exact .inr ⟨g, cap, cur, rfl, hlo, (hb.block g (Array.getElem?_eq_some_iff.1 hg).1).trans hg, h2⟩
theorem OwnBools.keep {w w' : World} {lo : Nat} {v : Value} {l : List Bool} (h : OwnBools w lo v l) (hb : Below w.heap.size w w') : OwnBools w' lo v l := ownsRow_laterB h hb
theorem ownsRow_lowB {w : World} {lo lo' : Nat} {e : TypeId} {s : Nat} {v : Value} {k : Nat} {xs : List Value} (h : w.ownsRow lo e s v k xs) (hl : lo' ≤ lo) : w.ownsRow lo' e s v k xs := by
  obtain ⟨h0, h1⟩ := h
  refine ⟨h0, ?_⟩
  rcases h1 with h1 | ⟨g, cap, cur, rfl, hlo, h2⟩
  · exact .inl h1
  · exact .inr ⟨g, cap, cur, rfl, Nat.le_trans hl hlo, h2⟩
theorem OwnBools.low {w : World} {lo lo' : Nat} {v : Value} {l : List Bool} (h : OwnBools w lo v l) (hl : lo' ≤ lo) : OwnBools w lo' v l := ownsRow_lowB h hl
/-- What was made below lo stays when what lies from lo on turns. -/
theorem BoolsAt.under {w w' : World} {v : Value} {l : List Bool} (h : BoolsAt w v l) {lo : Nat} (hb : Below lo w w') (hv : ∀ a, v.ownBlock = some a → a < lo) : BoolsAt w' v l := by
  obtain ⟨a, cap, rfl, hm, hc⟩ := h
  refine ⟨a, cap, rfl, hm, fun hp => ?_⟩
  obtain ⟨b, off, rfl, hd⟩ := hc hp
  exact ⟨b, off, rfl, fun i hi => by rw [hb.cell (p := ⟨b, off + i, none⟩) (hv b rfl)]; exact hd i hi⟩

/-- A list of numbers is given, in new memory. -/
def GivesOwnB (w : World) (l : List Bool) (e : Ending) (w' : World) : Prop := ∃ v, e = .returned v ∧ OwnBools w' w.heap.size v l ∧ Below w.heap.size w w'

/-- An empty list that was laid. -/
theorem ownBools_new (w : World) : OwnBools (w.alloc (.cells #[] 4)) w.heap.size (.slice (some ⟨w.heap.size, 0, none⟩) 0 0) [] :=
  ⟨rfl, .inr ⟨w.heap.size, 0, #[], rfl, Nat.le_refl _, World.alloc_heap_new w _, Nat.le_refl _, Nat.zero_le _, rfl, rfl⟩⟩

set_option maxHeartbeats 1000000 in
theorem markBoolS_own (lo : Nat) (v : Value) (l : List Bool) (q : Int) (w : World) (hr : OwnBools w lo v l) (hlo : lo ≤ w.heap.size) (hq : 0 ≤ q) (hq2 : q + l.length ≤ 9223372036854775807) :
    Calls Tryz.prog 48 #[v, .int .i64 q] w fun e w' => e = .returned (.int .i64 (q + l.length)) ∧ Below lo w w' ∧ BoolsAt w' v (bmarks q l.length) := by
  have hs := hr.small
  have hmx : l.length ≤ 9223372036854775807 := by
    have : maxLen ≤ 9223372036854775807 := by decide
    omega
  obtain ⟨a, cap, rfl, hc⟩ := hr.row
  obtain ⟨n, HN⟩ : ∃ n, Hid (l.length = n) := ⟨_, rfl⟩
  rw [HN.out] at hmx hq2 hc ⊢
  have HC : Hid (0 < n → ∃ g, a = some ⟨g, 0, none⟩ ∧ lo ≤ g ∧ g < w.heap.size ∧ (∀ i, i < n → w.cell? ⟨g, i, none⟩ = some (.bool (l.getD i false))) ∧ ∀ i, w.frozen? ⟨g, i, none⟩ = false) := hc
  clear hc hr hs
  go_enter Tryz.func48, Tryz.ntmps48
  go_wp2
  go_loopw [1, 5] (fun kv i wr => ∃ k : Nat, k ≤ n ∧ i = .int .i64 k ∧ kv = .int .i64 (q + k) ∧ Below lo w wr ∧ ∀ g, a = some ⟨g, 0, none⟩ → ((∀ j, j < k → wr.cell? ⟨g, j, none⟩ = some (.bool (bmark (q + j)))) ∧ (∀ j, k ≤ j → j < n → ∃ x, wr.cell? ⟨g, j, none⟩ = some (.bool x)) ∧ (∀ j, j < n → wr.frozen? ⟨g, j, none⟩ = false))) (fun _ i _ => n - (intOf i).toNat)
  case atStart =>
    refine ⟨0, Nat.zero_le _, rfl, by go_num, Below.refl _ _, fun g hg => ⟨fun j hj => absurd hj (by omega), fun j _ hj => ?_, fun j hj => ?_⟩⟩
    · obtain ⟨g', e, _, _, h1, _⟩ := HC.out (by omega)
      rw [hg] at e
      cases e
      exact ⟨_, h1 j hj⟩
    · obtain ⟨g', e, _, _, _, h2⟩ := HC.out (by omega)
      rw [hg] at e
      cases e
      exact h2 j
  case round =>
    obtain ⟨k, hk, rfl, rfl, hfr, hdone⟩ := hrel
    have H1 : Hid (Below lo w wr) := hfr
    have H2 : Hid (∀ g, a = some ⟨g, 0, none⟩ → ((∀ j, j < k → wr.cell? ⟨g, j, none⟩ = some (.bool (bmark (q + j)))) ∧ (∀ j, k ≤ j → j < n → ∃ x, wr.cell? ⟨g, j, none⟩ = some (.bool x)) ∧ (∀ j, j < n → wr.frozen? ⟨g, j, none⟩ = false))) := hdone
    clear hfr hdone
    by_cases hlt2 : (k : Int) < (n : Int)
    · obtain ⟨g, rfl, hg, _⟩ := HC.out (by omega)
      obtain ⟨K1, K2, K3⟩ := H2.out g rfl
      obtain ⟨x, q1⟩ := K2 k (Nat.le_refl _) (by omega)
      have q2 := K3 k (by omega)
      have K1' : Hid (∀ j, j < k → wr.cell? ⟨g, j, none⟩ = some (.bool (bmark (q + j)))) := K1
      have K2' : Hid (∀ j, k ≤ j → j < n → ∃ x, wr.cell? ⟨g, j, none⟩ = some (.bool x)) := K2
      have K3' : Hid (∀ j, j < n → wr.frozen? ⟨g, j, none⟩ = false) := K3
      clear K1 K2 K3
      go_wp2
      go_roundw
      case rel =>
        refine ⟨k + 1, by omega, by go_num, by go_num, H1.out.setCell (p := ⟨g, k, none⟩) hg _, fun g' e => ?_⟩
        cases e
        refine ⟨fun j hj => ?_, fun j hj hj2 => ?_, fun j hj => ?_⟩
        · by_cases hjk : j = k
          · subst hjk
            exact World.cell?_setCell_same _ _ _ q1
          · rw [World.cell?_setCell_other _ _ _ _ (by simp <;> omega)]
            exact K1'.out j (by omega)
        · rw [World.cell?_setCell_other _ _ _ _ (by simp <;> omega)]
          exact K2'.out j (by omega) hj2
        · simpa using K3'.out j hj
      case measure => simp [intOf]; omega
    · have hkn : k = n := by omega
      subst hkn
      go_wp2
      go_ret
      refine ⟨rfl, H1.out, a, cap, by rw [bmarks_len], by rw [bmarks_len]; exact hmx, fun hp => ?_⟩
      rw [bmarks_len] at hp
      obtain ⟨g, rfl, _⟩ := HC.out hp
      refine ⟨g, 0, rfl, fun i hi => ?_⟩
      rw [bmarks_len] at hi
      rw [bmarks_at _ _ _ hi]
      simpa using (H2.out g rfl).1 i hi

theorem OwnBools.marked {w w' : World} {lo hi b : Nat} {v : Value} {l : List Bool} (h : OwnBools w b v l) (m : Marked lo hi w w') (hv : ∀ g, v.ownBlock = some g → g < lo ∨ hi ≤ g) : OwnBools w' b v l := ownsRow_marked h m hv
theorem OwnBools.lt {w : World} {b : Nat} {v : Value} {l : List Bool} (h : OwnBools w b v l) : ∀ g, v.ownBlock = some g → b ≤ g ∧ g < w.heap.size := World.ownsRow.lt h
end Go.Proofs.YtlnpejkahcfkoaaGreat
