/- Lists of numbers in memory: compared, marked, held against the marks. -/
import Derived.Test.YtebcocehdjoafaaDoorRows
import Derived.WalkKit
import Derived.ProofKit
import Derived.OpenShut
import Derived.Below
import Derived.Handy
import Derived.Deep.QuietTactic
import Derived.BigQuiet
import Derived.Test.YtebcocehdjoafaaDoorIns
namespace Go.Proofs.YtebcocehdjoafaaDoor
open Go.ChangeShapes Go.WideShapes Go.ChangeAt Go.RowKit
set_option linter.unusedVariables false

/-- A slice that reads as the numbers l. -/
def IntsAt (w : World) (v : Value) (l : List Int) : Prop :=
  ∃ (a : Option Addr) (cap : Nat), v = .slice a l.length cap ∧ l.length ≤ 9223372036854775807 ∧ (0 < l.length → ∃ b off, a = some ⟨b, off, none⟩ ∧ ∀ i, i < l.length → w.cell? ⟨b, off + i, none⟩ = some (.int .i64 (l.getD i 0)))

theorem IntsAt.keep {w w' : World} {v : Value} {l : List Int} (h : IntsAt w v l) (hb : Below w.heap.size w w') : IntsAt w' v l := by
  obtain ⟨a, cap, rfl, hm, hc⟩ := h
  refine ⟨a, cap, rfl, hm, fun hp => ?_⟩
  obtain ⟨b, off, rfl, hd⟩ := hc hp
  exact ⟨b, off, rfl, fun i hi => Bel.keeps hb (hd i hi)⟩

theorem take_next {l : List Int} {k : Nat} (hl : k < l.length) : l.take (k + 1) = l.take k ++ [l.getD k 0] := by
  rw [List.take_add_one]
  simp [hl]

/-- Two lists of one length whose first k are alike. -/
theorem lists_step {l m : List Int} {k : Nat} (hl : k < l.length) (hm : k < m.length) (h : l.take k = m.take k) (e : l.getD k 0 = m.getD k 0) : l.take (k + 1) = m.take (k + 1) := by
  rw [take_next hl, take_next hm, h, e]

theorem lists_differ {l m : List Int} {k : Nat} (e : ¬ l.getD k 0 = m.getD k 0) : decide (l = m) = false := by
  simp only [decide_eq_false_iff_not]
  rintro rfl
  exact e rfl

theorem lists_end {l m : List Int} {k : Nat} (hl : l.length = k) (hm : m.length = k) (h : l.take k = m.take k) : decide (l = m) = true := by
  simp only [decide_eq_true_eq]
  rw [List.take_of_length_le (by omega), List.take_of_length_le (by omega)] at h
  exact h

set_option maxHeartbeats 1000000 in
theorem eqIntS_any (va vb : Value) (l m : List Int) (w : World) (ha : IntsAt w va l) (hb : IntsAt w vb m) :
    Calls Tryd.prog 21 #[va, vb] w fun e w' => e = .returned (.bool (decide (l = m))) ∧ Below w.heap.size w w' := by
  obtain ⟨aa, ca, rfl, hma, hca⟩ := ha
  obtain ⟨ab, cb, rfl, hmb, hcb⟩ := hb
  obtain ⟨n, HN⟩ : ∃ n, Hid (l.length = n) := ⟨_, rfl⟩
  obtain ⟨n', HN'⟩ : ∃ n, Hid (m.length = n) := ⟨_, rfl⟩
  rw [HN.out] at hma hca ⊢
  rw [HN'.out] at hmb hcb ⊢
  have HA : Hid (0 < n → ∃ b off, aa = some ⟨b, off, none⟩ ∧ ∀ i, i < n → w.cell? ⟨b, off + i, none⟩ = some (.int .i64 (l.getD i 0))) := hca
  have HB : Hid (0 < n' → ∃ b off, ab = some ⟨b, off, none⟩ ∧ ∀ i, i < n' → w.cell? ⟨b, off + i, none⟩ = some (.int .i64 (m.getD i 0))) := hcb
  clear hca hcb
  by_cases hlen : n = n'
  · have HL : Hid (n = n') := hlen
    have hne : ((n : Int) != (n' : Int)) = false := by simp [hlen]
    clear hlen
    go_enter Tryd.func21, Tryd.ntmps21
    go_wp2
    go_loopw [5] (fun i wr => ∃ k : Nat, k ≤ n ∧ i = .int .i64 k ∧ l.take k = m.take k ∧ Below w.heap.size w wr) (fun i _ => n - (intOf i).toNat)
    case atStart => exact ⟨0, Nat.zero_le _, rfl, by simp, Below.refl _ _⟩
    case round =>
      obtain ⟨k, hk, rfl, htk, hb3⟩ := hrel
      have HT : Hid (l.take k = m.take k) := htk
      have HBel : Hid (Below w.heap.size w wr) := hb3
      clear htk hb3
      by_cases hlt : (k : Int) < (n : Int)
      · obtain ⟨b, off, rfl, hc1⟩ := HA.out (by omega)
        obtain ⟨b', off', rfl, hc2⟩ := HB.out (by have := HL.out; omega)
        obtain ⟨x, HX⟩ : ∃ x, Hid (l.getD k 0 = x) := ⟨_, rfl⟩
        obtain ⟨y, HY⟩ : ∃ y, Hid (m.getD k 0 = y) := ⟨_, rfl⟩
        have q1 := Bel.keeps HBel.out (hc1 k (by omega))
        have q2 := Bel.keeps HBel.out (hc2 k (by have := HL.out; omega))
        rw [HX.out] at q1
        rw [HY.out] at q2
        have hlt' : k < n' := by have := HL.out; omega
        clear hc1 hc2
        by_cases he : x = y
        · have hne2 : (x != y) = false := by simp [he]
          have HE : Hid (x = y) := he
          clear he
          go_wp2
          go_quiet (fail)
          go_wp2
          go_roundw
          case rel => exact ⟨k + 1, by omega, by go_num, lists_step (by have := HN.out; omega) (by have := HN'.out; omega) HT.out (by rw [HX.out, HY.out]; exact HE.out), HBel.out.trans ⟨rfl, rfl, rfl, Nat.le_refl _, fun _ _ => rfl⟩⟩
          case measure => simp [intOf]; omega
        · have hne2 : (x != y) = true := by simpa using he
          have HE : Hid (¬ x = y) := he
          clear he
          go_wp2
          go_quiet (fail)
          go_wp2
          go_ret
          exact ⟨by rw [lists_differ (k := k) (l := l) (m := m) (by rw [HX.out, HY.out]; exact HE.out)]; rfl, HBel.out.trans ⟨rfl, rfl, rfl, Nat.le_refl _, fun _ _ => rfl⟩⟩
      · have hkn : k = n := by omega
        have hd : decide (l = m) = true := lists_end (k := k) (by have := HN.out; omega) (by have := HN'.out; have := HL.out; omega) HT.out
        have HD : Hid (decide (l = m) = true) := hd
        clear hkn hd
        go_wp2
        go_ret
        exact ⟨by rw [HD.out]; rfl, HBel.out⟩
  · have hd : decide (l = m) = false := by
      simp only [decide_eq_false_iff_not]
      rintro rfl
      exact hlen (HN.out.symm.trans HN'.out)
    rw [hd]
    have hne : ((n : Int) != (n' : Int)) = true := by simp; omega
    clear hlen hd
    go_enter Tryd.func21, Tryd.ntmps21
    go_wp2
    go_ret
    exact ⟨rfl, Below.refl _ _⟩


/-- A row of numbers that lies in block b from its start: it can be written. -/
def RowNew (w : World) (b : Nat) (v : Value) (l : List Int) : Prop :=
  v = .slice (some ⟨b, 0, none⟩) l.length l.length ∧ l.length ≤ 9223372036854775807 ∧ b < w.heap.size ∧ (∀ i, i < l.length → w.cell? ⟨b, i, none⟩ = some (.int .i64 (l.getD i 0))) ∧ ∀ i, i < l.length → w.frozen? ⟨b, i, none⟩ = false

theorem RowNew.at {w : World} {b : Nat} {v : Value} {l : List Int} (h : RowNew w b v l) : IntsAt w v l := by
  obtain ⟨rfl, hm, hb, hc, hf⟩ := h
  exact ⟨_, _, rfl, hm, fun _ => ⟨b, 0, rfl, fun i hi => by simpa using hc i hi⟩⟩

theorem RowNew.keep {w w' : World} {b : Nat} {v : Value} {l : List Int} (h : RowNew w b v l) (hb : Below w.heap.size w w') : RowNew w' b v l := by
  obtain ⟨rfl, hm, hlt, hc, hf⟩ := h
  refine ⟨rfl, hm, Nat.lt_of_lt_of_le hlt hb.size, fun i hi => Bel.keeps hb (hc i hi), fun i hi => ?_⟩
  rw [hb.frozen (p := ⟨b, i, none⟩) hlt]
  exact hf i hi

/-- Nothing that was there has turned but block p. -/
structure FrB (p : Nat) (w w' : World) : Prop where
  os : w'.os = w.os
  tape : w'.tape = w.tape
  output : w'.output = w.output
  size : w.heap.size ≤ w'.heap.size
  block : ∀ k, k < w.heap.size → k ≠ p → w'.heap[k]? = w.heap[k]?

theorem FrB.refl (p : Nat) (w : World) : FrB p w w := ⟨rfl, rfl, rfl, Nat.le_refl _, fun _ _ _ => rfl⟩
theorem FrB.trans {p : Nat} {a b c : World} (h : FrB p a b) (k : FrB p b c) : FrB p a c :=
  ⟨k.os.trans h.os, k.tape.trans h.tape, k.output.trans h.output, Nat.le_trans h.size k.size, fun i hi hp => (k.block i (Nat.lt_of_lt_of_le hi h.size) hp).trans (h.block i hi hp)⟩
theorem FrB.setCell {p : Nat} {a w : World} (h : FrB p a w) (o : Nat) (u : Value) : FrB p a (w.setCell ⟨p, o, none⟩ u) :=
  h.trans ⟨rfl, rfl, rfl, by simp [World.setCell], fun k _ hp => Below.heap_setCell _ _ _ _ hp⟩
theorem FrB.below {p B : Nat} {a w : World} (h : FrB p a w) (hp : B ≤ p) (hB : B ≤ a.heap.size) : Below B a w :=
  ⟨h.os, h.tape, h.output, h.size, fun k hk => h.block k (by omega) (by omega)⟩
theorem FrB.ofBelow {p : Nat} {a w : World} (h : Below a.heap.size a w) : FrB p a w :=
  ⟨h.os, h.tape, h.output, h.size, fun k hk _ => h.block k hk⟩
theorem FrB.cell {p : Nat} {a w : World} (h : FrB p a w) {x : Addr} (hx : x.block < a.heap.size) (hp : x.block ≠ p) : w.cell? x = a.cell? x := World.cell?_of_block (w := a) (h.block x.block hx hp)
theorem FrB.frozen {p : Nat} {a w : World} (h : FrB p a w) {x : Addr} (hx : x.block < a.heap.size) (hp : x.block ≠ p) : w.frozen? x = a.frozen? x := World.frozen?_of_block (w := a) (h.block x.block hx hp)

theorem RowNew.aside {w w' : World} {b p : Nat} {v : Value} {l : List Int} (h : RowNew w b v l) (hb : FrB p w w') (hp : b ≠ p) : RowNew w' b v l := by
  obtain ⟨rfl, hm, hlt, hc, hf⟩ := h
  refine ⟨rfl, hm, Nat.lt_of_lt_of_le hlt hb.size, fun i hi => ?_, fun i hi => ?_⟩
  · rw [hb.cell (x := ⟨b, i, none⟩) hlt hp]
    exact hc i hi
  · rw [hb.frozen (x := ⟨b, i, none⟩) hlt hp]
    exact hf i hi

/-- The numbers from k on. -/
def marks (k : Int) (n : Nat) : List Int := (List.range n).map (fun (i : Nat) => k + (i : Int))
theorem marks_len (k : Int) (n : Nat) : (marks k n).length = n := by simp [marks]
theorem marks_at (k : Int) (n i : Nat) (h : i < n) : (marks k n).getD i 0 = k + (i : Int) := by simp [marks, List.getD, h]

set_option maxHeartbeats 1000000 in
theorem markIntS_any (b : Nat) (v : Value) (l : List Int) (q : Int) (w : World) (hr : RowNew w b v l) (hq : 0 ≤ q) (hq2 : q + l.length ≤ 9223372036854775807) :
    Calls Tryd.prog 23 #[v, .int .i64 q] w fun e w' => e = .returned (.int .i64 (q + l.length)) ∧ FrB b w w' ∧ RowNew w' b v (marks q l.length) := by
  obtain ⟨rfl, hm, hlt, hc, hf⟩ := hr
  obtain ⟨n, HN⟩ : ∃ n, Hid (l.length = n) := ⟨_, rfl⟩
  rw [HN.out] at hm hq2 hc hf ⊢
  have HC : Hid (∀ i, i < n → w.cell? ⟨b, i, none⟩ = some (.int .i64 (l.getD i 0))) := hc
  have HF : Hid (∀ i, i < n → w.frozen? ⟨b, i, none⟩ = false) := hf
  clear hc hf
  go_enter Tryd.func23, Tryd.ntmps23
  go_wp2
  go_loopw [1, 5] (fun kv i wr => ∃ k : Nat, k ≤ n ∧ i = .int .i64 k ∧ kv = .int .i64 (q + k) ∧ FrB b w wr ∧ (∀ j, j < k → wr.cell? ⟨b, j, none⟩ = some (.int .i64 (q + j))) ∧ (∀ j, k ≤ j → j < n → ∃ x, wr.cell? ⟨b, j, none⟩ = some (.int .i64 x)) ∧ (∀ j, j < n → wr.frozen? ⟨b, j, none⟩ = false)) (fun _ i _ => n - (intOf i).toNat)
  case atStart => exact ⟨0, Nat.zero_le _, rfl, by go_num, FrB.refl _ _, by omega, fun j _ hj => ⟨_, HC.out j hj⟩, HF.out⟩
  case round =>
    obtain ⟨k, hk, rfl, rfl, hfr, hdone, hleft, hfz⟩ := hrel
    have H1 : Hid (FrB b w wr) := hfr
    have H2 : Hid (∀ j, j < k → wr.cell? ⟨b, j, none⟩ = some (.int .i64 (q + j))) := hdone
    have H3 : Hid (∀ j, k ≤ j → j < n → ∃ x, wr.cell? ⟨b, j, none⟩ = some (.int .i64 x)) := hleft
    have H4 : Hid (∀ j, j < n → wr.frozen? ⟨b, j, none⟩ = false) := hfz
    clear hfr hdone hleft hfz
    by_cases hlt2 : (k : Int) < (n : Int)
    · obtain ⟨x, q1⟩ := H3.out k (Nat.le_refl _) (by omega)
      have q2 := H4.out k (by omega)
      go_wp2
      go_roundw
      case rel =>
        refine ⟨k + 1, by omega, by go_num, by go_num, H1.out.setCell _ _, fun j hj => ?_, fun j hj hj2 => ?_, fun j hj => ?_⟩
        · by_cases hjk : j = k
          · subst hjk
            exact World.cell?_setCell_same _ _ _ q1
          · rw [World.cell?_setCell_other _ _ _ _ (by simp <;> omega)]
            exact H2.out j (by omega)
        · rw [World.cell?_setCell_other _ _ _ _ (by simp <;> omega)]
          exact H3.out j (by omega) hj2
        · simpa using H4.out j hj
      case measure => simp [intOf]; omega
    · have hkn : k = n := by omega
      subst hkn
      go_wp2
      go_ret
      refine ⟨rfl, H1.out, by rw [marks_len], by rw [marks_len]; exact hm, Nat.lt_of_lt_of_le hlt H1.out.size, fun i hi => ?_, fun i hi => ?_⟩
      · rw [marks_len] at hi
        rw [marks_at _ _ _ hi]
        exact H2.out i hi
      · rw [marks_len] at hi
        exact H4.out i hi

set_option maxHeartbeats 1000000 in
theorem heldIntS_any (v : Value) (n : Nat) (q : Int) (w : World) (hr : IntsAt w v (marks q n)) (hq : 0 ≤ q) (hq2 : q + n ≤ 9223372036854775807) :
    Calls Tryd.prog 24 #[v, .int .i64 q] w fun e w' => e = .returned (.int .i64 (q + n)) ∧ w' = w := by
  obtain ⟨a, cap, rfl, hm, hc⟩ := hr
  rw [marks_len] at hm hc ⊢
  have HC : Hid (0 < n → ∃ b off, a = some ⟨b, off, none⟩ ∧ ∀ i, i < n → w.cell? ⟨b, off + i, none⟩ = some (.int .i64 ((marks q n).getD i 0))) := hc
  clear hc
  go_enter Tryd.func24, Tryd.ntmps24
  go_wp2
  go_loop [1, 5] (fun kv i => ∃ k : Nat, k ≤ n ∧ i = .int .i64 k ∧ kv = .int .i64 (q + k)) (fun _ i => n - (intOf i).toNat)
  case atStart => exact ⟨0, Nat.zero_le _, rfl, by go_num⟩
  case round =>
    obtain ⟨k, hk, rfl, rfl⟩ := hrel
    by_cases hlt2 : (k : Int) < (n : Int)
    · obtain ⟨b, off, rfl, hc1⟩ := HC.out (by omega)
      have q1 := hc1 k (by omega)
      rw [marks_at _ _ _ (by omega)] at q1
      clear hc1
      go_wp2
      go_round
      case rel => exact ⟨k + 1, by omega, by go_num, by go_num⟩
      case measure => simp [intOf]; omega
    · have hkn : k = n := by omega
      subst hkn
      go_wp2
      go_ret
      exact ⟨rfl, rfl⟩
end Go.Proofs.YtebcocehdjoafaaDoor
