/- The places of a program's numbers, in the order in which they are marked; and that marks hold where no two places are one. No two places of a program are one, where each list has a block of memory of its own. A program in memory each of whose lists has a block of memory of its own. -/
import Derived.Test.YthdioeeanodjiaaDoorKMk
namespace Go.Proofs.YthdioeeanodjiaaDoor
open Go.ChangeShapes Go.WideShapes Go.ChangeAt Go.RowKit
set_option linter.unusedVariables false

abbrev Spot := Nat × Nat
def spotA (s : Spot) : Addr := ⟨s.1, s.2, none⟩
/-- A row of n elements. -/
def rowS (f : Nat → List Spot) (n : Nat) : List Spot := (List.range n).flatMap f
theorem rowS_zero (f : Nat → List Spot) : rowS f 0 = [] := rfl
theorem rowS_succ (f : Nat → List Spot) (n : Nat) : rowS f (n + 1) = rowS f n ++ f n := by simp [rowS, List.range_succ]
theorem rowS_pre (f : Nat → List Spot) : ∀ {n k : Nat}, k ≤ n → ∃ R, rowS f n = rowS f k ++ R
  | 0, k, h => ⟨[], by rw [show k = 0 by omega]; simp⟩
  | n + 1, k, h => by
    by_cases e : k = n + 1
    · exact ⟨[], by rw [e]; simp⟩
    · obtain ⟨R, hR⟩ := rowS_pre f (n := n) (k := k) (by omega)
      exact ⟨R ++ f n, by rw [rowS_succ, hR, List.append_assoc]⟩
theorem rowS_len {f : Nat → List Spot} {c : Nat} : ∀ {n : Nat}, (∀ i, i < n → (f i).length ≤ c) → (rowS f n).length ≤ n * c
  | 0, _ => by simp [rowS]
  | n + 1, h => by
    rw [rowS_succ, List.length_append, Nat.succ_mul]
    exact Nat.add_le_add (rowS_len fun i hi => h i (by omega)) (h n (by omega))
theorem rowS_nodup {f : Nat → List Spot} {n k : Nat} (h : (rowS f n).Nodup) (hk : k < n) : (rowS f k ++ f k).Nodup := by
  obtain ⟨R, hR⟩ := rowS_pre f (n := n) (k := k + 1) (by omega)
  rw [hR, rowS_succ] at h
  exact (List.nodup_append.1 h).1

/-- Where a list lies: block, begin, how many. -/
structure RowT where
  b : Nat
  off : Nat
  n : Nat
structure PhisT where
  b : Nat
  off : Nat
  n : Nat
  arms : Nat → RowT
structure BlocksT where
  b : Nat
  off : Nat
  n : Nat
  phis : Nat → PhisT
  list : Nat → RowT
def armE (b o : Nat) : List Spot := [(b, o), (b, o + 1)]
def insE (b o : Nat) : List Spot := [(b, o), (b, o + 1), (b, o + 2), (b, o + 3), (b, o + 4)]
def armsSp (t : RowT) : List Spot := rowS (fun i => armE t.b (t.off + i * 2)) t.n
def insSp (t : RowT) : List Spot := rowS (fun i => insE t.b (t.off + i * 5)) t.n
def phiE (t : PhisT) (i : Nat) : List Spot := (t.b, t.off + i * 2) :: armsSp (t.arms i)
def phisSp (t : PhisT) : List Spot := rowS (phiE t) t.n
def blockE (t : BlocksT) (i : Nat) : List Spot := phisSp (t.phis i) ++ insSp (t.list i) ++ [(t.b, t.off + i * 6 + 2), (t.b, t.off + i * 6 + 3), (t.b, t.off + i * 6 + 4), (t.b, t.off + i * 6 + 5)]
def blocksSp (t : BlocksT) : List Spot := rowS (blockE t) t.n

def SliceIs (v : Value) (b off n : Nat) : Prop := ∃ a cap, v = .slice a n cap ∧ (0 < n → a = some ⟨b, off, none⟩)
structure ArmsTr (lo hi : Nat) (w : World) (v : Value) (t : RowT) : Prop where
  is : SliceIs v t.b t.off t.n
  small : t.n ≤ 1048576
  inn : 0 < t.n → lo ≤ t.b ∧ t.b < hi
  fz : 0 < t.n → ∀ j, w.frozen? ⟨t.b, j, none⟩ = false
  at_ : ∀ i, i < t.n → ArmM w t.b (t.off + i * 2)
structure InsTr (lo hi : Nat) (w : World) (v : Value) (t : RowT) : Prop where
  is : SliceIs v t.b t.off t.n
  small : t.n ≤ 1048576
  inn : 0 < t.n → lo ≤ t.b ∧ t.b < hi
  fz : 0 < t.n → ∀ j, w.frozen? ⟨t.b, j, none⟩ = false
  at_ : ∀ i, i < t.n → InsM w t.b (t.off + i * 5)
structure PhisTr (lo hi : Nat) (w : World) (v : Value) (t : PhisT) : Prop where
  is : SliceIs v t.b t.off t.n
  small : t.n ≤ 1048576
  inn : 0 < t.n → lo ≤ t.b ∧ t.b < hi
  fz : 0 < t.n → ∀ j, w.frozen? ⟨t.b, j, none⟩ = false
  num : ∀ i, i < t.n → NumAt w t.b (t.off + i * 2)
  arms : ∀ i, i < t.n → ∃ sv, w.cell? ⟨t.b, t.off + i * 2 + 1, none⟩ = some sv ∧ ArmsTr lo hi w sv (t.arms i)
structure BlocksTr (lo hi : Nat) (w : World) (v : Value) (t : BlocksT) : Prop where
  is : SliceIs v t.b t.off t.n
  small : t.n ≤ 1048576
  inn : 0 < t.n → lo ≤ t.b ∧ t.b < hi
  fz : 0 < t.n → ∀ j, w.frozen? ⟨t.b, j, none⟩ = false
  num : ∀ i, i < t.n → NumAt w t.b (t.off + i * 6 + 2) ∧ NumAt w t.b (t.off + i * 6 + 3) ∧ NumAt w t.b (t.off + i * 6 + 4) ∧ NumAt w t.b (t.off + i * 6 + 5)
  phis : ∀ i, i < t.n → ∃ sv, w.cell? ⟨t.b, t.off + i * 6, none⟩ = some sv ∧ PhisTr lo hi w sv (t.phis i)
  list : ∀ i, i < t.n → ∃ sv, w.cell? ⟨t.b, t.off + i * 6 + 1, none⟩ = some sv ∧ InsTr lo hi w sv (t.list i)

/-- Numbers stay numbers, lists stay. -/
structure Stays (w w' : World) : Prop where
  num : ∀ p z, w.cell? p = some (.int .i64 z) → ∃ z', w'.cell? p = some (.int .i64 z')
  list : ∀ p a n c, w.cell? p = some (.slice a n c) → w'.cell? p = some (.slice a n c)
  fz : ∀ (b o j : Nat) (z : Value), w.cell? ⟨b, o, none⟩ = some z → w'.frozen? ⟨b, j, none⟩ = w.frozen? ⟨b, j, none⟩
theorem Turns.stays {lo hi : Nat} {w w' : World} (h : Turns lo hi w w') : Stays w w' := ⟨h.num, h.list, fun b o j z _ => h.fz _⟩
theorem Stays.below {w w' : World} (h : Below w.heap.size w w') : Stays w w' := ⟨fun p z hz => ⟨z, Bel.keeps h hz⟩, fun p a n c hl => Bel.keeps h hl, fun b o j z hz => h.frozen (p := ⟨b, j, none⟩) (World.block_lt_of_cell? w ⟨b, o, none⟩ hz)⟩
theorem NumAt.stay {w w' : World} (h : Stays w w') {b o : Nat} (hn : NumAt w b o) : NumAt w' b o := by
  obtain ⟨z, hz⟩ := hn
  exact h.num _ z hz
theorem ArmsTr.stay {lo hi : Nat} {w w' : World} {v : Value} {t : RowT} (h : ArmsTr lo hi w v t) (s : Stays w w') : ArmsTr lo hi w' v t :=
  ⟨h.is, h.small, h.inn, fun h0 j => by obtain ⟨⟨z, hz⟩, _⟩ := h.at_ 0 h0; exact (s.fz _ _ j _ hz).trans (h.fz h0 j), fun i hi => ⟨(h.at_ i hi).1.stay s, (h.at_ i hi).2.stay s⟩⟩
theorem InsTr.stay {lo hi : Nat} {w w' : World} {v : Value} {t : RowT} (h : InsTr lo hi w v t) (s : Stays w w') : InsTr lo hi w' v t :=
  ⟨h.is, h.small, h.inn, fun h0 j => by obtain ⟨⟨z, hz⟩, _⟩ := h.at_ 0 h0; exact (s.fz _ _ j _ hz).trans (h.fz h0 j), fun i hi => by obtain ⟨h0, h1, h2, h3, h4⟩ := h.at_ i hi; exact ⟨h0.stay s, h1.stay s, h2.stay s, h3.stay s, h4.stay s⟩⟩
theorem PhisTr.stay {lo hi : Nat} {w w' : World} {v : Value} {t : PhisT} (h : PhisTr lo hi w v t) (s : Stays w w') : PhisTr lo hi w' v t :=
  ⟨h.is, h.small, h.inn, fun h0 j => by obtain ⟨z, hz⟩ := h.num 0 h0; exact (s.fz _ _ j _ hz).trans (h.fz h0 j), fun i hi => (h.num i hi).stay s, fun i hi => by
    obtain ⟨sv, hc, ha⟩ := h.arms i hi
    obtain ⟨a, cap, rfl, _⟩ := ha.is
    exact ⟨_, s.list _ _ _ _ hc, ha.stay s⟩⟩
theorem BlocksTr.stay {lo hi : Nat} {w w' : World} {v : Value} {t : BlocksT} (h : BlocksTr lo hi w v t) (s : Stays w w') : BlocksTr lo hi w' v t :=
  ⟨h.is, h.small, h.inn, fun h0 j => by obtain ⟨⟨z, hz⟩, _⟩ := h.num 0 h0; exact (s.fz _ _ j _ hz).trans (h.fz h0 j), fun i hi => by obtain ⟨h0, h1, h2, h3⟩ := h.num i hi; exact ⟨h0.stay s, h1.stay s, h2.stay s, h3.stay s⟩, fun i hi => by
    obtain ⟨sv, hc, ha⟩ := h.phis i hi
    obtain ⟨a, cap, rfl, _⟩ := ha.is
    exact ⟨_, s.list _ _ _ _ hc, ha.stay s⟩, fun i hi => by
    obtain ⟨sv, hc, ha⟩ := h.list i hi
    obtain ⟨a, cap, rfl, _⟩ := ha.is
    exact ⟨_, s.list _ _ _ _ hc, ha.stay s⟩⟩

/-- At these places stand q, q + 1, .. -/
def Has (w : World) (L : List Spot) (q : Int) : Prop := ∀ (j : Nat) (s : Spot), L[j]? = some s → w.cell? (spotA s) = some (.int .i64 (q + (j : Int)))
theorem Has.app {w : World} {L M : List Spot} {q : Int} : Has w (L ++ M) q ↔ Has w L q ∧ Has w M (q + L.length) := by
  refine ⟨fun h => ⟨fun j s hj => h j s ?_, fun j s hj => ?_⟩, fun ⟨h, k⟩ j s hj => ?_⟩
  · rw [List.getElem?_append_left (List.getElem?_eq_some_iff.1 hj).1]
    exact hj
  · have := h (L.length + j) s (by rw [List.getElem?_append_right (by omega)]; simpa using hj)
    rw [this]
    congr 2
    push_cast
    omega
  · by_cases e : j < L.length
    · rw [List.getElem?_append_left e] at hj
      exact h j s hj
    · rw [List.getElem?_append_right (by omega)] at hj
      rw [k _ _ hj]
      congr 2
      omega
theorem Has.nil (w : World) (q : Int) : Has w [] q := fun j s h => by simp at h
theorem Has.keep {w w' : World} {L : List Spot} {q : Int} (h : Has w L q) (hb : Below w.heap.size w w') : Has w' L q := fun j s hj => Bel.keeps hb (h j s hj)
/-- These places were written with q, q + 1, .., nothing else was. -/
structure Wrote (lo hi : Nat) (L : List Spot) (q : Int) (w w' : World) : Prop where
  turns : Turns lo hi w w'
  has : Has w' L q
  off : ∀ s : Spot, s ∉ L → w'.cell? (spotA s) = w.cell? (spotA s)
theorem Wrote.refl (lo hi : Nat) (q : Int) (w : World) : Wrote lo hi [] q w w := ⟨Turns.refl _ _ _, Has.nil _ _, fun _ _ => rfl⟩
theorem Wrote.trans {lo hi : Nat} {L M : List Spot} {q : Int} {a b c : World} (h : Wrote lo hi L q a b) (k : Wrote lo hi M (q + L.length) b c) (hd : (L ++ M).Nodup) : Wrote lo hi (L ++ M) q a c := by
  have hx := (List.nodup_append.1 hd).2.2
  refine ⟨h.turns.trans k.turns, Has.app.2 ⟨fun j s hj => ?_, k.has⟩, fun s hs => ?_⟩
  · rw [k.off s (fun hm => hx s (List.mem_of_getElem? hj) s hm rfl)]
    exact h.has j s hj
  · rw [k.off s (fun hm => hs (List.mem_append.2 (.inr hm))), h.off s (fun hm => hs (List.mem_append.2 (.inl hm)))]
theorem Wrote.put {lo hi : Nat} {q : Int} {w : World} {b o : Nat} {z : Int} (hc : w.cell? ⟨b, o, none⟩ = some (.int .i64 z)) (h1 : lo ≤ b) (h2 : b < hi) : Wrote lo hi [(b, o)] q w (w.setCell ⟨b, o, none⟩ (.int .i64 q)) := by
  refine ⟨(Turns.refl lo hi w).put hc h1 h2 q, fun j s hj => ?_, fun s hs => ?_⟩
  · have hj0 : j = 0 := by have := (List.getElem?_eq_some_iff.1 hj).1; simp at this; omega
    subst hj0
    simp at hj
    subst hj
    rw [show spotA (b, o) = ⟨b, o, none⟩ from rfl, World.cell?_setCell_same _ _ _ hc]
    simp
  · refine World.cell?_setCell_other _ _ _ _ (fun e => hs ?_)
    have e1 : b = s.1 := congrArg Addr.block e
    have e2 : o = s.2 := congrArg Addr.off e
    subst e1
    subst e2
    simp
/-- One more place is written. -/
theorem Wrote.more {lo hi : Nat} {L : List Spot} {q : Int} {a w : World} (h : Wrote lo hi L q a w) {b o : Nat} {z x : Int} (hc : w.cell? ⟨b, o, none⟩ = some (.int .i64 z)) (h1 : lo ≤ b) (h2 : b < hi) (hd : (L ++ [(b, o)]).Nodup) (hx : x = q + L.length) : Wrote lo hi (L ++ [(b, o)]) q a (w.setCell ⟨b, o, none⟩ (.int .i64 x)) := by
  subst hx
  exact h.trans (Wrote.put hc h1 h2) hd
end Go.Proofs.YthdioeeanodjiaaDoor

namespace Go.Proofs.YthdioeeanodjiaaDoor
set_option linter.unusedVariables false

theorem rowS_mem {f : Nat → List Spot} {s : Spot} : ∀ {n : Nat}, s ∈ rowS f n → ∃ i, i < n ∧ s ∈ f i
  | 0, h => by simp [rowS] at h
  | n + 1, h => by
    rw [rowS_succ] at h
    rcases List.mem_append.1 h with h | h
    · obtain ⟨i, hi, hs⟩ := rowS_mem h
      exact ⟨i, by omega, hs⟩
    · exact ⟨n, by omega, h⟩
theorem rowS_nodup_of {f : Nat → List Spot} : ∀ {n : Nat}, (∀ i, i < n → (f i).Nodup) → (∀ i j, i < j → j < n → ∀ s, s ∈ f i → s ∈ f j → False) → (rowS f n).Nodup
  | 0, _, _ => by simp [rowS]
  | n + 1, h, k => by
    rw [rowS_succ]
    refine List.nodup_append.2 ⟨rowS_nodup_of (fun i hi => h i (by omega)) (fun i j hij hj => k i j hij (by omega)), h n (by omega), fun s hs s' hs' e => ?_⟩
    subst e
    obtain ⟨i, hi, hm⟩ := rowS_mem hs
    exact k i n hi (by omega) s hm hs'
theorem armsSp_mem {t : RowT} {s : Spot} (h : s ∈ armsSp t) : 0 < t.n ∧ s.1 = t.b := by
  obtain ⟨i, hi, hm⟩ := rowS_mem h
  simp [armE] at hm
  refine ⟨by omega, ?_⟩
  rcases hm with rfl | rfl <;> rfl
theorem insSp_mem {t : RowT} {s : Spot} (h : s ∈ insSp t) : 0 < t.n ∧ s.1 = t.b := by
  obtain ⟨i, hi, hm⟩ := rowS_mem h
  simp [insE] at hm
  refine ⟨by omega, ?_⟩
  rcases hm with rfl | rfl | rfl | rfl | rfl <;> rfl
theorem armsSp_nodup (t : RowT) : (armsSp t).Nodup := by
  refine rowS_nodup_of (fun i hi => by simp [armE]) (fun i j hij hj s h1 h2 => ?_)
  simp [armE] at h1 h2
  rcases h1 with rfl | rfl <;> rcases h2 with h2 | h2 <;> simp at h2 <;> omega
theorem insSp_nodup (t : RowT) : (insSp t).Nodup := by
  refine rowS_nodup_of (fun i hi => by simp [insE]) (fun i j hij hj s h1 h2 => ?_)
  simp [insE] at h1 h2
  rcases h1 with rfl | rfl | rfl | rfl | rfl <;> rcases h2 with h2 | h2 | h2 | h2 | h2 <;> simp at h2 <;> omega

/-- Whose a block of memory is: the row of blocks, the phis or the list of a block, the arms of a phi. -/
structure OwnT (own : Nat → Nat × Nat × Nat) (t : BlocksT) : Prop where
  rows : 0 < t.n → own t.b = (0, 0, 0)
  phis : ∀ i, i < t.n → 0 < (t.phis i).n → own (t.phis i).b = (1, i, 0)
  list : ∀ i, i < t.n → 0 < (t.list i).n → own (t.list i).b = (2, i, 0)
  arms : ∀ i, i < t.n → ∀ j, j < (t.phis i).n → 0 < ((t.phis i).arms j).n → own ((t.phis i).arms j).b = (3, i, j)
theorem OwnT.phiMem {own : Nat → Nat × Nat × Nat} {t : BlocksT} (h : OwnT own t) {i : Nat} (hi : i < t.n) {j : Nat} (hj : j < (t.phis i).n) {s : Spot} (hs : s ∈ phiE (t.phis i) j) : (own s.1 = (1, i, 0) ∧ s.2 = (t.phis i).off + j * 2) ∨ own s.1 = (3, i, j) := by
  unfold phiE at hs
  rcases List.mem_cons.1 hs with rfl | hs
  · exact .inl ⟨h.phis i hi (by omega), rfl⟩
  · obtain ⟨h1, h2⟩ := armsSp_mem hs
    rw [h2]
    exact .inr (h.arms i hi j hj h1)
theorem OwnT.phisMem {own : Nat → Nat × Nat × Nat} {t : BlocksT} (h : OwnT own t) {i : Nat} (hi : i < t.n) {s : Spot} (hs : s ∈ phisSp (t.phis i)) : own s.1 = (1, i, 0) ∨ ∃ j, own s.1 = (3, i, j) := by
  obtain ⟨j, hj, hm⟩ := rowS_mem hs
  rcases h.phiMem hi hj hm with h1 | h1
  · exact .inl h1.1
  · exact .inr ⟨j, h1⟩
theorem OwnT.phisNodup {own : Nat → Nat × Nat × Nat} {t : BlocksT} (h : OwnT own t) {i : Nat} (hi : i < t.n) : (phisSp (t.phis i)).Nodup := by
  refine rowS_nodup_of (fun j hj => ?_) (fun j k hjk hk s h1 h2 => ?_)
  · unfold phiE
    refine List.nodup_cons.2 ⟨fun hm => ?_, armsSp_nodup _⟩
    obtain ⟨h1, h2⟩ := armsSp_mem hm
    have h3 := h.arms i hi j hj h1
    rw [← h2] at h3
    have h4 := h.phis i hi (by omega)
    rw [show ((t.phis i).b, (t.phis i).off + j * 2).1 = (t.phis i).b from rfl, h4] at h3
    simp at h3
  · rcases h.phiMem hi (by omega) h1 with ⟨a1, a2⟩ | a1 <;> rcases h.phiMem hi hk h2 with ⟨b1, b2⟩ | b1
    · omega
    · rw [a1] at b1; simp at b1
    · rw [a1] at b1; simp at b1
    · rw [a1] at b1; simp at b1; omega
theorem OwnT.blockMem {own : Nat → Nat × Nat × Nat} {t : BlocksT} (h : OwnT own t) {i : Nat} (hi : i < t.n) {s : Spot} (hs : s ∈ blockE t i) : (∃ c j, own s.1 = (c + 1, i, j)) ∨ (own s.1 = (0, 0, 0) ∧ t.off + i * 6 + 2 ≤ s.2 ∧ s.2 ≤ t.off + i * 6 + 5) := by
  unfold blockE at hs
  rcases List.mem_append.1 hs with hs | hs
  · rcases List.mem_append.1 hs with hs | hs
    · rcases h.phisMem hi hs with h1 | ⟨j, h1⟩
      · exact .inl ⟨0, 0, h1⟩
      · exact .inl ⟨2, j, h1⟩
    · obtain ⟨h1, h2⟩ := insSp_mem hs
      exact .inl ⟨1, 0, by rw [h2]; exact h.list i hi h1⟩
  · have h0 := h.rows (by omega)
    simp at hs
    rcases hs with rfl | rfl | rfl | rfl <;> exact .inr ⟨h0, by simp, by simp⟩
theorem OwnT.nodup {own : Nat → Nat × Nat × Nat} {t : BlocksT} (h : OwnT own t) : (blocksSp t).Nodup := by
  refine rowS_nodup_of (fun i hi => ?_) (fun i j hij hj s h1 h2 => ?_)
  · unfold blockE
    refine List.nodup_append.2 ⟨List.nodup_append.2 ⟨h.phisNodup hi, insSp_nodup _, fun s hs s' hs' e => ?_⟩, by simp, fun s hs s' hs' e => ?_⟩
    · subst e
      obtain ⟨h1, h2⟩ := insSp_mem hs'
      have h3 := h.list i hi h1
      rw [← h2] at h3
      rcases h.phisMem hi hs with h4 | ⟨j, h4⟩ <;> (rw [h3] at h4; simp at h4)
    · subst e
      have h0 := h.rows (by omega)
      have h5 : own s.1 = (0, 0, 0) := by
        simp at hs'
        rcases hs' with rfl | rfl | rfl | rfl <;> exact h0
      rcases List.mem_append.1 hs with hs | hs
      · rcases h.phisMem hi hs with h4 | ⟨j, h4⟩ <;> (rw [h5] at h4; simp at h4)
      · obtain ⟨h1, h2⟩ := insSp_mem hs
        have h3 := h.list i hi h1
        rw [← h2, h5] at h3
        simp at h3
  · rcases h.blockMem (by omega) h1 with ⟨c, d, a1⟩ | ⟨a1, a2, a3⟩ <;> rcases h.blockMem hj h2 with ⟨c', d', b1⟩ | ⟨b1, b2, b3⟩
    · rw [a1] at b1; simp at b1; omega
    · rw [a1] at b1; simp at b1
    · rw [a1] at b1; simp at b1
    · omega
end Go.Proofs.YthdioeeanodjiaaDoor

namespace Go.Proofs.YthdioeeanodjiaaDoor
open Go.ChangeShapes Go.WideShapes Go.ChangeAt Go.RowKit
set_option linter.unusedVariables false

/-- Whose a block of memory is: 0 the row of blocks, 1 the phis, 2 the list of a block, 3 the arms of a phi; more: nobody's. -/
abbrev OwnF := Nat → Nat × Nat × Nat

/-- A slice whose elements, of k cells each, lie in a block of which S holds. -/
def ListO {α : Type} (S : Nat → Prop) (k : Nat) (E : Nat → World → Nat → Nat → α → Prop) (w : World) (v : Value) (l : List α) : Prop :=
  ∃ (a : Option Addr) (cap : Nat), v = .slice a l.length cap ∧ l.length ≤ 9223372036854775807 ∧ (0 < l.length → ∃ b off, a = some ⟨b, off, none⟩ ∧ S b ∧ ∀ i x, l[i]? = some x → E i w b (off + i * k) x)
theorem ListO.imp {α : Type} {S S' : Nat → Prop} {k : Nat} {E E' : Nat → World → Nat → Nat → α → Prop} {w w' : World} {v : Value} {l : List α} (h : ListO S k E w v l) (hS : ∀ b, S b → S' b) (hE : ∀ i b o x, S b → l[i]? = some x → E i w b o x → E' i w' b o x) : ListO S' k E' w' v l := by
  obtain ⟨a, cap, rfl, hm, hc⟩ := h
  refine ⟨a, cap, rfl, hm, fun hp => ?_⟩
  obtain ⟨b, off, rfl, hb, hd⟩ := hc hp
  exact ⟨b, off, rfl, hS b hb, fun i x hi => hE _ _ _ _ hb hi (hd i x hi)⟩
theorem ListO.nil {α : Type} {S : Nat → Prop} {k : Nat} {E : Nat → World → Nat → Nat → α → Prop} {w : World} (a : Option Addr) (c : Nat) : ListO S k E w (.slice a 0 c) ([] : List α) :=
  ⟨a, c, rfl, by simp, fun h => absurd h (by simp)⟩
theorem ListO.is {α : Type} {S : Nat → Prop} {k : Nat} {E : Nat → World → Nat → Nat → α → Prop} {w : World} {v : Value} {l : List α} (h : ListO S k E w v l) : ∃ a cap, v = .slice a l.length cap := by
  obtain ⟨a, cap, rfl, _⟩ := h
  exact ⟨a, cap, rfl⟩
theorem ListO.get {α : Type} {S : Nat → Prop} {k : Nat} {E : Nat → World → Nat → Nat → α → Prop} {w : World} {a : Option Addr} {n cap : Nat} {l : List α} (h : ListO S k E w (.slice a n cap) l) {i : Nat} {x : α} (hx : l[i]? = some x) : ∃ b off, a = some ⟨b, off, none⟩ ∧ S b ∧ E i w b (off + i * k) x := by
  obtain ⟨a0, cap0, e, _, hc⟩ := h
  simp at e
  have hk := (List.getElem?_eq_some_iff.1 hx).1
  obtain ⟨b, off, ha, hS, hd⟩ := hc (by omega)
  exact ⟨b, off, e.1.trans ha, hS, hd i x hx⟩
theorem ListO.at {α : Type} {S : Nat → Prop} {k : Nat} {E : Nat → World → Nat → Nat → α → Prop} {lo : Nat} {E' : World → Nat → Nat → α → Prop} {w : World} {v : Value} {l : List α} (h : ListO S k E w v l) (hS : ∀ b, S b → lo ≤ b) (hE : ∀ i b o x, S b → E i w b o x → E' w b o x) : ListAt lo k E' w v l := by
  obtain ⟨a, cap, rfl, hm, hc⟩ := h
  refine ⟨a, cap, rfl, hm, fun hp => ?_⟩
  obtain ⟨b, off, rfl, hb, hd⟩ := hc hp
  exact ⟨b, off, rfl, hS b hb, fun i x hi => hE _ _ _ _ hb (hd i x hi)⟩

def PhiO (own : OwnF) (i j : Nat) (w : World) (b o : Nat) (x : PhiD) : Prop := w.cell? ⟨b, o, none⟩ = some (.int .i64 x.d) ∧ ∃ av, w.cell? ⟨b, o + 1, none⟩ = some av ∧ ListO (fun g => own g = (3, i, j)) 2 (fun _ => ArmAt) w av x.arms
def BlockO (own : OwnF) (i : Nat) (w : World) (b o : Nat) (x : BlockD) : Prop :=
  ∃ pv lv, w.cell? ⟨b, o, none⟩ = some pv ∧ w.cell? ⟨b, o + 1, none⟩ = some lv ∧ w.cell? ⟨b, o + 2, none⟩ = some (.int .i64 x.term.k) ∧ w.cell? ⟨b, o + 3, none⟩ = some (.int .i64 x.term.a) ∧ w.cell? ⟨b, o + 4, none⟩ = some (.int .i64 x.term.t) ∧ w.cell? ⟨b, o + 5, none⟩ = some (.int .i64 x.term.e) ∧
    ListO (fun g => own g = (1, i, 0)) 2 (PhiO own i) w pv x.phis ∧ ListO (fun g => own g = (2, i, 0)) 5 (fun _ => InsAt) w lv x.list

/-- Blocks in memory, each list in a block of its own; all of these from lo on. -/
structure FnO (lo : Nat) (own : OwnF) (w : World) (bv : Value) (bs : List BlockD) : Prop where
  rows : ListO (fun g => own g = (0, 0, 0)) 6 (BlockO own) w bv bs
  low : ∀ g, (own g).1 ≤ 3 → lo ≤ g
  high : ∀ g, (own g).1 ≤ 3 → g < w.heap.size
  thaw : ∀ g, (own g).1 ≤ 3 → ∀ j, w.frozen? ⟨g, j, none⟩ = false

theorem cell_same {w w' : World} {g : Nat} (h : w'.heap[g]? = w.heap[g]?) (o : Nat) : w'.cell? ⟨g, o, none⟩ = w.cell? ⟨g, o, none⟩ := by simp only [World.cell?, h]
theorem frozen_same {w w' : World} {g : Nat} (h : w'.heap[g]? = w.heap[g]?) (o : Nat) : w'.frozen? ⟨g, o, none⟩ = w.frozen? ⟨g, o, none⟩ := by simp only [World.frozen?, h]
theorem ArmAt.same {w w' : World} {b o : Nat} {x : ArmD} (h : ArmAt w b o x) (hs : w'.heap[b]? = w.heap[b]?) : ArmAt w' b o x := ⟨(cell_same hs _).trans h.1, (cell_same hs _).trans h.2⟩
theorem InsAt.same {w w' : World} {b o : Nat} {x : InsD} (h : InsAt w b o x) (hs : w'.heap[b]? = w.heap[b]?) : InsAt w' b o x := ⟨(cell_same hs _).trans h.1, (cell_same hs _).trans h.2.1, (cell_same hs _).trans h.2.2.1, (cell_same hs _).trans h.2.2.2.1, (cell_same hs _).trans h.2.2.2.2⟩
theorem arms_same {own : OwnF} {c : Nat × Nat × Nat} {w w' : World} {v : Value} {l : List ArmD} (h : ListO (fun g => own g = c) 2 (fun _ => ArmAt) w v l) (hs : ∀ g, own g = c → w'.heap[g]? = w.heap[g]?) : ListO (fun g => own g = c) 2 (fun _ => ArmAt) w' v l := h.imp (fun _ h => h) (fun i b o x hb _ hx => hx.same (hs b hb))
theorem ins_same {own : OwnF} {c : Nat × Nat × Nat} {w w' : World} {v : Value} {l : List InsD} (h : ListO (fun g => own g = c) 5 (fun _ => InsAt) w v l) (hs : ∀ g, own g = c → w'.heap[g]? = w.heap[g]?) : ListO (fun g => own g = c) 5 (fun _ => InsAt) w' v l := h.imp (fun _ h => h) (fun i b o x hb _ hx => hx.same (hs b hb))
theorem PhiO.same {own : OwnF} {i j : Nat} {w w' : World} {b o : Nat} {x : PhiD} (h : PhiO own i j w b o x) (hb : w'.heap[b]? = w.heap[b]?) (hs : ∀ g, own g = (3, i, j) → w'.heap[g]? = w.heap[g]?) : PhiO own i j w' b o x := by
  obtain ⟨h0, av, h1, h2⟩ := h
  exact ⟨(cell_same hb _).trans h0, av, (cell_same hb _).trans h1, arms_same h2 hs⟩
theorem phis_same {own : OwnF} {i : Nat} {w w' : World} {v : Value} {l : List PhiD} (h : ListO (fun g => own g = (1, i, 0)) 2 (PhiO own i) w v l) (hb : ∀ g, own g = (1, i, 0) → w'.heap[g]? = w.heap[g]?) (hs : ∀ g j, own g = (3, i, j) → w'.heap[g]? = w.heap[g]?) : ListO (fun g => own g = (1, i, 0)) 2 (PhiO own i) w' v l :=
  h.imp (fun _ h => h) (fun j b o x hS _ hx => hx.same (hb b hS) (fun g hg => hs g j hg))

/-- Nothing of the program was turned. -/
theorem FnO.same {lo : Nat} {own : OwnF} {w w' : World} {bv : Value} {bs : List BlockD} (h : FnO lo own w bv bs) (hs : ∀ g, (own g).1 ≤ 3 → w'.heap[g]? = w.heap[g]?) (hz : w.heap.size ≤ w'.heap.size) : FnO lo own w' bv bs := by
  refine ⟨h.rows.imp (fun _ h => h) (fun i b o x hb _ hx => ?_), h.low, fun g hg => Nat.lt_of_lt_of_le (h.high g hg) hz, fun g hg j => (frozen_same (hs g hg) j).trans (h.thaw g hg j)⟩
  obtain ⟨pv, lv, c0, c1, c2, c3, c4, c5, hp, hl⟩ := hx
  have hr : w'.heap[b]? = w.heap[b]? := hs b (by rw [hb]; simp)
  exact ⟨pv, lv, (cell_same hr _).trans c0, (cell_same hr _).trans c1, (cell_same hr _).trans c2, (cell_same hr _).trans c3, (cell_same hr _).trans c4, (cell_same hr _).trans c5, phis_same hp (fun g hg => hs g (by rw [hg]; simp)) (fun g j hg => hs g (by rw [hg]; simp)), ins_same hl (fun g hg => hs g (by rw [hg]; simp))⟩
theorem FnO.keep {lo : Nat} {own : OwnF} {w w' : World} {bv : Value} {bs : List BlockD} (h : FnO lo own w bv bs) (hb : Below w.heap.size w w') : FnO lo own w' bv bs :=
  h.same (fun g hg => hb.block g (h.high g hg)) hb.size
/-- It reads as a program. -/
theorem FnO.blocks {lo : Nat} {own : OwnF} {w : World} {bv : Value} {bs : List BlockD} (h : FnO lo own w bv bs) : ListAt lo 6 (BlockAt lo) w bv bs :=
  h.rows.at (fun b hb => h.low b (by rw [hb]; simp)) (fun i b o x hb hx => by
    obtain ⟨pv, lv, c0, c1, c2, c3, c4, c5, hp, hl⟩ := hx
    exact ⟨pv, lv, c0, c1, c2, c3, c4, c5, hp.at (fun b hb => h.low b (by rw [hb]; simp)) (fun j b o x hb hx => by
      obtain ⟨h0, av, h1, h2⟩ := hx
      exact ⟨h0, av, h1, h2.at (fun b hb => h.low b (by rw [hb]; simp)) (fun _ _ _ _ _ h => h)⟩), hl.at (fun b hb => h.low b (by rw [hb]; simp)) (fun _ _ _ _ _ h => h)⟩)
theorem FnO.fnAt {lo : Nat} {own : OwnF} {w : World} {bv : Value} {F : FnD} (h : FnO lo own w bv F.blocks) {vals : Int} (hv : F.values = vals) : FnAtLo lo w (.agg #[bv, .int .i64 vals]) F := ⟨bv, by rw [hv], h.blocks⟩
theorem FnO.low' {lo lo' : Nat} {own : OwnF} {w : World} {bv : Value} {bs : List BlockD} (h : FnO lo own w bv bs) (hl : lo' ≤ lo) : FnO lo' own w bv bs := ⟨h.rows, fun g hg => Nat.le_trans hl (h.low g hg), h.high, h.thaw⟩

/-- The list of a block was turned. -/
theorem FnO.list {lo : Nat} {own : OwnF} {w w' : World} {bv : Value} {bs : List BlockD} (h : FnO lo own w bv bs) {i : Nat} {x : BlockD} (hx : bs[i]? = some x) {l' : List InsD} (hs : ∀ g, (own g).1 ≤ 3 → own g ≠ (2, i, 0) → w'.heap[g]? = w.heap[g]?) (hz : w.heap.size ≤ w'.heap.size) (hf : ∀ g, own g = (2, i, 0) → ∀ j, w'.frozen? ⟨g, j, none⟩ = w.frozen? ⟨g, j, none⟩)
    (hl : ∀ lv, (∀ rb roff n cap, bv = .slice (some ⟨rb, roff, none⟩) n cap → w.cell? ⟨rb, roff + i * 6 + 1, none⟩ = some lv) → ListO (fun g => own g = (2, i, 0)) 5 (fun _ => InsAt) w lv x.list → ListO (fun g => own g = (2, i, 0)) 5 (fun _ => InsAt) w' lv l') : FnO lo own w' bv (bs.set i { x with list := l' }) := by
  have hi : i < bs.length := (List.getElem?_eq_some_iff.1 hx).1
  refine ⟨?_, h.low, fun g hg => Nat.lt_of_lt_of_le (h.high g hg) hz, fun g hg j => ?_⟩
  · obtain ⟨a, cap, rfl, hm, hc⟩ := h.rows
    refine ⟨a, cap, by rw [List.length_set], by rw [List.length_set]; exact hm, fun hp => ?_⟩
    rw [List.length_set] at hp
    obtain ⟨b, off, rfl, hb, hd⟩ := hc hp
    refine ⟨b, off, rfl, hb, fun j y hy => ?_⟩
    have hr : w'.heap[b]? = w.heap[b]? := hs b (by rw [hb]; simp) (by rw [hb]; simp)
    by_cases e : j = i
    · subst e
      rw [List.getElem?_set_self hi] at hy
      cases hy
      obtain ⟨pv, lv, c0, c1, c2, c3, c4, c5, hp, hl0⟩ := hd j x hx
      exact ⟨pv, lv, (cell_same hr _).trans c0, (cell_same hr _).trans c1, (cell_same hr _).trans c2, (cell_same hr _).trans c3, (cell_same hr _).trans c4, (cell_same hr _).trans c5, phis_same hp (fun g hg => hs g (by rw [hg]; simp) (by rw [hg]; simp)) (fun g j hg => hs g (by rw [hg]; simp) (by rw [hg]; simp)), hl _ (fun rb roff n cap e => by simp at e; obtain ⟨⟨rfl, rfl⟩, _⟩ := e; exact c1) hl0⟩
    · rw [List.getElem?_set_ne (by omega)] at hy
      obtain ⟨pv, lv, c0, c1, c2, c3, c4, c5, hp, hl0⟩ := hd j y hy
      exact ⟨pv, lv, (cell_same hr _).trans c0, (cell_same hr _).trans c1, (cell_same hr _).trans c2, (cell_same hr _).trans c3, (cell_same hr _).trans c4, (cell_same hr _).trans c5, phis_same hp (fun g hg => hs g (by rw [hg]; simp) (by rw [hg]; simp)) (fun g j hg => hs g (by rw [hg]; simp) (by rw [hg]; simp)), ins_same hl0 (fun g hg => hs g (by rw [hg]; simp) (by rw [hg]; simp; omega))⟩
  · by_cases e : own g = (2, i, 0)
    · exact (hf g e j).trans (h.thaw g hg j)
    · exact (frozen_same (hs g hg e) j).trans (h.thaw g hg j)

/-- Five cells are put. -/
def putIns (w : World) (b o : Nat) (y : InsD) : World := ((((w.setCell ⟨b, o, none⟩ (.int .i64 y.op)).setCell ⟨b, o + 1, none⟩ (.int .i64 y.d)).setCell ⟨b, o + 2, none⟩ (.int .i64 y.a)).setCell ⟨b, o + 3, none⟩ (.int .i64 y.b)).setCell ⟨b, o + 4, none⟩ (.int .i64 y.n)
theorem putIns_other {w : World} {b o : Nat} {y : InsD} {g : Nat} (h : g ≠ b) : (putIns w b o y).heap[g]? = w.heap[g]? := by
  unfold putIns
  simp only [Below.heap_setCell _ _ _ _ (show g ≠ (⟨b, _, none⟩ : Addr).block from h)]
theorem putIns_size (w : World) (b o : Nat) (y : InsD) : (putIns w b o y).heap.size = w.heap.size := by simp [putIns]
theorem putIns_frozen (w : World) (b o : Nat) (y : InsD) (p : Addr) : (putIns w b o y).frozen? p = w.frozen? p := by simp [putIns]
theorem putIns_cell {w : World} {b o o' : Nat} {y : InsD} (h : o' < o ∨ o + 5 ≤ o') : (putIns w b o y).cell? ⟨b, o', none⟩ = w.cell? ⟨b, o', none⟩ := by
  have hne : ∀ c, c < 5 → (⟨b, o + c, none⟩ : Addr) ≠ ⟨b, o', none⟩ := fun c hc e => by have := congrArg Addr.off e; simp at this; omega
  have h0 : (⟨b, o, none⟩ : Addr) ≠ ⟨b, o', none⟩ := hne 0 (by omega)
  unfold putIns
  rw [World.cell?_setCell_other _ _ _ _ (hne 4 (by omega)), World.cell?_setCell_other _ _ _ _ (hne 3 (by omega)), World.cell?_setCell_other _ _ _ _ (hne 2 (by omega)), World.cell?_setCell_other _ _ _ _ (hne 1 (by omega)), World.cell?_setCell_other _ _ _ _ h0]
theorem putIns_at {w : World} {b o : Nat} {x : InsD} (h : InsAt w b o x) (y : InsD) : InsAt (putIns w b o y) b o y := by
  obtain ⟨h0, h1, h2, h3, h4⟩ := h
  unfold putIns
  refine ⟨?_, ?_, ?_, ?_, ?_⟩
  · rw [World.cell?_setCell_other _ _ _ _ (by simp), World.cell?_setCell_other _ _ _ _ (by simp), World.cell?_setCell_other _ _ _ _ (by simp), World.cell?_setCell_other _ _ _ _ (by simp)]
    exact World.cell?_setCell_same _ _ _ h0
  · rw [World.cell?_setCell_other _ _ _ _ (by simp), World.cell?_setCell_other _ _ _ _ (by simp), World.cell?_setCell_other _ _ _ _ (by simp)]
    exact World.cell?_setCell_same _ _ _ ((World.cell?_setCell_other _ _ _ _ (by simp)).trans h1)
  · rw [World.cell?_setCell_other _ _ _ _ (by simp), World.cell?_setCell_other _ _ _ _ (by simp)]
    exact World.cell?_setCell_same _ _ _ ((World.cell?_setCell_other _ _ _ _ (by simp)).trans ((World.cell?_setCell_other _ _ _ _ (by simp)).trans h2))
  · rw [World.cell?_setCell_other _ _ _ _ (by simp)]
    exact World.cell?_setCell_same _ _ _ ((World.cell?_setCell_other _ _ _ _ (by simp)).trans ((World.cell?_setCell_other _ _ _ _ (by simp)).trans ((World.cell?_setCell_other _ _ _ _ (by simp)).trans h3)))
  · exact World.cell?_setCell_same _ _ _ ((World.cell?_setCell_other _ _ _ _ (by simp)).trans ((World.cell?_setCell_other _ _ _ _ (by simp)).trans ((World.cell?_setCell_other _ _ _ _ (by simp)).trans ((World.cell?_setCell_other _ _ _ _ (by simp)).trans h4))))

/-- A place of the list of block i is put. -/
theorem FnO.puts {lo : Nat} {own : OwnF} {w : World} {bv : Value} {bs : List BlockD} (h : FnO lo own w bv bs) {i k : Nat} {x : BlockD} (hx : bs[i]? = some x) {z : InsD} (hz : x.list[k]? = some z) {rb roff lb loff n cap lcap m : Nat} (hv : bv = .slice (some ⟨rb, roff, none⟩) n cap)
    (hlv : w.cell? ⟨rb, roff + i * 6 + 1, none⟩ = some (.slice (some ⟨lb, loff, none⟩) m lcap)) (y : InsD) : FnO lo own (putIns w lb (loff + k * 5) y) bv (bs.set i { x with list := x.list.set k y }) := by
  have hk := (List.getElem?_eq_some_iff.1 hz).1
  have hlb : own lb = (2, i, 0) ∧ ListO (fun g => own g = (2, i, 0)) 5 (fun _ => InsAt) w (.slice (some ⟨lb, loff, none⟩) m lcap) x.list := by
    have hr := h.rows
    rw [hv] at hr
    obtain ⟨b, off, e, hb, pv, lv, c0, c1, c2, c3, c4, c5, hp, hl⟩ := hr.get hx
    simp at e
    obtain ⟨rfl, rfl⟩ := e
    have e2 := c1.symm.trans hlv
    simp at e2
    subst e2
    obtain ⟨b2, off2, e3, hb2, _⟩ := hl.get hz
    simp at e3
    obtain ⟨rfl, rfl⟩ := e3
    exact ⟨hb2, hl⟩
  refine h.list hx (fun g hg hne => putIns_other (fun e => hne (by rw [e]; exact hlb.1))) (by rw [putIns_size]; exact Nat.le_refl _) (fun g hg j => putIns_frozen _ _ _ _ _) (fun lv hc hl => ?_)
  have e2 := (hc _ _ _ _ hv).symm.trans hlv
  simp at e2
  subst e2
  obtain ⟨a, cap0, e3, hm, hcc⟩ := hl
  simp at e3
  obtain ⟨e3, e4, e5⟩ := e3
  refine ⟨a, cap0, by rw [List.length_set, e3, e4, e5], by rw [List.length_set]; exact hm, fun hp => ?_⟩
  rw [List.length_set] at hp
  obtain ⟨b2, off2, ha, hb2, hd⟩ := hcc hp
  rw [ha] at e3
  simp at e3
  obtain ⟨rfl, rfl⟩ := e3
  refine ⟨_, _, ha, hb2, fun q u hu => ?_⟩
  by_cases e : q = k
  · subst e
    rw [List.getElem?_set_self hk] at hu
    cases hu
    exact putIns_at (hd _ _ hz) y
  · rw [List.getElem?_set_ne (by omega)] at hu
    obtain ⟨q0, q1, q2, q3, q4⟩ := hd _ _ hu
    have hq : ∀ c, c < 5 → (putIns w lb (loff + k * 5) y).cell? ⟨lb, loff + q * 5 + c, none⟩ = w.cell? ⟨lb, loff + q * 5 + c, none⟩ := fun c hc => putIns_cell (by omega)
    exact ⟨(hq 0 (by omega)).trans q0, (hq 1 (by omega)).trans q1, (hq 2 (by omega)).trans q2, (hq 3 (by omega)).trans q3, (hq 4 (by omega)).trans q4⟩
end Go.Proofs.YthdioeeanodjiaaDoor
