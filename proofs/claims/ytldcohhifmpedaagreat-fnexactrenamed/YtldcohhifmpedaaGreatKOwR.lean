/- The places of a program's numbers, in the order in which they are marked; and that marks hold where no two places are one. No two places of a program are one, where each list has a block of memory of its own. A program in memory each of whose lists has a block of memory of its own. A program in memory of the call's own: the end of a block is turned, an arm is turned, a block is added. A program in memory of the call's own, whose row of blocks has room: a block is added. Lists of places of the call's own; a block with its list is added to a program. A program each of whose lists has a block of its own: the places of its numbers, no two of them one. Marks hold: what was marked in places that are all other ones stands there. Marks hold: phis. Marks hold: blocks, and a program. -/
import Derived.Test.YtldcohhifmpedaaGreatKMark
import Derived.Laws.OwnMore
import Derived.Test.YtldcohhifmpedaaGreatKEq
namespace Go.Proofs.YtldcohhifmpedaaGreat
open Go.ChangeShapes Go.WideShapes Go.ChangeAt Go.RowKit
set_option linter.unusedVariables false

abbrev Spot := Nat × Nat
def spotA (s : Spot) : Addr := ⟨s.1, s.2, none⟩
/-- A row of n elements. -/
def rowS (f : Nat → List Spot) (n : Nat) : List Spot := (List.range n).flatMap f
theorem rowS_zero (f : Nat → List Spot) : rowS f 0 = [] := rfl
theorem rowS_succ (f : Nat → List Spot) (n : Nat) : rowS f (n + 1) = rowS f n ++ f n := by simp [rowS, List.range_succ]
theorem rowS_pre (f : Nat → List Spot) : ∀ {n k : Nat}, k ≤ n → ∃ R, rowS f n = rowS f k ++ R
  | 0, k, h => ⟨[], by rw [show k = 0 by omega]; simp⟩
  | n + 1, k, h => by
    by_cases e : k = n + 1
    · exact ⟨[], by rw [e]; simp⟩
    · obtain ⟨R, hR⟩ := rowS_pre f (n := n) (k := k) (by omega)
      exact ⟨R ++ f n, by rw [rowS_succ, hR, List.append_assoc]⟩
theorem rowS_len {f : Nat → List Spot} {c : Nat} : ∀ {n : Nat}, (∀ i, i < n → (f i).length ≤ c) → (rowS f n).length ≤ n * c
  | 0, _ => by simp [rowS]
  | n + 1, h => by
    rw [rowS_succ, List.length_append, Nat.succ_mul]
    exact Nat.add_le_add (rowS_len fun i hi => h i (by omega)) (h n (by omega))
theorem rowS_nodup {f : Nat → List Spot} {n k : Nat} (h : (rowS f n).Nodup) (hk : k < n) : (rowS f k ++ f k).Nodup := by
  obtain ⟨R, hR⟩ := rowS_pre f (n := n) (k := k + 1) (by omega)
  rw [hR, rowS_succ] at h
  exact (List.nodup_append.1 h).1

/-- Where a list lies: block, begin, how many. -/
structure RowT where
  b : Nat
  off : Nat
  n : Nat
structure PhisT where
  b : Nat
  off : Nat
  n : Nat
  arms : Nat → RowT
structure BlocksT where
  b : Nat
  off : Nat
  n : Nat
  phis : Nat → PhisT
  list : Nat → RowT
def armE (b o : Nat) : List Spot := [(b, o), (b, o + 1)]
def insE (b o : Nat) : List Spot := [(b, o), (b, o + 1), (b, o + 2), (b, o + 3), (b, o + 4)]
def armsSp (t : RowT) : List Spot := rowS (fun i => armE t.b (t.off + i * 2)) t.n
def insSp (t : RowT) : List Spot := rowS (fun i => insE t.b (t.off + i * 5)) t.n
def phiE (t : PhisT) (i : Nat) : List Spot := (t.b, t.off + i * 2) :: armsSp (t.arms i)
def phisSp (t : PhisT) : List Spot := rowS (phiE t) t.n
def blockE (t : BlocksT) (i : Nat) : List Spot := phisSp (t.phis i) ++ insSp (t.list i) ++ [(t.b, t.off + i * 6 + 2), (t.b, t.off + i * 6 + 3), (t.b, t.off + i * 6 + 4), (t.b, t.off + i * 6 + 5)]
def blocksSp (t : BlocksT) : List Spot := rowS (blockE t) t.n

def SliceIs (v : Value) (b off n : Nat) : Prop := ∃ a cap, v = .slice a n cap ∧ (0 < n → a = some ⟨b, off, none⟩)
structure ArmsTr (lo hi : Nat) (w : World) (v : Value) (t : RowT) : Prop where
  is : SliceIs v t.b t.off t.n
  small : t.n ≤ 1048576
  inn : 0 < t.n → lo ≤ t.b ∧ t.b < hi
  fz : 0 < t.n → ∀ j, w.frozen? ⟨t.b, j, none⟩ = false
  at_ : ∀ i, i < t.n → ArmM w t.b (t.off + i * 2)
structure InsTr (lo hi : Nat) (w : World) (v : Value) (t : RowT) : Prop where
  is : SliceIs v t.b t.off t.n
  small : t.n ≤ 1048576
  inn : 0 < t.n → lo ≤ t.b ∧ t.b < hi
  fz : 0 < t.n → ∀ j, w.frozen? ⟨t.b, j, none⟩ = false
  at_ : ∀ i, i < t.n → InsM w t.b (t.off + i * 5)
structure PhisTr (lo hi : Nat) (w : World) (v : Value) (t : PhisT) : Prop where
  is : SliceIs v t.b t.off t.n
  small : t.n ≤ 1048576
  inn : 0 < t.n → lo ≤ t.b ∧ t.b < hi
  fz : 0 < t.n → ∀ j, w.frozen? ⟨t.b, j, none⟩ = false
  num : ∀ i, i < t.n → NumAt w t.b (t.off + i * 2)
  arms : ∀ i, i < t.n → ∃ sv, w.cell? ⟨t.b, t.off + i * 2 + 1, none⟩ = some sv ∧ ArmsTr lo hi w sv (t.arms i)
structure BlocksTr (lo hi : Nat) (w : World) (v : Value) (t : BlocksT) : Prop where
  is : SliceIs v t.b t.off t.n
  small : t.n ≤ 1048576
  inn : 0 < t.n → lo ≤ t.b ∧ t.b < hi
  fz : 0 < t.n → ∀ j, w.frozen? ⟨t.b, j, none⟩ = false
  num : ∀ i, i < t.n → NumAt w t.b (t.off + i * 6 + 2) ∧ NumAt w t.b (t.off + i * 6 + 3) ∧ NumAt w t.b (t.off + i * 6 + 4) ∧ NumAt w t.b (t.off + i * 6 + 5)
  phis : ∀ i, i < t.n → ∃ sv, w.cell? ⟨t.b, t.off + i * 6, none⟩ = some sv ∧ PhisTr lo hi w sv (t.phis i)
  list : ∀ i, i < t.n → ∃ sv, w.cell? ⟨t.b, t.off + i * 6 + 1, none⟩ = some sv ∧ InsTr lo hi w sv (t.list i)

/-- Numbers stay numbers, lists stay. -/
structure Stays (w w' : World) : Prop where
  num : ∀ p z, w.cell? p = some (.int .i64 z) → ∃ z', w'.cell? p = some (.int .i64 z')
  list : ∀ p a n c, w.cell? p = some (.slice a n c) → w'.cell? p = some (.slice a n c)
  fz : ∀ (b o j : Nat) (z : Value), w.cell? ⟨b, o, none⟩ = some z → w'.frozen? ⟨b, j, none⟩ = w.frozen? ⟨b, j, none⟩
theorem Turns.stays {lo hi : Nat} {w w' : World} (h : Turns lo hi w w') : Stays w w' := ⟨h.num, h.list, fun b o j z _ => h.fz _⟩
theorem Stays.below {w w' : World} (h : Below w.heap.size w w') : Stays w w' := ⟨fun p z hz => ⟨z, Bel.keeps h hz⟩, fun p a n c hl => Bel.keeps h hl, fun b o j z hz => h.frozen (p := ⟨b, j, none⟩) (World.block_lt_of_cell? w ⟨b, o, none⟩ hz)⟩
theorem NumAt.stay {w w' : World} (h : Stays w w') {b o : Nat} (hn : NumAt w b o) : NumAt w' b o := by
  obtain ⟨z, hz⟩ := hn
  exact h.num _ z hz
theorem ArmsTr.stay {lo hi : Nat} {w w' : World} {v : Value} {t : RowT} (h : ArmsTr lo hi w v t) (s : Stays w w') : ArmsTr lo hi w' v t :=
  ⟨h.is, h.small, h.inn, fun h0 j => by obtain ⟨⟨z, hz⟩, _⟩ := h.at_ 0 h0; exact (s.fz _ _ j _ hz).trans (h.fz h0 j), fun i hi => ⟨(h.at_ i hi).1.stay s, (h.at_ i hi).2.stay s⟩⟩
theorem InsTr.stay {lo hi : Nat} {w w' : World} {v : Value} {t : RowT} (h : InsTr lo hi w v t) (s : Stays w w') : InsTr lo hi w' v t :=
  ⟨h.is, h.small, h.inn, fun h0 j => by obtain ⟨⟨z, hz⟩, _⟩ := h.at_ 0 h0; exact (s.fz _ _ j _ hz).trans (h.fz h0 j), fun i hi => by obtain ⟨h0, h1, h2, h3, h4⟩ := h.at_ i hi; exact ⟨h0.stay s, h1.stay s, h2.stay s, h3.stay s, h4.stay s⟩⟩
theorem PhisTr.stay {lo hi : Nat} {w w' : World} {v : Value} {t : PhisT} (h : PhisTr lo hi w v t) (s : Stays w w') : PhisTr lo hi w' v t :=
  ⟨h.is, h.small, h.inn, fun h0 j => by obtain ⟨z, hz⟩ := h.num 0 h0; exact (s.fz _ _ j _ hz).trans (h.fz h0 j), fun i hi => (h.num i hi).stay s, fun i hi => by
    obtain ⟨sv, hc, ha⟩ := h.arms i hi
    obtain ⟨a, cap, rfl, _⟩ := ha.is
    exact ⟨_, s.list _ _ _ _ hc, ha.stay s⟩⟩
theorem BlocksTr.stay {lo hi : Nat} {w w' : World} {v : Value} {t : BlocksT} (h : BlocksTr lo hi w v t) (s : Stays w w') : BlocksTr lo hi w' v t :=
  ⟨h.is, h.small, h.inn, fun h0 j => by obtain ⟨⟨z, hz⟩, _⟩ := h.num 0 h0; exact (s.fz _ _ j _ hz).trans (h.fz h0 j), fun i hi => by obtain ⟨h0, h1, h2, h3⟩ := h.num i hi; exact ⟨h0.stay s, h1.stay s, h2.stay s, h3.stay s⟩, fun i hi => by
    obtain ⟨sv, hc, ha⟩ := h.phis i hi
    obtain ⟨a, cap, rfl, _⟩ := ha.is
    exact ⟨_, s.list _ _ _ _ hc, ha.stay s⟩, fun i hi => by
    obtain ⟨sv, hc, ha⟩ := h.list i hi
    obtain ⟨a, cap, rfl, _⟩ := ha.is
    exact ⟨_, s.list _ _ _ _ hc, ha.stay s⟩⟩

/-- At these places stand q, q + 1, .. -/
def Has (w : World) (L : List Spot) (q : Int) : Prop := ∀ (j : Nat) (s : Spot), L[j]? = some s → w.cell? (spotA s) = some (.int .i64 (q + (j : Int)))
theorem Has.app {w : World} {L M : List Spot} {q : Int} : Has w (L ++ M) q ↔ Has w L q ∧ Has w M (q + L.length) := by
  refine ⟨fun h => ⟨fun j s hj => h j s ?_, fun j s hj => ?_⟩, fun ⟨h, k⟩ j s hj => ?_⟩
  · rw [List.getElem?_append_left (List.getElem?_eq_some_iff.1 hj).1]
    exact hj
  · have := h (L.length + j) s (by rw [List.getElem?_append_right (by omega)]; simpa using hj)
    rw [this]
    congr 2
    push_cast
    omega
  · by_cases e : j < L.length
    · rw [List.getElem?_append_left e] at hj
      exact h j s hj
    · rw [List.getElem?_append_right (by omega)] at hj
      rw [k _ _ hj]
      congr 2
      omega
theorem Has.nil (w : World) (q : Int) : Has w [] q := fun j s h => by simp at h
theorem Has.keep {w w' : World} {L : List Spot} {q : Int} (h : Has w L q) (hb : Below w.heap.size w w') : Has w' L q := fun j s hj => Bel.keeps hb (h j s hj)
/-- These places were written with q, q + 1, .., nothing else was. -/
structure Wrote (lo hi : Nat) (L : List Spot) (q : Int) (w w' : World) : Prop where
  turns : Turns lo hi w w'
  has : Has w' L q
  off : ∀ s : Spot, s ∉ L → w'.cell? (spotA s) = w.cell? (spotA s)
theorem Wrote.refl (lo hi : Nat) (q : Int) (w : World) : Wrote lo hi [] q w w := ⟨Turns.refl _ _ _, Has.nil _ _, fun _ _ => rfl⟩
theorem Wrote.trans {lo hi : Nat} {L M : List Spot} {q : Int} {a b c : World} (h : Wrote lo hi L q a b) (k : Wrote lo hi M (q + L.length) b c) (hd : (L ++ M).Nodup) : Wrote lo hi (L ++ M) q a c := by
  have hx := (List.nodup_append.1 hd).2.2
  refine ⟨h.turns.trans k.turns, Has.app.2 ⟨fun j s hj => ?_, k.has⟩, fun s hs => ?_⟩
  · rw [k.off s (fun hm => hx s (List.mem_of_getElem? hj) s hm rfl)]
    exact h.has j s hj
  · rw [k.off s (fun hm => hs (List.mem_append.2 (.inr hm))), h.off s (fun hm => hs (List.mem_append.2 (.inl hm)))]
theorem Wrote.put {lo hi : Nat} {q : Int} {w : World} {b o : Nat} {z : Int} (hc : w.cell? ⟨b, o, none⟩ = some (.int .i64 z)) (h1 : lo ≤ b) (h2 : b < hi) : Wrote lo hi [(b, o)] q w (w.setCell ⟨b, o, none⟩ (.int .i64 q)) := by
  refine ⟨(Turns.refl lo hi w).put hc h1 h2 q, fun j s hj => ?_, fun s hs => ?_⟩
  · have hj0 : j = 0 := by have := (List.getElem?_eq_some_iff.1 hj).1; simp at this; omega
    subst hj0
    simp at hj
    subst hj
    rw [show spotA (b, o) = ⟨b, o, none⟩ from rfl, World.cell?_setCell_same _ _ _ hc]
    simp
  · refine World.cell?_setCell_other _ _ _ _ (fun e => hs ?_)
    have e1 : b = s.1 := congrArg Addr.block e
    have e2 : o = s.2 := congrArg Addr.off e
    subst e1
    subst e2
    simp
/-- One more place is written. -/
theorem Wrote.more {lo hi : Nat} {L : List Spot} {q : Int} {a w : World} (h : Wrote lo hi L q a w) {b o : Nat} {z x : Int} (hc : w.cell? ⟨b, o, none⟩ = some (.int .i64 z)) (h1 : lo ≤ b) (h2 : b < hi) (hd : (L ++ [(b, o)]).Nodup) (hx : x = q + L.length) : Wrote lo hi (L ++ [(b, o)]) q a (w.setCell ⟨b, o, none⟩ (.int .i64 x)) := by
  subst hx
  exact h.trans (Wrote.put hc h1 h2) hd
end Go.Proofs.YtldcohhifmpedaaGreat

namespace Go.Proofs.YtldcohhifmpedaaGreat
set_option linter.unusedVariables false

theorem rowS_mem {f : Nat → List Spot} {s : Spot} : ∀ {n : Nat}, s ∈ rowS f n → ∃ i, i < n ∧ s ∈ f i
  | 0, h => by simp [rowS] at h
  | n + 1, h => by
    rw [rowS_succ] at h
    rcases List.mem_append.1 h with h | h
    · obtain ⟨i, hi, hs⟩ := rowS_mem h
      exact ⟨i, by omega, hs⟩
    · exact ⟨n, by omega, h⟩
theorem rowS_nodup_of {f : Nat → List Spot} : ∀ {n : Nat}, (∀ i, i < n → (f i).Nodup) → (∀ i j, i < j → j < n → ∀ s, s ∈ f i → s ∈ f j → False) → (rowS f n).Nodup
  | 0, _, _ => by simp [rowS]
  | n + 1, h, k => by
    rw [rowS_succ]
    refine List.nodup_append.2 ⟨rowS_nodup_of (fun i hi => h i (by omega)) (fun i j hij hj => k i j hij (by omega)), h n (by omega), fun s hs s' hs' e => ?_⟩
    subst e
    obtain ⟨i, hi, hm⟩ := rowS_mem hs
    exact k i n hi (by omega) s hm hs'
theorem armsSp_mem {t : RowT} {s : Spot} (h : s ∈ armsSp t) : 0 < t.n ∧ s.1 = t.b := by
  obtain ⟨i, hi, hm⟩ := rowS_mem h
  simp [armE] at hm
  refine ⟨by omega, ?_⟩
  rcases hm with rfl | rfl <;> rfl
theorem insSp_mem {t : RowT} {s : Spot} (h : s ∈ insSp t) : 0 < t.n ∧ s.1 = t.b := by
  obtain ⟨i, hi, hm⟩ := rowS_mem h
  simp [insE] at hm
  refine ⟨by omega, ?_⟩
  rcases hm with rfl | rfl | rfl | rfl | rfl <;> rfl
theorem armsSp_nodup (t : RowT) : (armsSp t).Nodup := by
  refine rowS_nodup_of (fun i hi => by simp [armE]) (fun i j hij hj s h1 h2 => ?_)
  simp [armE] at h1 h2
  rcases h1 with rfl | rfl <;> rcases h2 with h2 | h2 <;> simp at h2 <;> omega
theorem insSp_nodup (t : RowT) : (insSp t).Nodup := by
  refine rowS_nodup_of (fun i hi => by simp [insE]) (fun i j hij hj s h1 h2 => ?_)
  simp [insE] at h1 h2
  rcases h1 with rfl | rfl | rfl | rfl | rfl <;> rcases h2 with h2 | h2 | h2 | h2 | h2 <;> simp at h2 <;> omega

/-- Whose a block of memory is: the row of blocks, the phis or the list of a block, the arms of a phi. -/
structure OwnT (own : Nat → Nat × Nat × Nat) (t : BlocksT) : Prop where
  rows : 0 < t.n → own t.b = (0, 0, 0)
  phis : ∀ i, i < t.n → 0 < (t.phis i).n → own (t.phis i).b = (1, i, 0)
  list : ∀ i, i < t.n → 0 < (t.list i).n → own (t.list i).b = (2, i, 0)
  arms : ∀ i, i < t.n → ∀ j, j < (t.phis i).n → 0 < ((t.phis i).arms j).n → own ((t.phis i).arms j).b = (3, i, j)
theorem OwnT.phiMem {own : Nat → Nat × Nat × Nat} {t : BlocksT} (h : OwnT own t) {i : Nat} (hi : i < t.n) {j : Nat} (hj : j < (t.phis i).n) {s : Spot} (hs : s ∈ phiE (t.phis i) j) : (own s.1 = (1, i, 0) ∧ s.2 = (t.phis i).off + j * 2) ∨ own s.1 = (3, i, j) := by
  unfold phiE at hs
  rcases List.mem_cons.1 hs with rfl | hs
  · exact .inl ⟨h.phis i hi (by omega), rfl⟩
  · obtain ⟨h1, h2⟩ := armsSp_mem hs
    rw [h2]
    exact .inr (h.arms i hi j hj h1)
theorem OwnT.phisMem {own : Nat → Nat × Nat × Nat} {t : BlocksT} (h : OwnT own t) {i : Nat} (hi : i < t.n) {s : Spot} (hs : s ∈ phisSp (t.phis i)) : own s.1 = (1, i, 0) ∨ ∃ j, own s.1 = (3, i, j) := by
  obtain ⟨j, hj, hm⟩ := rowS_mem hs
  rcases h.phiMem hi hj hm with h1 | h1
  · exact .inl h1.1
  · exact .inr ⟨j, h1⟩
theorem OwnT.phisNodup {own : Nat → Nat × Nat × Nat} {t : BlocksT} (h : OwnT own t) {i : Nat} (hi : i < t.n) : (phisSp (t.phis i)).Nodup := by
  refine rowS_nodup_of (fun j hj => ?_) (fun j k hjk hk s h1 h2 => ?_)
  · unfold phiE
    refine List.nodup_cons.2 ⟨fun hm => ?_, armsSp_nodup _⟩
    obtain ⟨h1, h2⟩ := armsSp_mem hm
    have h3 := h.arms i hi j hj h1
    rw [← h2] at h3
    have h4 := h.phis i hi (by omega)
    rw [show ((t.phis i).b, (t.phis i).off + j * 2).1 = (t.phis i).b from rfl, h4] at h3
    simp at h3
  · rcases h.phiMem hi (by omega) h1 with ⟨a1, a2⟩ | a1 <;> rcases h.phiMem hi hk h2 with ⟨b1, b2⟩ | b1
    · omega
    · rw [a1] at b1; simp at b1
    · rw [a1] at b1; simp at b1
    · rw [a1] at b1; simp at b1; omega
theorem OwnT.blockMem {own : Nat → Nat × Nat × Nat} {t : BlocksT} (h : OwnT own t) {i : Nat} (hi : i < t.n) {s : Spot} (hs : s ∈ blockE t i) : (∃ c j, own s.1 = (c + 1, i, j)) ∨ (own s.1 = (0, 0, 0) ∧ t.off + i * 6 + 2 ≤ s.2 ∧ s.2 ≤ t.off + i * 6 + 5) := by
  unfold blockE at hs
  rcases List.mem_append.1 hs with hs | hs
  · rcases List.mem_append.1 hs with hs | hs
    · rcases h.phisMem hi hs with h1 | ⟨j, h1⟩
      · exact .inl ⟨0, 0, h1⟩
      · exact .inl ⟨2, j, h1⟩
    · obtain ⟨h1, h2⟩ := insSp_mem hs
      exact .inl ⟨1, 0, by rw [h2]; exact h.list i hi h1⟩
  · have h0 := h.rows (by omega)
    simp at hs
    rcases hs with rfl | rfl | rfl | rfl <;> exact .inr ⟨h0, by simp, by simp⟩
theorem OwnT.nodup {own : Nat → Nat × Nat × Nat} {t : BlocksT} (h : OwnT own t) : (blocksSp t).Nodup := by
  refine rowS_nodup_of (fun i hi => ?_) (fun i j hij hj s h1 h2 => ?_)
  · unfold blockE
    refine List.nodup_append.2 ⟨List.nodup_append.2 ⟨h.phisNodup hi, insSp_nodup _, fun s hs s' hs' e => ?_⟩, by simp, fun s hs s' hs' e => ?_⟩
    · subst e
      obtain ⟨h1, h2⟩ := insSp_mem hs'
      have h3 := h.list i hi h1
      rw [← h2] at h3
      rcases h.phisMem hi hs with h4 | ⟨j, h4⟩ <;> (rw [h3] at h4; simp at h4)
    · subst e
      have h0 := h.rows (by omega)
      have h5 : own s.1 = (0, 0, 0) := by
        simp at hs'
        rcases hs' with rfl | rfl | rfl | rfl <;> exact h0
      rcases List.mem_append.1 hs with hs | hs
      · rcases h.phisMem hi hs with h4 | ⟨j, h4⟩ <;> (rw [h5] at h4; simp at h4)
      · obtain ⟨h1, h2⟩ := insSp_mem hs
        have h3 := h.list i hi h1
        rw [← h2, h5] at h3
        simp at h3
  · rcases h.blockMem (by omega) h1 with ⟨c, d, a1⟩ | ⟨a1, a2, a3⟩ <;> rcases h.blockMem hj h2 with ⟨c', d', b1⟩ | ⟨b1, b2, b3⟩
    · rw [a1] at b1; simp at b1; omega
    · rw [a1] at b1; simp at b1
    · rw [a1] at b1; simp at b1
    · omega
end Go.Proofs.YtldcohhifmpedaaGreat

namespace Go.Proofs.YtldcohhifmpedaaGreat
open Go.ChangeShapes Go.WideShapes Go.ChangeAt Go.RowKit
set_option linter.unusedVariables false

/-- Whose a block of memory is: 0 the row of blocks, 1 the phis, 2 the list of a block, 3 the arms of a phi; more: nobody's. -/
abbrev OwnF := Nat → Nat × Nat × Nat

/-- A slice whose elements, of k cells each, lie in a block of which S holds. -/
def ListO {α : Type} (S : Nat → Prop) (k : Nat) (E : Nat → World → Nat → Nat → α → Prop) (w : World) (v : Value) (l : List α) : Prop :=
  ∃ (a : Option Addr) (cap : Nat), v = .slice a l.length cap ∧ l.length ≤ 9223372036854775807 ∧ (0 < l.length → ∃ b off, a = some ⟨b, off, none⟩ ∧ S b ∧ ∀ i x, l[i]? = some x → E i w b (off + i * k) x)
theorem ListO.imp {α : Type} {S S' : Nat → Prop} {k : Nat} {E E' : Nat → World → Nat → Nat → α → Prop} {w w' : World} {v : Value} {l : List α} (h : ListO S k E w v l) (hS : ∀ b, S b → S' b) (hE : ∀ i b o x, S b → l[i]? = some x → E i w b o x → E' i w' b o x) : ListO S' k E' w' v l := by
  obtain ⟨a, cap, rfl, hm, hc⟩ := h
  refine ⟨a, cap, rfl, hm, fun hp => ?_⟩
  obtain ⟨b, off, rfl, hb, hd⟩ := hc hp
  exact ⟨b, off, rfl, hS b hb, fun i x hi => hE _ _ _ _ hb hi (hd i x hi)⟩
theorem ListO.nil {α : Type} {S : Nat → Prop} {k : Nat} {E : Nat → World → Nat → Nat → α → Prop} {w : World} (a : Option Addr) (c : Nat) : ListO S k E w (.slice a 0 c) ([] : List α) :=
  ⟨a, c, rfl, by simp, fun h => absurd h (by simp)⟩
theorem ListO.is {α : Type} {S : Nat → Prop} {k : Nat} {E : Nat → World → Nat → Nat → α → Prop} {w : World} {v : Value} {l : List α} (h : ListO S k E w v l) : ∃ a cap, v = .slice a l.length cap := by
  obtain ⟨a, cap, rfl, _⟩ := h
  exact ⟨a, cap, rfl⟩
theorem ListO.get {α : Type} {S : Nat → Prop} {k : Nat} {E : Nat → World → Nat → Nat → α → Prop} {w : World} {a : Option Addr} {n cap : Nat} {l : List α} (h : ListO S k E w (.slice a n cap) l) {i : Nat} {x : α} (hx : l[i]? = some x) : ∃ b off, a = some ⟨b, off, none⟩ ∧ S b ∧ E i w b (off + i * k) x := by
  obtain ⟨a0, cap0, e, _, hc⟩ := h
  simp at e
  have hk := (List.getElem?_eq_some_iff.1 hx).1
  obtain ⟨b, off, ha, hS, hd⟩ := hc (by omega)
  exact ⟨b, off, e.1.trans ha, hS, hd i x hx⟩
theorem ListO.at {α : Type} {S : Nat → Prop} {k : Nat} {E : Nat → World → Nat → Nat → α → Prop} {lo : Nat} {E' : World → Nat → Nat → α → Prop} {w : World} {v : Value} {l : List α} (h : ListO S k E w v l) (hS : ∀ b, S b → lo ≤ b) (hE : ∀ i b o x, S b → E i w b o x → E' w b o x) : ListAt lo k E' w v l := by
  obtain ⟨a, cap, rfl, hm, hc⟩ := h
  refine ⟨a, cap, rfl, hm, fun hp => ?_⟩
  obtain ⟨b, off, rfl, hb, hd⟩ := hc hp
  exact ⟨b, off, rfl, hS b hb, fun i x hi => hE _ _ _ _ hb (hd i x hi)⟩

def PhiO (own : OwnF) (i j : Nat) (w : World) (b o : Nat) (x : PhiD) : Prop := w.cell? ⟨b, o, none⟩ = some (.int .i64 x.d) ∧ ∃ av, w.cell? ⟨b, o + 1, none⟩ = some av ∧ ListO (fun g => own g = (3, i, j)) 2 (fun _ => ArmAt) w av x.arms
def BlockO (own : OwnF) (i : Nat) (w : World) (b o : Nat) (x : BlockD) : Prop :=
  ∃ pv lv, w.cell? ⟨b, o, none⟩ = some pv ∧ w.cell? ⟨b, o + 1, none⟩ = some lv ∧ w.cell? ⟨b, o + 2, none⟩ = some (.int .i64 x.term.k) ∧ w.cell? ⟨b, o + 3, none⟩ = some (.int .i64 x.term.a) ∧ w.cell? ⟨b, o + 4, none⟩ = some (.int .i64 x.term.t) ∧ w.cell? ⟨b, o + 5, none⟩ = some (.int .i64 x.term.e) ∧
    ListO (fun g => own g = (1, i, 0)) 2 (PhiO own i) w pv x.phis ∧ ListO (fun g => own g = (2, i, 0)) 5 (fun _ => InsAt) w lv x.list

/-- Blocks in memory, each list in a block of its own; all of these from lo on. -/
structure FnO (lo : Nat) (own : OwnF) (w : World) (bv : Value) (bs : List BlockD) : Prop where
  rows : ListO (fun g => own g = (0, 0, 0)) 6 (BlockO own) w bv bs
  low : ∀ g, (own g).1 ≤ 3 → lo ≤ g
  high : ∀ g, (own g).1 ≤ 3 → g < w.heap.size
  thaw : ∀ g, (own g).1 ≤ 3 → ∀ j, w.frozen? ⟨g, j, none⟩ = false

theorem cell_same {w w' : World} {g : Nat} (h : w'.heap[g]? = w.heap[g]?) (o : Nat) : w'.cell? ⟨g, o, none⟩ = w.cell? ⟨g, o, none⟩ := by simp only [World.cell?, h]
theorem frozen_same {w w' : World} {g : Nat} (h : w'.heap[g]? = w.heap[g]?) (o : Nat) : w'.frozen? ⟨g, o, none⟩ = w.frozen? ⟨g, o, none⟩ := by simp only [World.frozen?, h]
theorem ArmAt.same {w w' : World} {b o : Nat} {x : ArmD} (h : ArmAt w b o x) (hs : w'.heap[b]? = w.heap[b]?) : ArmAt w' b o x := ⟨(cell_same hs _).trans h.1, (cell_same hs _).trans h.2⟩
theorem InsAt.same {w w' : World} {b o : Nat} {x : InsD} (h : InsAt w b o x) (hs : w'.heap[b]? = w.heap[b]?) : InsAt w' b o x := ⟨(cell_same hs _).trans h.1, (cell_same hs _).trans h.2.1, (cell_same hs _).trans h.2.2.1, (cell_same hs _).trans h.2.2.2.1, (cell_same hs _).trans h.2.2.2.2⟩
theorem arms_same {own : OwnF} {c : Nat × Nat × Nat} {w w' : World} {v : Value} {l : List ArmD} (h : ListO (fun g => own g = c) 2 (fun _ => ArmAt) w v l) (hs : ∀ g, own g = c → w'.heap[g]? = w.heap[g]?) : ListO (fun g => own g = c) 2 (fun _ => ArmAt) w' v l := h.imp (fun _ h => h) (fun i b o x hb _ hx => hx.same (hs b hb))
theorem ins_same {own : OwnF} {c : Nat × Nat × Nat} {w w' : World} {v : Value} {l : List InsD} (h : ListO (fun g => own g = c) 5 (fun _ => InsAt) w v l) (hs : ∀ g, own g = c → w'.heap[g]? = w.heap[g]?) : ListO (fun g => own g = c) 5 (fun _ => InsAt) w' v l := h.imp (fun _ h => h) (fun i b o x hb _ hx => hx.same (hs b hb))
theorem PhiO.same {own : OwnF} {i j : Nat} {w w' : World} {b o : Nat} {x : PhiD} (h : PhiO own i j w b o x) (hb : w'.heap[b]? = w.heap[b]?) (hs : ∀ g, own g = (3, i, j) → w'.heap[g]? = w.heap[g]?) : PhiO own i j w' b o x := by
  obtain ⟨h0, av, h1, h2⟩ := h
  exact ⟨(cell_same hb _).trans h0, av, (cell_same hb _).trans h1, arms_same h2 hs⟩
theorem phis_same {own : OwnF} {i : Nat} {w w' : World} {v : Value} {l : List PhiD} (h : ListO (fun g => own g = (1, i, 0)) 2 (PhiO own i) w v l) (hb : ∀ g, own g = (1, i, 0) → w'.heap[g]? = w.heap[g]?) (hs : ∀ g j, own g = (3, i, j) → w'.heap[g]? = w.heap[g]?) : ListO (fun g => own g = (1, i, 0)) 2 (PhiO own i) w' v l :=
  h.imp (fun _ h => h) (fun j b o x hS _ hx => hx.same (hb b hS) (fun g hg => hs g j hg))

/-- Nothing of the program was turned. -/
theorem FnO.same {lo : Nat} {own : OwnF} {w w' : World} {bv : Value} {bs : List BlockD} (h : FnO lo own w bv bs) (hs : ∀ g, (own g).1 ≤ 3 → w'.heap[g]? = w.heap[g]?) (hz : w.heap.size ≤ w'.heap.size) : FnO lo own w' bv bs := by
  refine ⟨h.rows.imp (fun _ h => h) (fun i b o x hb _ hx => ?_), h.low, fun g hg => Nat.lt_of_lt_of_le (h.high g hg) hz, fun g hg j => (frozen_same (hs g hg) j).trans (h.thaw g hg j)⟩
  obtain ⟨pv, lv, c0, c1, c2, c3, c4, c5, hp, hl⟩ := hx
  have hr : w'.heap[b]? = w.heap[b]? := hs b (by rw [hb]; simp)
  exact ⟨pv, lv, (cell_same hr _).trans c0, (cell_same hr _).trans c1, (cell_same hr _).trans c2, (cell_same hr _).trans c3, (cell_same hr _).trans c4, (cell_same hr _).trans c5, phis_same hp (fun g hg => hs g (by rw [hg]; simp)) (fun g j hg => hs g (by rw [hg]; simp)), ins_same hl (fun g hg => hs g (by rw [hg]; simp))⟩
theorem FnO.keep {lo : Nat} {own : OwnF} {w w' : World} {bv : Value} {bs : List BlockD} (h : FnO lo own w bv bs) (hb : Below w.heap.size w w') : FnO lo own w' bv bs :=
  h.same (fun g hg => hb.block g (h.high g hg)) hb.size
/-- It reads as a program. -/
theorem FnO.blocks {lo : Nat} {own : OwnF} {w : World} {bv : Value} {bs : List BlockD} (h : FnO lo own w bv bs) : ListAt lo 6 (BlockAt lo) w bv bs :=
  h.rows.at (fun b hb => h.low b (by rw [hb]; simp)) (fun i b o x hb hx => by
    obtain ⟨pv, lv, c0, c1, c2, c3, c4, c5, hp, hl⟩ := hx
    exact ⟨pv, lv, c0, c1, c2, c3, c4, c5, hp.at (fun b hb => h.low b (by rw [hb]; simp)) (fun j b o x hb hx => by
      obtain ⟨h0, av, h1, h2⟩ := hx
      exact ⟨h0, av, h1, h2.at (fun b hb => h.low b (by rw [hb]; simp)) (fun _ _ _ _ _ h => h)⟩), hl.at (fun b hb => h.low b (by rw [hb]; simp)) (fun _ _ _ _ _ h => h)⟩)
theorem FnO.fnAt {lo : Nat} {own : OwnF} {w : World} {bv : Value} {F : FnD} (h : FnO lo own w bv F.blocks) {vals : Int} (hv : F.values = vals) : FnAtLo lo w (.agg #[bv, .int .i64 vals]) F := ⟨bv, by rw [hv], h.blocks⟩
theorem FnO.low' {lo lo' : Nat} {own : OwnF} {w : World} {bv : Value} {bs : List BlockD} (h : FnO lo own w bv bs) (hl : lo' ≤ lo) : FnO lo' own w bv bs := ⟨h.rows, fun g hg => Nat.le_trans hl (h.low g hg), h.high, h.thaw⟩

/-- The list of a block was turned. -/
theorem FnO.list {lo : Nat} {own : OwnF} {w w' : World} {bv : Value} {bs : List BlockD} (h : FnO lo own w bv bs) {i : Nat} {x : BlockD} (hx : bs[i]? = some x) {l' : List InsD} (hs : ∀ g, (own g).1 ≤ 3 → own g ≠ (2, i, 0) → w'.heap[g]? = w.heap[g]?) (hz : w.heap.size ≤ w'.heap.size) (hf : ∀ g, own g = (2, i, 0) → ∀ j, w'.frozen? ⟨g, j, none⟩ = w.frozen? ⟨g, j, none⟩)
    (hl : ∀ lv, (∀ rb roff n cap, bv = .slice (some ⟨rb, roff, none⟩) n cap → w.cell? ⟨rb, roff + i * 6 + 1, none⟩ = some lv) → ListO (fun g => own g = (2, i, 0)) 5 (fun _ => InsAt) w lv x.list → ListO (fun g => own g = (2, i, 0)) 5 (fun _ => InsAt) w' lv l') : FnO lo own w' bv (bs.set i { x with list := l' }) := by
  have hi : i < bs.length := (List.getElem?_eq_some_iff.1 hx).1
  refine ⟨?_, h.low, fun g hg => Nat.lt_of_lt_of_le (h.high g hg) hz, fun g hg j => ?_⟩
  · obtain ⟨a, cap, rfl, hm, hc⟩ := h.rows
    refine ⟨a, cap, by rw [List.length_set], by rw [List.length_set]; exact hm, fun hp => ?_⟩
    rw [List.length_set] at hp
    obtain ⟨b, off, rfl, hb, hd⟩ := hc hp
    refine ⟨b, off, rfl, hb, fun j y hy => ?_⟩
    have hr : w'.heap[b]? = w.heap[b]? := hs b (by rw [hb]; simp) (by rw [hb]; simp)
    by_cases e : j = i
    · subst e
      rw [List.getElem?_set_self hi] at hy
      cases hy
      obtain ⟨pv, lv, c0, c1, c2, c3, c4, c5, hp, hl0⟩ := hd j x hx
      exact ⟨pv, lv, (cell_same hr _).trans c0, (cell_same hr _).trans c1, (cell_same hr _).trans c2, (cell_same hr _).trans c3, (cell_same hr _).trans c4, (cell_same hr _).trans c5, phis_same hp (fun g hg => hs g (by rw [hg]; simp) (by rw [hg]; simp)) (fun g j hg => hs g (by rw [hg]; simp) (by rw [hg]; simp)), hl _ (fun rb roff n cap e => by simp at e; obtain ⟨⟨rfl, rfl⟩, _⟩ := e; exact c1) hl0⟩
    · rw [List.getElem?_set_ne (by omega)] at hy
      obtain ⟨pv, lv, c0, c1, c2, c3, c4, c5, hp, hl0⟩ := hd j y hy
      exact ⟨pv, lv, (cell_same hr _).trans c0, (cell_same hr _).trans c1, (cell_same hr _).trans c2, (cell_same hr _).trans c3, (cell_same hr _).trans c4, (cell_same hr _).trans c5, phis_same hp (fun g hg => hs g (by rw [hg]; simp) (by rw [hg]; simp)) (fun g j hg => hs g (by rw [hg]; simp) (by rw [hg]; simp)), ins_same hl0 (fun g hg => hs g (by rw [hg]; simp) (by rw [hg]; simp; omega))⟩
  · by_cases e : own g = (2, i, 0)
    · exact (hf g e j).trans (h.thaw g hg j)
    · exact (frozen_same (hs g hg e) j).trans (h.thaw g hg j)

/-- Five cells are put. -/
def putIns (w : World) (b o : Nat) (y : InsD) : World := ((((w.setCell ⟨b, o, none⟩ (.int .i64 y.op)).setCell ⟨b, o + 1, none⟩ (.int .i64 y.d)).setCell ⟨b, o + 2, none⟩ (.int .i64 y.a)).setCell ⟨b, o + 3, none⟩ (.int .i64 y.b)).setCell ⟨b, o + 4, none⟩ (.int .i64 y.n)
theorem putIns_other {w : World} {b o : Nat} {y : InsD} {g : Nat} (h : g ≠ b) : (putIns w b o y).heap[g]? = w.heap[g]? := by
  unfold putIns
  simp only [Below.heap_setCell _ _ _ _ (show g ≠ (⟨b, _, none⟩ : Addr).block from h)]
theorem putIns_size (w : World) (b o : Nat) (y : InsD) : (putIns w b o y).heap.size = w.heap.size := by simp [putIns]
theorem putIns_frozen (w : World) (b o : Nat) (y : InsD) (p : Addr) : (putIns w b o y).frozen? p = w.frozen? p := by simp [putIns]
theorem putIns_cell {w : World} {b o o' : Nat} {y : InsD} (h : o' < o ∨ o + 5 ≤ o') : (putIns w b o y).cell? ⟨b, o', none⟩ = w.cell? ⟨b, o', none⟩ := by
  have hne : ∀ c, c < 5 → (⟨b, o + c, none⟩ : Addr) ≠ ⟨b, o', none⟩ := fun c hc e => by have := congrArg Addr.off e; simp at this; omega
  have h0 : (⟨b, o, none⟩ : Addr) ≠ ⟨b, o', none⟩ := hne 0 (by omega)
  unfold putIns
  rw [World.cell?_setCell_other _ _ _ _ (hne 4 (by omega)), World.cell?_setCell_other _ _ _ _ (hne 3 (by omega)), World.cell?_setCell_other _ _ _ _ (hne 2 (by omega)), World.cell?_setCell_other _ _ _ _ (hne 1 (by omega)), World.cell?_setCell_other _ _ _ _ h0]
theorem putIns_at {w : World} {b o : Nat} {x : InsD} (h : InsAt w b o x) (y : InsD) : InsAt (putIns w b o y) b o y := by
  obtain ⟨h0, h1, h2, h3, h4⟩ := h
  unfold putIns
  refine ⟨?_, ?_, ?_, ?_, ?_⟩
  · rw [World.cell?_setCell_other _ _ _ _ (by simp), World.cell?_setCell_other _ _ _ _ (by simp), World.cell?_setCell_other _ _ _ _ (by simp), World.cell?_setCell_other _ _ _ _ (by simp)]
    exact World.cell?_setCell_same _ _ _ h0
  · rw [World.cell?_setCell_other _ _ _ _ (by simp), World.cell?_setCell_other _ _ _ _ (by simp), World.cell?_setCell_other _ _ _ _ (by simp)]
    exact World.cell?_setCell_same _ _ _ ((World.cell?_setCell_other _ _ _ _ (by simp)).trans h1)
  · rw [World.cell?_setCell_other _ _ _ _ (by simp), World.cell?_setCell_other _ _ _ _ (by simp)]
    exact World.cell?_setCell_same _ _ _ ((World.cell?_setCell_other _ _ _ _ (by simp)).trans ((World.cell?_setCell_other _ _ _ _ (by simp)).trans h2))
  · rw [World.cell?_setCell_other _ _ _ _ (by simp)]
    exact World.cell?_setCell_same _ _ _ ((World.cell?_setCell_other _ _ _ _ (by simp)).trans ((World.cell?_setCell_other _ _ _ _ (by simp)).trans ((World.cell?_setCell_other _ _ _ _ (by simp)).trans h3)))
  · exact World.cell?_setCell_same _ _ _ ((World.cell?_setCell_other _ _ _ _ (by simp)).trans ((World.cell?_setCell_other _ _ _ _ (by simp)).trans ((World.cell?_setCell_other _ _ _ _ (by simp)).trans ((World.cell?_setCell_other _ _ _ _ (by simp)).trans h4))))

/-- A place of the list of block i is put. -/
theorem FnO.puts {lo : Nat} {own : OwnF} {w : World} {bv : Value} {bs : List BlockD} (h : FnO lo own w bv bs) {i k : Nat} {x : BlockD} (hx : bs[i]? = some x) {z : InsD} (hz : x.list[k]? = some z) {rb roff lb loff n cap lcap m : Nat} (hv : bv = .slice (some ⟨rb, roff, none⟩) n cap)
    (hlv : w.cell? ⟨rb, roff + i * 6 + 1, none⟩ = some (.slice (some ⟨lb, loff, none⟩) m lcap)) (y : InsD) : FnO lo own (putIns w lb (loff + k * 5) y) bv (bs.set i { x with list := x.list.set k y }) := by
  have hk := (List.getElem?_eq_some_iff.1 hz).1
  have hlb : own lb = (2, i, 0) ∧ ListO (fun g => own g = (2, i, 0)) 5 (fun _ => InsAt) w (.slice (some ⟨lb, loff, none⟩) m lcap) x.list := by
    have hr := h.rows
    rw [hv] at hr
    obtain ⟨b, off, e, hb, pv, lv, c0, c1, c2, c3, c4, c5, hp, hl⟩ := hr.get hx
    simp at e
    obtain ⟨rfl, rfl⟩ := e
    have e2 := c1.symm.trans hlv
    simp at e2
    subst e2
    obtain ⟨b2, off2, e3, hb2, _⟩ := hl.get hz
    simp at e3
    obtain ⟨rfl, rfl⟩ := e3
    exact ⟨hb2, hl⟩
  refine h.list hx (fun g hg hne => putIns_other (fun e => hne (by rw [e]; exact hlb.1))) (by rw [putIns_size]; exact Nat.le_refl _) (fun g hg j => putIns_frozen _ _ _ _ _) (fun lv hc hl => ?_)
  have e2 := (hc _ _ _ _ hv).symm.trans hlv
  simp at e2
  subst e2
  obtain ⟨a, cap0, e3, hm, hcc⟩ := hl
  simp at e3
  obtain ⟨e3, e4, e5⟩ := e3
  refine ⟨a, cap0, by rw [List.length_set, e3, e4, e5], by rw [List.length_set]; exact hm, fun hp => ?_⟩
  rw [List.length_set] at hp
  obtain ⟨b2, off2, ha, hb2, hd⟩ := hcc hp
  rw [ha] at e3
  simp at e3
  obtain ⟨rfl, rfl⟩ := e3
  refine ⟨_, _, ha, hb2, fun q u hu => ?_⟩
  by_cases e : q = k
  · subst e
    rw [List.getElem?_set_self hk] at hu
    cases hu
    exact putIns_at (hd _ _ hz) y
  · rw [List.getElem?_set_ne (by omega)] at hu
    obtain ⟨q0, q1, q2, q3, q4⟩ := hd _ _ hu
    have hq : ∀ c, c < 5 → (putIns w lb (loff + k * 5) y).cell? ⟨lb, loff + q * 5 + c, none⟩ = w.cell? ⟨lb, loff + q * 5 + c, none⟩ := fun c hc => putIns_cell (by omega)
    exact ⟨(hq 0 (by omega)).trans q0, (hq 1 (by omega)).trans q1, (hq 2 (by omega)).trans q2, (hq 3 (by omega)).trans q3, (hq 4 (by omega)).trans q4⟩
end Go.Proofs.YtldcohhifmpedaaGreat

namespace Go.Proofs.YtldcohhifmpedaaGreat
open Go.ChangeShapes Go.WideShapes Go.ChangeAt Go.RowKit
set_option linter.unusedVariables false

/-- The end of block i was turned: cells 2 to 5 of its place in the row. -/
theorem FnO.turnEnd {lo : Nat} {own : OwnF} {w w' : World} {bv : Value} {bs : List BlockD} (h : FnO lo own w bv bs) {i : Nat} {x : BlockD} (hx : bs[i]? = some x) (t : TermD) {rb roff n cap : Nat} (hv : bv = .slice (some ⟨rb, roff, none⟩) n cap)
    (hs : ∀ g, g ≠ rb → w'.heap[g]? = w.heap[g]?) (hz : w.heap.size ≤ w'.heap.size) (hf : ∀ p, w'.frozen? p = w.frozen? p) (hc : ∀ o, (o < roff + i * 6 + 2 ∨ roff + i * 6 + 6 ≤ o) → w'.cell? ⟨rb, o, none⟩ = w.cell? ⟨rb, o, none⟩)
    (h2 : w'.cell? ⟨rb, roff + i * 6 + 2, none⟩ = some (.int .i64 t.k)) (h3 : w'.cell? ⟨rb, roff + i * 6 + 3, none⟩ = some (.int .i64 t.a)) (h4 : w'.cell? ⟨rb, roff + i * 6 + 4, none⟩ = some (.int .i64 t.t)) (h5 : w'.cell? ⟨rb, roff + i * 6 + 5, none⟩ = some (.int .i64 t.e)) : FnO lo own w' bv (bs.set i { x with term := t }) := by
  have hi : i < bs.length := (List.getElem?_eq_some_iff.1 hx).1
  refine ⟨?_, h.low, fun g hg => Nat.lt_of_lt_of_le (h.high g hg) hz, fun g hg j => (hf _).trans (h.thaw g hg j)⟩
  obtain ⟨a, cap0, e0, hm, hcc⟩ := h.rows
  refine ⟨a, cap0, by rw [List.length_set]; exact e0, by rw [List.length_set]; exact hm, fun hp => ?_⟩
  rw [List.length_set] at hp
  obtain ⟨b, off, ha, hb, hd⟩ := hcc hp
  have e1 := e0.symm.trans hv
  rw [ha] at e1
  simp at e1
  obtain ⟨⟨rfl, rfl⟩, _⟩ := e1
  have hne : ∀ g, own g ≠ (0, 0, 0) → w'.heap[g]? = w.heap[g]? := fun g hg => hs g (fun e => hg (by rw [e]; exact hb))
  refine ⟨b, off, ha, hb, fun j y hy => ?_⟩
  by_cases e : j = i
  · subst e
    rw [List.getElem?_set_self hi] at hy
    cases hy
    obtain ⟨pv, lv, c0, c1, _, _, _, _, hp, hl⟩ := hd j x hx
    refine ⟨pv, lv, (hc _ (by omega)).trans c0, (hc _ (by omega)).trans c1, h2, h3, h4, h5, phis_same hp (fun g hg => hne g (by rw [hg]; simp)) (fun g j hg => hne g (by rw [hg]; simp)), ins_same hl (fun g hg => hne g (by rw [hg]; simp))⟩
  · rw [List.getElem?_set_ne (by omega)] at hy
    obtain ⟨pv, lv, c0, c1, c2, c3, c4, c5, hp, hl⟩ := hd j y hy
    refine ⟨pv, lv, (hc _ (by omega)).trans c0, (hc _ (by omega)).trans c1, (hc _ (by omega)).trans c2, (hc _ (by omega)).trans c3, (hc _ (by omega)).trans c4, (hc _ (by omega)).trans c5, phis_same hp (fun g hg => hne g (by rw [hg]; simp)) (fun g j hg => hne g (by rw [hg]; simp)), ins_same hl (fun g hg => hne g (by rw [hg]; simp))⟩
/-- The cells of a block in the row. -/
theorem FnO.rowC {lo : Nat} {own : OwnF} {w : World} {bv : Value} {bs : List BlockD} (h : FnO lo own w bv bs) {i : Nat} {x : BlockD} (hx : bs[i]? = some x) : ∃ rb roff cap pv lv, bv = .slice (some ⟨rb, roff, none⟩) bs.length cap ∧ own rb = (0, 0, 0) ∧ w.cell? ⟨rb, roff + i * 6, none⟩ = some pv ∧ w.cell? ⟨rb, roff + i * 6 + 1, none⟩ = some lv ∧ w.cell? ⟨rb, roff + i * 6 + 2, none⟩ = some (.int .i64 x.term.k) ∧ w.cell? ⟨rb, roff + i * 6 + 3, none⟩ = some (.int .i64 x.term.a) ∧ w.cell? ⟨rb, roff + i * 6 + 4, none⟩ = some (.int .i64 x.term.t) ∧ w.cell? ⟨rb, roff + i * 6 + 5, none⟩ = some (.int .i64 x.term.e) ∧ ListO (fun g => own g = (1, i, 0)) 2 (PhiO own i) w pv x.phis ∧ ListO (fun g => own g = (2, i, 0)) 5 (fun _ => InsAt) w lv x.list ∧ ∀ o, w.frozen? ⟨rb, o, none⟩ = false := by
  have hi : i < bs.length := (List.getElem?_eq_some_iff.1 hx).1
  obtain ⟨a, cap0, e0, hm, hcc⟩ := h.rows
  obtain ⟨b, off, ha, hb, hd⟩ := hcc (by omega)
  obtain ⟨pv, lv, c0, c1, c2, c3, c4, c5, hp, hl⟩ := hd i x hx
  exact ⟨b, off, cap0, pv, lv, by rw [e0, ha], hb, c0, c1, c2, c3, c4, c5, hp, hl, h.thaw b (by rw [hb]; simp)⟩
/-- Where one of a block goes is put. -/
theorem FnO.putTo {lo : Nat} {own : OwnF} {w : World} {bv : Value} {bs : List BlockD} (h : FnO lo own w bv bs) {i : Nat} {x : BlockD} (hx : bs[i]? = some x) {rb roff n cap : Nat} (hv : bv = .slice (some ⟨rb, roff, none⟩) n cap) (y : Int) : FnO lo own (w.setCell ⟨rb, roff + i * 6 + 4, none⟩ (.int .i64 y)) bv (bs.set i { x with term := { x.term with t := y } }) := by
  obtain ⟨rb', roff', cap', pv, lv, hv', hb, c0, c1, c2, c3, c4, c5, _⟩ := h.rowC hx
  rw [hv] at hv'
  simp at hv'
  obtain ⟨⟨rfl, rfl⟩, _⟩ := hv'
  refine h.turnEnd hx _ hv (fun g hg => Below.heap_setCell _ _ _ g hg) (by simp) (fun p => by simp) (fun o ho => World.cell?_setCell_other _ _ _ _ (by simp <;> omega)) ?_ ?_ ?_ ?_
  · exact (World.cell?_setCell_other _ _ _ _ (by simp)).trans c2
  · exact (World.cell?_setCell_other _ _ _ _ (by simp)).trans c3
  · exact World.cell?_setCell_same _ _ _ c4
  · exact (World.cell?_setCell_other _ _ _ _ (by simp)).trans c5
theorem FnO.putElse {lo : Nat} {own : OwnF} {w : World} {bv : Value} {bs : List BlockD} (h : FnO lo own w bv bs) {i : Nat} {x : BlockD} (hx : bs[i]? = some x) {rb roff n cap : Nat} (hv : bv = .slice (some ⟨rb, roff, none⟩) n cap) (y : Int) : FnO lo own (w.setCell ⟨rb, roff + i * 6 + 5, none⟩ (.int .i64 y)) bv (bs.set i { x with term := { x.term with e := y } }) := by
  obtain ⟨rb', roff', cap', pv, lv, hv', hb, c0, c1, c2, c3, c4, c5, _⟩ := h.rowC hx
  rw [hv] at hv'
  simp at hv'
  obtain ⟨⟨rfl, rfl⟩, _⟩ := hv'
  refine h.turnEnd hx _ hv (fun g hg => Below.heap_setCell _ _ _ g hg) (by simp) (fun p => by simp) (fun o ho => World.cell?_setCell_other _ _ _ _ (by simp <;> omega)) ?_ ?_ ?_ ?_
  · exact (World.cell?_setCell_other _ _ _ _ (by simp)).trans c2
  · exact (World.cell?_setCell_other _ _ _ _ (by simp)).trans c3
  · exact (World.cell?_setCell_other _ _ _ _ (by simp)).trans c4
  · exact World.cell?_setCell_same _ _ _ c5
/-- Four cells are put. -/
def putEnd (w : World) (b o : Nat) (t : TermD) : World := (((w.setCell ⟨b, o, none⟩ (.int .i64 t.k)).setCell ⟨b, o + 1, none⟩ (.int .i64 t.a)).setCell ⟨b, o + 2, none⟩ (.int .i64 t.t)).setCell ⟨b, o + 3, none⟩ (.int .i64 t.e)
theorem FnO.putTerm {lo : Nat} {own : OwnF} {w : World} {bv : Value} {bs : List BlockD} (h : FnO lo own w bv bs) {i : Nat} {x : BlockD} (hx : bs[i]? = some x) {rb roff n cap : Nat} (hv : bv = .slice (some ⟨rb, roff, none⟩) n cap) (t : TermD) : FnO lo own (putEnd w rb (roff + i * 6 + 2) t) bv (bs.set i { x with term := t }) := by
  obtain ⟨rb', roff', cap', pv, lv, hv', hb, c0, c1, c2, c3, c4, c5, _⟩ := h.rowC hx
  rw [hv] at hv'
  simp at hv'
  obtain ⟨⟨rfl, rfl⟩, _⟩ := hv'
  have other : ∀ o, (o < roff + i * 6 + 2 ∨ roff + i * 6 + 6 ≤ o) → (putEnd w rb (roff + i * 6 + 2) t).cell? ⟨rb, o, none⟩ = w.cell? ⟨rb, o, none⟩ := fun o ho => by
    unfold putEnd
    rw [World.cell?_setCell_other _ _ _ _ (by simp <;> omega), World.cell?_setCell_other _ _ _ _ (by simp <;> omega), World.cell?_setCell_other _ _ _ _ (by simp <;> omega), World.cell?_setCell_other _ _ _ _ (by simp <;> omega)]
  refine h.turnEnd hx _ hv (fun g hg => ?_) (by simp [putEnd]) (fun p => by simp [putEnd]) other ?_ ?_ ?_ ?_
  · unfold putEnd
    simp only [Below.heap_setCell _ _ _ _ (show g ≠ (⟨rb, _, none⟩ : Addr).block from hg)]
  · unfold putEnd
    rw [World.cell?_setCell_other _ _ _ _ (by simp), World.cell?_setCell_other _ _ _ _ (by simp), World.cell?_setCell_other _ _ _ _ (by simp)]
    exact World.cell?_setCell_same _ _ _ c2
  · unfold putEnd
    rw [World.cell?_setCell_other _ _ _ _ (by simp), World.cell?_setCell_other _ _ _ _ (by simp)]
    exact World.cell?_setCell_same _ _ _ ((World.cell?_setCell_other _ _ _ _ (by simp)).trans c3)
  · unfold putEnd
    rw [World.cell?_setCell_other _ _ _ _ (by simp)]
    exact World.cell?_setCell_same _ _ _ ((World.cell?_setCell_other _ _ _ _ (by simp)).trans ((World.cell?_setCell_other _ _ _ _ (by simp)).trans c4))
  · unfold putEnd
    exact World.cell?_setCell_same _ _ _ ((World.cell?_setCell_other _ _ _ _ (by simp)).trans ((World.cell?_setCell_other _ _ _ _ (by simp)).trans ((World.cell?_setCell_other _ _ _ _ (by simp)).trans c5)))
/-- Where an arm comes from is put. -/
theorem FnO.putArm {lo : Nat} {own : OwnF} {w : World} {bv : Value} {bs : List BlockD} (h : FnO lo own w bv bs) {i k j : Nat} {x : BlockD} (hx : bs[i]? = some x) {p : PhiD} (hp : x.phis[k]? = some p) {a : ArmD} (ha : p.arms[j]? = some a) (y : Int) :
    ∃ ab aoff, (own ab = (3, i, k) ∧ (∀ rb roff n cap pb poff pn pcap, bv = .slice (some ⟨rb, roff, none⟩) n cap → w.cell? ⟨rb, roff + i * 6, none⟩ = some (.slice (some ⟨pb, poff, none⟩) pn pcap) → ∃ an acap, w.cell? ⟨pb, poff + k * 2 + 1, none⟩ = some (.slice (some ⟨ab, aoff, none⟩) an acap))) ∧ w.cell? ⟨ab, aoff + j * 2, none⟩ = some (.int .i64 a.fr) ∧ w.frozen? ⟨ab, aoff + j * 2, none⟩ = false ∧ FnO lo own (w.setCell ⟨ab, aoff + j * 2, none⟩ (.int .i64 y)) bv (bs.set i { x with phis := x.phis.set k { p with arms := p.arms.set j { a with fr := y } } }) := by
  have hi : i < bs.length := (List.getElem?_eq_some_iff.1 hx).1
  have hk : k < x.phis.length := (List.getElem?_eq_some_iff.1 hp).1
  have hj : j < p.arms.length := (List.getElem?_eq_some_iff.1 ha).1
  obtain ⟨rb, roff, rcap, pv, lv, hv, hrb, c0, c1, c2, c3, c4, c5, hps, hls, _⟩ := h.rowC hx
  obtain ⟨pa, pcap, rfl, hpm, hpc⟩ := hps
  obtain ⟨pb, poff, rfl, hpb, hpd⟩ := hpc (by omega)
  obtain ⟨p0, av, p1, hav⟩ := hpd k p hp
  obtain ⟨aa, acap, rfl, ham, hac⟩ := hav
  obtain ⟨ab, aoff, rfl, hab, had⟩ := hac (by omega)
  have ha0 := had j a ha
  have hfz : ∀ o, w.frozen? ⟨ab, o, none⟩ = false := h.thaw ab (by rw [hab]; simp)
  refine ⟨ab, aoff, ⟨hab, fun rb' roff' n' cap' pb' poff' pn' pcap' e1 e2 => ?_⟩, ha0.1, hfz _, ?_⟩
  · rw [hv] at e1
    simp at e1
    obtain ⟨⟨rfl, rfl⟩, _⟩ := e1
    rw [c0] at e2
    simp at e2
    obtain ⟨⟨rfl, rfl⟩, _⟩ := e2
    exact ⟨_, _, p1⟩
  · have hs : ∀ g, own g ≠ (3, i, k) → (w.setCell ⟨ab, aoff + j * 2, none⟩ (.int .i64 y)).heap[g]? = w.heap[g]? := fun g hg => Below.heap_setCell _ _ _ g (fun e => hg (by rw [e]; exact hab))
    refine ⟨?_, h.low, fun g hg => by simpa using h.high g hg, fun g hg o => by simpa using h.thaw g hg o⟩
    refine ⟨some ⟨rb, roff, none⟩, rcap, by rw [List.length_set]; exact hv, ?_, fun _ => ⟨rb, roff, rfl, hrb, fun q z hq => ?_⟩⟩
    · obtain ⟨_, _, e, hm, _⟩ := h.rows
      rw [List.length_set]; exact hm
    · have hr : (w.setCell ⟨ab, aoff + j * 2, none⟩ (.int .i64 y)).heap[rb]? = w.heap[rb]? := hs rb (by rw [hrb]; simp)
      by_cases e : q = i
      · subst e
        rw [List.getElem?_set_self hi] at hq
        cases hq
        refine ⟨_, lv, (cell_same hr _).trans c0, (cell_same hr _).trans c1, (cell_same hr _).trans c2, (cell_same hr _).trans c3, (cell_same hr _).trans c4, (cell_same hr _).trans c5, ?_, ins_same hls (fun g hg => hs g (by rw [hg]; simp))⟩
        refine ⟨some ⟨pb, poff, none⟩, pcap, by rw [List.length_set], by rw [List.length_set]; exact hpm, fun _ => ⟨pb, poff, rfl, hpb, fun u r hu => ?_⟩⟩
        have hpr : (w.setCell ⟨ab, aoff + j * 2, none⟩ (.int .i64 y)).heap[pb]? = w.heap[pb]? := hs pb (by rw [hpb]; simp)
        by_cases e2 : u = k
        · subst e2
          rw [List.getElem?_set_self hk] at hu
          cases hu
          refine ⟨(cell_same hpr _).trans p0, _, (cell_same hpr _).trans p1, some ⟨ab, aoff, none⟩, acap, by rw [List.length_set], by rw [List.length_set]; exact ham, fun _ => ⟨ab, aoff, rfl, hab, fun s z hz => ?_⟩⟩
          by_cases e3 : s = j
          · subst e3
            rw [List.getElem?_set_self hj] at hz
            cases hz
            exact ⟨World.cell?_setCell_same _ _ _ ha0.1, (World.cell?_setCell_other _ _ _ _ (by simp)).trans ha0.2⟩
          · rw [List.getElem?_set_ne (by omega)] at hz
            have h9 := had s z hz
            exact ⟨(World.cell?_setCell_other _ _ _ _ (by simp <;> omega)).trans h9.1, (World.cell?_setCell_other _ _ _ _ (by simp <;> omega)).trans h9.2⟩
        · rw [List.getElem?_set_ne (by omega)] at hu
          exact (hpd u r hu).same hpr (fun g hg => hs g (by rw [hg]; simp; omega))
      · rw [List.getElem?_set_ne (by omega)] at hq
        obtain ⟨_, _, e5, _, hcc⟩ := h.rows
        rw [hv] at e5
        simp at e5
        obtain ⟨b5, o5, e6, _, hd⟩ := hcc (by omega)
        rw [← e5.1] at e6
        simp at e6
        obtain ⟨rfl, rfl⟩ := e6
        obtain ⟨pv', lv', d0, d1, d2, d3, d4, d5, hp', hl'⟩ := hd q z hq
        exact ⟨pv', lv', (cell_same hr _).trans d0, (cell_same hr _).trans d1, (cell_same hr _).trans d2, (cell_same hr _).trans d3, (cell_same hr _).trans d4, (cell_same hr _).trans d5, phis_same hp' (fun g hg => hs g (by rw [hg]; simp)) (fun g j' hg => hs g (by rw [hg]; simp; omega)), ins_same hl' (fun g hg => hs g (by rw [hg]; simp))⟩
end Go.Proofs.YtldcohhifmpedaaGreat

namespace Go.Proofs.YtldcohhifmpedaaGreat
open Go.ChangeShapes Go.WideShapes Go.ChangeAt Go.RowKit
set_option linter.unusedVariables false

theorem owns_cell {w : World} {lo g n cap s : Nat} {T : TypeId} {xs : List Value} (h : w.ownsRow lo T s (.slice (some ⟨g, 0, none⟩) n cap) n xs) {j : Nat} {u : Value} (hu : xs[j]? = some u) : w.cell? ⟨g, j, none⟩ = some u := by
  rcases h with ⟨hl, ⟨h0, _⟩ | ⟨g', cap', cur, hv, _, hg, h1, h2, h3, h4⟩⟩
  · cases h0
  · cases hv
    have hj : j < xs.length := (List.getElem?_eq_some_iff.1 hu).1
    rw [← h4, List.getElem?_take, if_pos (by omega)] at hu
    have hj2 : j < cur.size := by
      have := (List.getElem?_eq_some_iff.1 hu).1
      simpa using this
    simp [World.cell?, hg, hj2]
    simpa [hj2] using hu
/-- The row has a block of memory of its own, with room. -/
def RowRoom (own : OwnF) (w : World) (lo : Nat) (bv : Value) (n : Nat) : Prop := (bv = .slice none 0 0 ∧ n = 0) ∨ ∃ g cap cur, bv = .slice (some ⟨g, 0, none⟩) n cap ∧ own g = (0, 0, 0) ∧ lo ≤ g ∧ w.heap[g]? = some (.cells cur 56 (0, 0)) ∧ n ≤ cap ∧ cap ≤ maxLen ∧ cur.size = cap * 6
theorem RowRoom.same {own : OwnF} {w w' : World} {lo : Nat} {bv : Value} {n : Nat} (h : RowRoom own w lo bv n) (hs : ∀ g, own g = (0, 0, 0) → w'.heap[g]? = w.heap[g]?) : RowRoom own w' lo bv n := by
  rcases h with h | ⟨g, cap, cur, h1, h2, h3, h4, h5⟩
  · exact .inl h
  · exact .inr ⟨g, cap, cur, h1, h2, h3, (hs g h2).trans h4, h5⟩
theorem RowRoom.keep {own : OwnF} {w w' : World} {lo : Nat} {bv : Value} {n : Nat} (h : RowRoom own w lo bv n) (hb : Below w.heap.size w w') : RowRoom own w' lo bv n := by
  rcases h with h | ⟨g, cap, cur, h1, h2, h3, h4, h5⟩
  · exact .inl h
  · exact .inr ⟨g, cap, cur, h1, h2, h3, (hb.block g (Array.getElem?_eq_some_iff.1 h4).1).trans h4, h5⟩
theorem RowRoom.set {own : OwnF} {w : World} {lo : Nat} {bv : Value} {n : Nat} (h : RowRoom own w lo bv n) (b o : Nat) (v : Value) : RowRoom own (w.setCell ⟨b, o, none⟩ v) lo bv n := by
  rcases h with h | ⟨g, cap, cur, h1, h2, h3, h4, h5, h6, h7⟩
  · exact .inl h
  · by_cases e : g = b
    · subst e
      refine .inr ⟨g, cap, cur.setIfInBounds o v, h1, h2, h3, ?_, h5, h6, by simpa using h7⟩
      obtain ⟨hl, hk⟩ := Array.getElem?_eq_some_iff.1 h4
      show (w.heap.modify g _)[g]? = _
      rw [Array.getElem?_eq_getElem (by rw [Array.size_modify]; exact hl), Array.getElem_modify_self, hk]
      rfl
    · exact .inr ⟨g, cap, cur, h1, h2, h3, (Below.heap_setCell _ _ _ g e).trans h4, h5, h6, h7⟩
theorem RowRoom.owns {own : OwnF} {w : World} {lo : Nat} {bv : Value} {n : Nat} (h : RowRoom own w lo bv n) : ∃ xs, w.ownsRow lo 56 6 bv n xs := by
  rcases h with ⟨rfl, rfl⟩ | ⟨g, cap, cur, rfl, h2, h3, h4, h5, h6, h7⟩
  · exact ⟨[], by simp, .inl ⟨rfl, rfl⟩⟩
  · refine ⟨cur.toList.take (n * 6), ?_, .inr ⟨g, cap, cur, rfl, h3, h4, h5, h6, h7, rfl⟩⟩
    rw [List.length_take, Array.length_toList, h7]
    exact Nat.min_eq_left (Nat.mul_le_mul_right 6 h5)
theorem RowRoom.of {own : OwnF} {w : World} {lo : Nat} {bv : Value} {n : Nat} {xs : List Value} (h : w.ownsRow lo 56 6 bv n xs) (ho : ∀ g, bv.ownBlock = some g → own g = (0, 0, 0)) : RowRoom own w lo bv n := by
  rcases h.2 with h0 | ⟨g, cap, cur, rfl, h1, h2, h3, h4, h5, _⟩
  · exact .inl h0
  · exact .inr ⟨g, cap, cur, rfl, ho g rfl, h1, h2, h3, h4, h5⟩
theorem RowRoom.low {own : OwnF} {w : World} {lo lo' : Nat} {bv : Value} {n : Nat} (h : RowRoom own w lo bv n) (hl : lo' ≤ lo) : RowRoom own w lo' bv n := by
  rcases h with h | ⟨g, cap, cur, h1, h2, h3, h4⟩
  · exact .inl h
  · exact .inr ⟨g, cap, cur, h1, h2, Nat.le_trans hl h3, h4⟩
theorem RowRoom.blk {own : OwnF} {w : World} {lo : Nat} {bv : Value} {n : Nat} (h : RowRoom own w lo bv n) {g : Nat} (hg : bv.ownBlock = some g) : own g = (0, 0, 0) := by
  rcases h with ⟨rfl, rfl⟩ | ⟨g', cap, cur, rfl, h2, _⟩
  · simp [Value.ownBlock] at hg
  · simp [Value.ownBlock] at hg
    rw [← hg]
    exact h2
/-- Whose is what, once the row lies in block g. -/
def rowAt (own : OwnF) (g : Nat) : OwnF := fun b => if b = g then (0, 0, 0) else if own b = (0, 0, 0) then (4, 0, 0) else own b
theorem rowAt_kind {own : OwnF} {g : Nat} {b : Nat} {c : Nat × Nat × Nat} (hc : own b = c) (h0 : c ≠ (0, 0, 0)) (hb : b ≠ g) : rowAt own g b = c := by
  unfold rowAt
  rw [if_neg hb, if_neg (by rw [hc]; exact h0)]
  exact hc
theorem rowAt_out {own : OwnF} {g b : Nat} (h : 3 < (own b).1) (hb : b ≠ g) : 3 < (rowAt own g b).1 := by
  unfold rowAt
  rw [if_neg hb]
  split
  · simp
  · exact h
/-- A block without phis and places is added at the end. -/
theorem FnO.snoc {lo : Nat} {own : OwnF} {w w' : World} {bv v' : Value} {bs : List BlockD} {xs : List Value} (h : FnO lo own w bv bs) (hr : RowRoom own w lo bv bs.length) (hxs : w.ownsRow lo 56 6 bv bs.length xs) (t : TermD)
    (hown : w'.ownsRow lo 56 6 v' (bs.length + 1) (xs ++ [.slice none 0 0, .slice none 0 0, .int .i64 t.k, .int .i64 t.a, .int .i64 t.t, .int .i64 t.e])) (hg : w.grownBy w' bv.ownBlock) (ho : v'.ownBlock = bv.ownBlock ∨ v'.ownBlock = some w.heap.size) (hm : bs.length ≤ 1000000) :
    ∃ g', v'.ownBlock = some g' ∧ (own g' = (0, 0, 0) ∨ g' = w.heap.size) ∧ FnO lo (rowAt own g') w' v' (bs ++ [⟨[], [], t⟩]) ∧ RowRoom (rowAt own g') w' lo v' (bs.length + 1) := by
  obtain ⟨g, cap, cur, hv, hlo, hgc, h1, h2, h3, h4⟩ : ∃ g cap cur, v' = .slice (some ⟨g, 0, none⟩) (bs.length + 1) cap ∧ lo ≤ g ∧ w'.heap[g]? = some (.cells cur 56 (0, 0)) ∧ bs.length + 1 ≤ cap ∧ cap ≤ maxLen ∧ cur.size = cap * 6 ∧ cur.toList.take ((bs.length + 1) * 6) = xs ++ [.slice none 0 0, .slice none 0 0, .int .i64 t.k, .int .i64 t.a, .int .i64 t.t, .int .i64 t.e] := by
    rcases hown.2 with ⟨_, h0⟩ | h0
    · omega
    · exact h0
  subst hv
  have hgo : own g = (0, 0, 0) ∨ g = w.heap.size := by
    rcases ho with e | e
    · exact .inl (hr.blk (e.symm.trans rfl))
    · simp [Value.ownBlock] at e
      exact .inr e
  have hne : ∀ b c, own b = c → c ≠ (0, 0, 0) → c.1 ≤ 3 → b ≠ g := fun b c hc h0 h3 e => by
    subst e
    rcases hgo with h9 | h9
    · rw [hc] at h9; exact h0 h9
    · have := h.high b (by rw [hc]; exact h3)
      omega
  have hsame : ∀ b c, own b = c → c ≠ (0, 0, 0) → c.1 ≤ 3 → w'.heap[b]? = w.heap[b]? := fun b c hc h0 h3 => hg.block b (h.high b (by rw [hc]; exact h3)) (fun e => by
    have := hr.blk e.symm
    rw [hc] at this
    exact h0 this)
  have hlen : xs.length = bs.length * 6 := hxs.1
  have hw' : ∀ j u, (xs ++ [.slice none 0 0, .slice none 0 0, .int .i64 t.k, .int .i64 t.a, .int .i64 t.t, .int .i64 t.e])[j]? = some u → w'.cell? ⟨g, j, none⟩ = some u := fun j u hu => owns_cell hown hu
  have hold : ∀ i c, i < bs.length → c < 6 → ∀ rb kc u, bv = .slice (some ⟨rb, 0, none⟩) bs.length kc → w.cell? ⟨rb, i * 6 + c, none⟩ = some u → w'.cell? ⟨g, i * 6 + c, none⟩ = some u := fun i c hi hc rb kc u e hu => by
    have hlt : i * 6 + c < xs.length := by omega
    obtain ⟨z, hz⟩ : ∃ z, xs[i * 6 + c]? = some z := ⟨xs[i * 6 + c], List.getElem?_eq_getElem hlt⟩
    rw [e] at hxs
    have h9 := owns_cell hxs hz
    rw [h9] at hu
    cases hu
    exact hw' _ _ (by rw [List.getElem?_append_left hlt]; exact hz)
  refine ⟨g, rfl, hgo, ⟨?_, fun b hb => ?_, fun b hb => ?_, fun b hb j => ?_⟩, .inr ⟨g, cap, cur, rfl, by simp [rowAt], hlo, hgc, h1, h2, h3⟩⟩
  · refine ⟨some ⟨g, 0, none⟩, cap, by simp, by simp; omega, fun _ => ⟨g, 0, rfl, by simp [rowAt], fun i y hy => ?_⟩⟩
    rw [Nat.zero_add]
    by_cases hi : i < bs.length
    · rw [List.getElem?_append_left hi] at hy
      obtain ⟨rb, roff, rcap, pv, lv, hv, hrb, c0, c1, c2, c3, c4, c5, hp, hl, _⟩ := h.rowC hy
      have hz0 : roff = 0 := by
        rcases hr with ⟨e, _⟩ | ⟨g1, cap1, cur1, e, _⟩
        · rw [hv] at e; cases e
        · rw [hv] at e; simp at e; exact e.1.2
      subst hz0
      simp only [Nat.zero_add] at c0 c1 c2 c3 c4 c5
      have sp : ∀ b, own b = (1, i, 0) → w'.heap[b]? = w.heap[b]? := fun b hb => hsame b _ hb (by simp) (by simp)
      have sl : ∀ b, own b = (2, i, 0) → w'.heap[b]? = w.heap[b]? := fun b hb => hsame b _ hb (by simp) (by simp)
      have sa : ∀ b j, own b = (3, i, j) → w'.heap[b]? = w.heap[b]? := fun b j hb => hsame b _ hb (by simp) (by simp)
      refine ⟨pv, lv, hold i 0 hi (by omega) rb rcap _ hv c0, hold i 1 hi (by omega) rb rcap _ hv c1, hold i 2 hi (by omega) rb rcap _ hv c2, hold i 3 hi (by omega) rb rcap _ hv c3, hold i 4 hi (by omega) rb rcap _ hv c4, hold i 5 hi (by omega) rb rcap _ hv c5, ?_, ?_⟩
      · refine (phis_same hp sp sa).imp (fun b hb => rowAt_kind hb (by simp) (hne b _ hb (by simp) (by simp))) (fun q b o z hb _ hz => ?_)
        obtain ⟨q0, av, q1, q2⟩ := hz
        exact ⟨q0, av, q1, q2.imp (fun b hb => rowAt_kind hb (by simp) (hne b _ hb (by simp) (by simp))) (fun _ _ _ _ _ _ h => h)⟩
      · exact (ins_same hl sl).imp (fun b hb => rowAt_kind hb (by simp) (hne b _ hb (by simp) (by simp))) (fun _ _ _ _ _ _ h => h)
    · have hil : i = bs.length := by
        have := (List.getElem?_eq_some_iff.1 hy).1
        simp at this
        omega
      subst hil
      simp at hy
      subst hy
      have nw : ∀ c u, ([.slice none 0 0, .slice none 0 0, .int .i64 t.k, .int .i64 t.a, .int .i64 t.t, .int .i64 t.e] : List Value)[c]? = some u → w'.cell? ⟨g, bs.length * 6 + c, none⟩ = some u := fun c u hu => hw' _ _ (by rw [List.getElem?_append_right (by omega), show bs.length * 6 + c - xs.length = c by omega]; exact hu)
      exact ⟨_, _, nw 0 _ rfl, nw 1 _ rfl, nw 2 _ rfl, nw 3 _ rfl, nw 4 _ rfl, nw 5 _ rfl, ListO.nil _ _, ListO.nil _ _⟩
  · unfold rowAt at hb
    split at hb
    · rename_i e; rw [e]; exact hlo
    · split at hb
      · simp at hb
      · exact h.low b hb
  · unfold rowAt at hb
    split at hb
    · rename_i e; rw [e]; exact (Array.getElem?_eq_some_iff.1 hgc).1
    · split at hb
      · simp at hb
      · exact Nat.lt_of_lt_of_le (h.high b hb) hg.size
  · unfold rowAt at hb
    split at hb
    · rename_i e; rw [e]; simp [World.frozen?, hgc]
    · split at hb
      · simp at hb
      · rename_i e1 e2
        exact (frozen_same (hsame b _ rfl e2 hb) j).trans (h.thaw b hb j)
def GivesOR (w : World) (F : FnD) (e : Ending) (w' : World) : Prop := ∃ bv own, e = .returned (.agg #[bv, .int .i64 F.values]) ∧ FnO w.heap.size own w' bv F.blocks ∧ RowRoom own w' w.heap.size bv F.blocks.length ∧ Below w.heap.size w w'
end Go.Proofs.YtldcohhifmpedaaGreat

namespace Go.Proofs.YtldcohhifmpedaaGreat
open Go.ChangeShapes Go.WideShapes Go.ChangeAt Go.RowKit
set_option linter.unusedVariables false

def insC (l : List InsD) : List Value := l.flatMap (fun x => [.int .i64 x.op, .int .i64 x.d, .int .i64 x.a, .int .i64 x.b, .int .i64 x.n])
theorem insC_len (l : List InsD) : (insC l).length = l.length * 5 := by
  induction l with
  | nil => rfl
  | cons x l ih =>
    show (_ ++ insC l).length = _
    rw [List.length_append, ih, List.length_cons]
    simp
    omega
theorem insC_snoc (l : List InsD) (x : InsD) : insC (l ++ [x]) = insC l ++ [.int .i64 x.op, .int .i64 x.d, .int .i64 x.a, .int .i64 x.b, .int .i64 x.n] := by simp [insC]
theorem insC_cons (x : InsD) (l : List InsD) : insC (x :: l) = [.int .i64 x.op, .int .i64 x.d, .int .i64 x.a, .int .i64 x.b, .int .i64 x.n] ++ insC l := rfl
theorem insC_get {l : List InsD} {i : Nat} {x : InsD} (hx : l[i]? = some x) {c : Nat} (hc : c < 5) : (insC l)[i * 5 + c]? = [Value.int .i64 x.op, .int .i64 x.d, .int .i64 x.a, .int .i64 x.b, .int .i64 x.n][c]? := by
  induction l generalizing i with
  | nil => simp at hx
  | cons y l ih =>
    rw [insC_cons]
    cases i with
    | zero =>
      simp at hx
      subst hx
      rw [List.getElem?_append_left (by simp; omega)]
      simp
    | succ i =>
      simp at hx
      rw [List.getElem?_append_right (by simp; omega), ← ih hx]
      congr 1
      simp
      omega
/-- A list of places in memory of the call's own, in blocks from lo on. -/
def OwnIns (w : World) (lo : Nat) (v : Value) (l : List InsD) : Prop := w.ownsRow lo 59 5 v l.length (insC l)
theorem ownIns_nil (w : World) (lo : Nat) : OwnIns w lo (.slice none 0 0) [] := ⟨by simp [insC], .inl ⟨rfl, rfl⟩⟩
theorem OwnIns.same {w w' : World} {lo : Nat} {v : Value} {l : List InsD} (h : OwnIns w lo v l) (hs : ∀ g, v.ownBlock = some g → w'.heap[g]? = w.heap[g]?) : OwnIns w' lo v l := by
  obtain ⟨h0, h1⟩ := h
  refine ⟨h0, ?_⟩
  rcases h1 with h1 | ⟨g, cap, cur, rfl, hlo, hg, h2⟩
  · exact .inl h1
  · exact .inr ⟨g, cap, cur, rfl, hlo, (hs g rfl).trans hg, h2⟩
theorem OwnIns.lt {w : World} {lo : Nat} {v : Value} {l : List InsD} (h : OwnIns w lo v l) {g : Nat} (hg : v.ownBlock = some g) : lo ≤ g ∧ g < w.heap.size ∧ ∀ j, w.frozen? ⟨g, j, none⟩ = false := by
  rcases h.2 with ⟨rfl, _⟩ | ⟨g', cap, cur, rfl, hlo, hh, _⟩
  · simp [Value.ownBlock] at hg
  · simp [Value.ownBlock] at hg
    subst hg
    exact ⟨hlo, (Array.getElem?_eq_some_iff.1 hh).1, fun j => by simp [World.frozen?, hh]⟩
theorem OwnIns.keep {w w' : World} {lo : Nat} {v : Value} {l : List InsD} (h : OwnIns w lo v l) (hb : Below w.heap.size w w') : OwnIns w' lo v l := h.same (fun g hg => hb.block g (h.lt hg).2.1)
theorem OwnIns.low {w : World} {lo lo' : Nat} {v : Value} {l : List InsD} (h : OwnIns w lo v l) (hl : lo' ≤ lo) : OwnIns w lo' v l := by
  obtain ⟨h0, h1⟩ := h
  refine ⟨h0, ?_⟩
  rcases h1 with h1 | ⟨g, cap, cur, rfl, hlo, h2⟩
  · exact .inl h1
  · exact .inr ⟨g, cap, cur, rfl, by omega, h2⟩
theorem OwnIns.form {w : World} {lo : Nat} {v : Value} {l : List InsD} (h : OwnIns w lo v l) : ∃ a c, v = .slice a l.length c := by
  rcases h.2 with ⟨rfl, h0⟩ | ⟨g, cap, cur, rfl, _⟩
  · exact ⟨none, 0, by rw [h0]⟩
  · exact ⟨_, _, rfl⟩
theorem OwnIns.listO {w : World} {lo : Nat} {v : Value} {l : List InsD} (h : OwnIns w lo v l) {S : Nat → Prop} (hS : ∀ g, v.ownBlock = some g → S g) : ListO S 5 (fun _ => InsAt) w v l := by
  have hmm : maxLen ≤ 9223372036854775807 := by decide
  rcases h.2 with ⟨rfl, h0⟩ | ⟨g, cap, cur, rfl, hlo, hg, h1, h2, h3, h4⟩
  · exact ⟨none, 0, by rw [h0], by omega, fun hp => absurd hp (by omega)⟩
  · refine ⟨some ⟨g, 0, none⟩, cap, rfl, by omega, fun hp => ⟨g, 0, rfl, hS g rfl, fun i x hx => ?_⟩⟩
    rw [Nat.zero_add]
    have key : ∀ c u, c < 5 → [Value.int .i64 x.op, .int .i64 x.d, .int .i64 x.a, .int .i64 x.b, .int .i64 x.n][c]? = some u → w.cell? ⟨g, i * 5 + c, none⟩ = some u := fun c u hc hu => owns_cell h (by rw [insC_get hx hc]; exact hu)
    exact ⟨key 0 _ (by omega) rfl, key 1 _ (by omega) rfl, key 2 _ (by omega) rfl, key 3 _ (by omega) rfl, key 4 _ (by omega) rfl⟩
theorem ownIns_next {w : World} {lo n : Nat} {v : Value} {l : List InsD} {x : InsD} (hn : l.length = n) (h : w.ownsRow lo 59 5 v (n + 1) (insC l ++ [.int .i64 x.op, .int .i64 x.d, .int .i64 x.a, .int .i64 x.b, .int .i64 x.n])) : OwnIns w lo v (l ++ [x]) := by
  unfold OwnIns
  rw [List.length_append, insC_snoc, List.length_singleton, hn]
  exact h
/-- A block of memory that was nobody's is the list of block i. -/
def listAt (own : OwnF) (lv : Value) (i : Nat) : OwnF := fun b => if lv.ownBlock = some b then (2, i, 0) else own b
theorem listAt_kind {own : OwnF} {lv : Value} {i b : Nat} (hno : ∀ g, lv.ownBlock = some g → 3 < (own g).1) (hb : (own b).1 ≤ 3) : listAt own lv i b = own b := by
  unfold listAt
  rw [if_neg]
  intro e
  have := hno b e
  omega
theorem FnO.claim {lo : Nat} {own : OwnF} {w : World} {bv : Value} {bs : List BlockD} (h : FnO lo own w bv bs) {lv : Value} {ys : List InsD} (hlv : OwnIns w lo lv ys) (hno : ∀ g, lv.ownBlock = some g → 3 < (own g).1) : FnO lo (listAt own lv bs.length) w bv bs := by
  have hk : ∀ {b : Nat} {c : Nat × Nat × Nat}, own b = c → c.1 ≤ 3 → listAt own lv bs.length b = c := fun {b c} hb hc => (listAt_kind hno (by rw [hb]; exact hc)).trans hb
  refine ⟨h.rows.imp (fun b hb => hk hb (by simp)) (fun i b o x hb hi hx => ?_), fun g hg => ?_, fun g hg => ?_, fun g hg j => ?_⟩
  · obtain ⟨pv, lv', c0, c1, c2, c3, c4, c5, hp, hl⟩ := hx
    refine ⟨pv, lv', c0, c1, c2, c3, c4, c5, hp.imp (fun b hb => hk hb (by simp)) (fun q b o z hb _ hz => ?_), hl.imp (fun b hb => hk hb (by simp)) (fun _ _ _ _ _ _ h => h)⟩
    obtain ⟨q0, av, q1, q2⟩ := hz
    exact ⟨q0, av, q1, q2.imp (fun b hb => hk hb (by simp)) (fun _ _ _ _ _ _ h => h)⟩
  all_goals
    unfold listAt at hg
    split at hg
    · rename_i e
      have := hlv.lt e
      first | exact this.1 | exact this.2.1 | exact this.2.2 j
    · first | exact h.low g hg | exact h.high g hg | exact h.thaw g hg j
theorem RowRoom.claim {own : OwnF} {w : World} {lo : Nat} {bv : Value} {n i : Nat} (h : RowRoom own w lo bv n) {lv : Value} (hno : ∀ g, lv.ownBlock = some g → 3 < (own g).1) : RowRoom (listAt own lv i) w lo bv n := by
  rcases h with h | ⟨g, cap, cur, h1, h2, h3⟩
  · exact .inl h
  · exact .inr ⟨g, cap, cur, h1, (listAt_kind hno (by rw [h2]; simp)).trans h2, h3⟩
/-- A block without phis, with a list of its own, is added at the end. -/
theorem FnO.snoc1 {lo : Nat} {own : OwnF} {w w' : World} {bv v' : Value} {bs : List BlockD} {xs : List Value} (h : FnO lo own w bv bs) (lv : Value) (ys : List InsD) (hlv : OwnIns w lo lv ys) (hlo1 : ∀ g, lv.ownBlock = some g → own g = (2, bs.length, 0)) (hr : RowRoom own w lo bv bs.length) (hxs : w.ownsRow lo 56 6 bv bs.length xs) (t : TermD)
    (hown : w'.ownsRow lo 56 6 v' (bs.length + 1) (xs ++ [.slice none 0 0, lv, .int .i64 t.k, .int .i64 t.a, .int .i64 t.t, .int .i64 t.e])) (hg : w.grownBy w' bv.ownBlock) (ho : v'.ownBlock = bv.ownBlock ∨ v'.ownBlock = some w.heap.size) (hm : bs.length ≤ 1000000) :
    ∃ g', v'.ownBlock = some g' ∧ (own g' = (0, 0, 0) ∨ g' = w.heap.size) ∧ FnO lo (rowAt own g') w' v' (bs ++ [⟨[], ys, t⟩]) ∧ RowRoom (rowAt own g') w' lo v' (bs.length + 1) := by
  obtain ⟨g, cap, cur, hv, hlo, hgc, h1, h2, h3, h4⟩ : ∃ g cap cur, v' = .slice (some ⟨g, 0, none⟩) (bs.length + 1) cap ∧ lo ≤ g ∧ w'.heap[g]? = some (.cells cur 56 (0, 0)) ∧ bs.length + 1 ≤ cap ∧ cap ≤ maxLen ∧ cur.size = cap * 6 ∧ cur.toList.take ((bs.length + 1) * 6) = xs ++ [.slice none 0 0, lv, .int .i64 t.k, .int .i64 t.a, .int .i64 t.t, .int .i64 t.e] := by
    rcases hown.2 with ⟨_, h0⟩ | h0
    · omega
    · exact h0
  subst hv
  have hgo : own g = (0, 0, 0) ∨ g = w.heap.size := by
    rcases ho with e | e
    · exact .inl (hr.blk (e.symm.trans rfl))
    · simp [Value.ownBlock] at e
      exact .inr e
  have hne : ∀ b c, own b = c → c ≠ (0, 0, 0) → c.1 ≤ 3 → b ≠ g := fun b c hc h0 h3 e => by
    subst e
    rcases hgo with h9 | h9
    · rw [hc] at h9; exact h0 h9
    · have := h.high b (by rw [hc]; exact h3)
      omega
  have hsame : ∀ b c, own b = c → c ≠ (0, 0, 0) → c.1 ≤ 3 → w'.heap[b]? = w.heap[b]? := fun b c hc h0 h3 => hg.block b (h.high b (by rw [hc]; exact h3)) (fun e => by
    have := hr.blk e.symm
    rw [hc] at this
    exact h0 this)
  have hlen : xs.length = bs.length * 6 := hxs.1
  have hw' : ∀ j u, (xs ++ [.slice none 0 0, lv, .int .i64 t.k, .int .i64 t.a, .int .i64 t.t, .int .i64 t.e])[j]? = some u → w'.cell? ⟨g, j, none⟩ = some u := fun j u hu => owns_cell hown hu
  have hold : ∀ i c, i < bs.length → c < 6 → ∀ rb kc u, bv = .slice (some ⟨rb, 0, none⟩) bs.length kc → w.cell? ⟨rb, i * 6 + c, none⟩ = some u → w'.cell? ⟨g, i * 6 + c, none⟩ = some u := fun i c hi hc rb kc u e hu => by
    have hlt : i * 6 + c < xs.length := by omega
    obtain ⟨z, hz⟩ : ∃ z, xs[i * 6 + c]? = some z := ⟨xs[i * 6 + c], List.getElem?_eq_getElem hlt⟩
    rw [e] at hxs
    have h9 := owns_cell hxs hz
    rw [h9] at hu
    cases hu
    exact hw' _ _ (by rw [List.getElem?_append_left hlt]; exact hz)
  refine ⟨g, rfl, hgo, ⟨?_, fun b hb => ?_, fun b hb => ?_, fun b hb j => ?_⟩, .inr ⟨g, cap, cur, rfl, by simp [rowAt], hlo, hgc, h1, h2, h3⟩⟩
  · refine ⟨some ⟨g, 0, none⟩, cap, by simp, by simp; omega, fun _ => ⟨g, 0, rfl, by simp [rowAt], fun i y hy => ?_⟩⟩
    rw [Nat.zero_add]
    by_cases hi : i < bs.length
    · rw [List.getElem?_append_left hi] at hy
      obtain ⟨rb, roff, rcap, pv, lv, hv, hrb, c0, c1, c2, c3, c4, c5, hp, hl, _⟩ := h.rowC hy
      have hz0 : roff = 0 := by
        rcases hr with ⟨e, _⟩ | ⟨g1, cap1, cur1, e, _⟩
        · rw [hv] at e; cases e
        · rw [hv] at e; simp at e; exact e.1.2
      subst hz0
      simp only [Nat.zero_add] at c0 c1 c2 c3 c4 c5
      have sp : ∀ b, own b = (1, i, 0) → w'.heap[b]? = w.heap[b]? := fun b hb => hsame b _ hb (by simp) (by simp)
      have sl : ∀ b, own b = (2, i, 0) → w'.heap[b]? = w.heap[b]? := fun b hb => hsame b _ hb (by simp) (by simp)
      have sa : ∀ b j, own b = (3, i, j) → w'.heap[b]? = w.heap[b]? := fun b j hb => hsame b _ hb (by simp) (by simp)
      refine ⟨pv, lv, hold i 0 hi (by omega) rb rcap _ hv c0, hold i 1 hi (by omega) rb rcap _ hv c1, hold i 2 hi (by omega) rb rcap _ hv c2, hold i 3 hi (by omega) rb rcap _ hv c3, hold i 4 hi (by omega) rb rcap _ hv c4, hold i 5 hi (by omega) rb rcap _ hv c5, ?_, ?_⟩
      · refine (phis_same hp sp sa).imp (fun b hb => rowAt_kind hb (by simp) (hne b _ hb (by simp) (by simp))) (fun q b o z hb _ hz => ?_)
        obtain ⟨q0, av, q1, q2⟩ := hz
        exact ⟨q0, av, q1, q2.imp (fun b hb => rowAt_kind hb (by simp) (hne b _ hb (by simp) (by simp))) (fun _ _ _ _ _ _ h => h)⟩
      · exact (ins_same hl sl).imp (fun b hb => rowAt_kind hb (by simp) (hne b _ hb (by simp) (by simp))) (fun _ _ _ _ _ _ h => h)
    · have hil : i = bs.length := by
        have := (List.getElem?_eq_some_iff.1 hy).1
        simp at this
        omega
      subst hil
      simp at hy
      subst hy
      have nw : ∀ c u, ([.slice none 0 0, lv, .int .i64 t.k, .int .i64 t.a, .int .i64 t.t, .int .i64 t.e] : List Value)[c]? = some u → w'.cell? ⟨g, bs.length * 6 + c, none⟩ = some u := fun c u hu => hw' _ _ (by rw [List.getElem?_append_right (by omega), show bs.length * 6 + c - xs.length = c by omega]; exact hu)
      exact ⟨_, _, nw 0 _ rfl, nw 1 _ rfl, nw 2 _ rfl, nw 3 _ rfl, nw 4 _ rfl, nw 5 _ rfl, ListO.nil _ _, (hlv.same (fun g hg => hsame g _ (hlo1 g hg) (by simp) (by simp))).listO (fun g hg => rowAt_kind (hlo1 g hg) (by simp) (hne g _ (hlo1 g hg) (by simp) (by simp)))⟩
  · unfold rowAt at hb
    split at hb
    · rename_i e; rw [e]; exact hlo
    · split at hb
      · simp at hb
      · exact h.low b hb
  · unfold rowAt at hb
    split at hb
    · rename_i e; rw [e]; exact (Array.getElem?_eq_some_iff.1 hgc).1
    · split at hb
      · simp at hb
      · exact Nat.lt_of_lt_of_le (h.high b hb) hg.size
  · unfold rowAt at hb
    split at hb
    · rename_i e; rw [e]; simp [World.frozen?, hgc]
    · split at hb
      · simp at hb
      · rename_i e1 e2
        exact (frozen_same (hsame b _ rfl e2 hb) j).trans (h.thaw b hb j)

/-- A block without phis, with a list of its own that was nobody's, is added at the end. -/
theorem FnO.snocL {lo : Nat} {own : OwnF} {w w' : World} {bv v' : Value} {bs : List BlockD} {xs : List Value} (h : FnO lo own w bv bs) (hr : RowRoom own w lo bv bs.length) (hxs : w.ownsRow lo 56 6 bv bs.length xs) (lv : Value) (ys : List InsD) (hlv : OwnIns w lo lv ys) (hno : ∀ g, lv.ownBlock = some g → 3 < (own g).1) (t : TermD)
    (hown : w'.ownsRow lo 56 6 v' (bs.length + 1) (xs ++ [.slice none 0 0, lv, .int .i64 t.k, .int .i64 t.a, .int .i64 t.t, .int .i64 t.e])) (hg : w.grownBy w' bv.ownBlock) (ho : v'.ownBlock = bv.ownBlock ∨ v'.ownBlock = some w.heap.size) (hm : bs.length ≤ 1000000) :
    ∃ g' own', v'.ownBlock = some g' ∧ FnO lo own' w' v' (bs ++ [⟨[], ys, t⟩]) ∧ RowRoom own' w' lo v' (bs.length + 1) := by
  obtain ⟨g', h1, _, h2, h3⟩ := (h.claim hlv hno).snoc1 lv ys hlv (fun g hg => by unfold listAt; rw [if_pos hg]) (hr.claim hno) hxs t hown hg ho hm
  exact ⟨g', _, h1, h2, h3⟩
end Go.Proofs.YtldcohhifmpedaaGreat

namespace Go.Proofs.YtldcohhifmpedaaGreat
open Go.ChangeShapes Go.WideShapes Go.ChangeAt Go.RowKit
set_option linter.unusedVariables false

def vB : Value → Nat
  | .slice (some a) _ _ => a.block
  | _ => 0
def vOff : Value → Nat
  | .slice (some a) _ _ => a.off
  | _ => 0
def vN : Value → Nat
  | .slice _ n _ => n
  | _ => 0
def rowT (v : Value) : RowT := ⟨vB v, vOff v, vN v⟩
def cellV (w : World) (b o : Nat) : Value := (w.cell? ⟨b, o, none⟩).getD undef
def phisT (w : World) (v : Value) : PhisT := ⟨vB v, vOff v, vN v, fun j => rowT (cellV w (vB v) (vOff v + j * 2 + 1))⟩
def blocksT (w : World) (v : Value) : BlocksT := ⟨vB v, vOff v, vN v, fun i => phisT w (cellV w (vB v) (vOff v + i * 6)), fun i => rowT (cellV w (vB v) (vOff v + i * 6 + 1))⟩


theorem armsTr {lo hi : Nat} {own : OwnF} {c : Nat × Nat × Nat} {w : World} {v : Value} {l : List ArmD} (h : ListO (fun g => own g = c) 2 (fun _ => ArmAt) w v l) (hs : l.length ≤ 1048576) (hb : ∀ g, own g = c → lo ≤ g ∧ g < hi ∧ ∀ j, w.frozen? ⟨g, j, none⟩ = false) : ArmsTr lo hi w v (rowT v) ∧ (0 < (rowT v).n → own (rowT v).b = c) := by
  obtain ⟨a, cap, rfl, hm, hc⟩ := h
  by_cases h0 : 0 < l.length
  · obtain ⟨b, off, rfl, hS, hd⟩ := hc h0
    obtain ⟨h1, h2, h3⟩ := hb b hS
    refine ⟨⟨⟨_, cap, rfl, fun _ => rfl⟩, hs, fun _ => ⟨h1, h2⟩, fun _ => h3, fun i hi => ?_⟩, fun _ => hS⟩
    obtain ⟨q0, q1⟩ := hd i _ (List.getElem?_eq_getElem hi)
    exact ⟨⟨_, q0⟩, ⟨_, q1⟩⟩
  · have e : l.length = 0 := by omega
    have hn : (rowT (Value.slice a l.length cap)).n = 0 := e
    refine ⟨⟨⟨a, cap, rfl, fun h => absurd h (by omega)⟩, hs, fun h => absurd h (by omega), fun h => absurd h (by omega), fun i hi => absurd hi (by omega)⟩, fun h => absurd h (by omega)⟩
theorem insTr {lo hi : Nat} {own : OwnF} {c : Nat × Nat × Nat} {w : World} {v : Value} {l : List InsD} (h : ListO (fun g => own g = c) 5 (fun _ => InsAt) w v l) (hs : l.length ≤ 1048576) (hb : ∀ g, own g = c → lo ≤ g ∧ g < hi ∧ ∀ j, w.frozen? ⟨g, j, none⟩ = false) : InsTr lo hi w v (rowT v) ∧ (0 < (rowT v).n → own (rowT v).b = c) := by
  obtain ⟨a, cap, rfl, hm, hc⟩ := h
  by_cases h0 : 0 < l.length
  · obtain ⟨b, off, rfl, hS, hd⟩ := hc h0
    obtain ⟨h1, h2, h3⟩ := hb b hS
    refine ⟨⟨⟨_, cap, rfl, fun _ => rfl⟩, hs, fun _ => ⟨h1, h2⟩, fun _ => h3, fun i hi => ?_⟩, fun _ => hS⟩
    obtain ⟨q0, q1, q2, q3, q4⟩ := hd i _ (List.getElem?_eq_getElem hi)
    exact ⟨⟨_, q0⟩, ⟨_, q1⟩, ⟨_, q2⟩, ⟨_, q3⟩, ⟨_, q4⟩⟩
  · have e : l.length = 0 := by omega
    have hn : (rowT (Value.slice a l.length cap)).n = 0 := e
    refine ⟨⟨⟨a, cap, rfl, fun h => absurd h (by omega)⟩, hs, fun h => absurd h (by omega), fun h => absurd h (by omega), fun i hi => absurd hi (by omega)⟩, fun h => absurd h (by omega)⟩
theorem phisTr {lo hi : Nat} {own : OwnF} {i : Nat} {w : World} {v : Value} {l : List PhiD} (h : ListO (fun g => own g = (1, i, 0)) 2 (PhiO own i) w v l) (hs : l.length ≤ 1048576) (hs2 : ∀ p ∈ l, p.arms.length ≤ 1048576) (hb : ∀ g, (own g).1 ≤ 3 → lo ≤ g ∧ g < hi ∧ ∀ j, w.frozen? ⟨g, j, none⟩ = false) :
    PhisTr lo hi w v (phisT w v) ∧ (0 < (phisT w v).n → own (phisT w v).b = (1, i, 0)) ∧ ∀ j, j < (phisT w v).n → 0 < ((phisT w v).arms j).n → own ((phisT w v).arms j).b = (3, i, j) := by
  obtain ⟨a, cap, rfl, hm, hc⟩ := h
  by_cases h0 : 0 < l.length
  · obtain ⟨b, off, rfl, hS, hd⟩ := hc h0
    obtain ⟨h1, h2, h3⟩ := hb b (by rw [hS]; simp)
    have hall : ∀ j, j < l.length → ∃ sv, w.cell? ⟨b, off + j * 2 + 1, none⟩ = some sv ∧ (∃ z, w.cell? ⟨b, off + j * 2, none⟩ = some (.int .i64 z)) ∧ cellV w b (off + j * 2 + 1) = sv ∧ ArmsTr lo hi w sv (rowT sv) ∧ (0 < (rowT sv).n → own (rowT sv).b = (3, i, j)) := fun j hj => by
      obtain ⟨q0, av, q1, q2⟩ := hd j _ (List.getElem?_eq_getElem hj)
      exact ⟨av, q1, ⟨_, q0⟩, by simp [cellV, q1], armsTr q2 (hs2 _ (List.getElem_mem hj)) (fun g hg => hb g (by rw [hg]; simp))⟩
    refine ⟨⟨⟨_, cap, rfl, fun _ => rfl⟩, hs, fun _ => ⟨h1, h2⟩, fun _ => h3, fun j hj => ?_, fun j hj => ?_⟩, fun _ => hS, fun j hj => ?_⟩
    · obtain ⟨sv, _, h, _⟩ := hall j hj
      exact h
    · obtain ⟨sv, h, _, e, ha, _⟩ := hall j hj
      refine ⟨sv, h, ?_⟩
      show ArmsTr lo hi w sv (rowT (cellV w b (off + j * 2 + 1)))
      rw [e]
      exact ha
    · obtain ⟨sv, h, _, e, _, ho⟩ := hall j hj
      show 0 < (rowT (cellV w b (off + j * 2 + 1))).n → own (rowT (cellV w b (off + j * 2 + 1))).b = (3, i, j)
      rw [e]
      exact ho
  · have e : l.length = 0 := by omega
    have hn : (phisT w (Value.slice a l.length cap)).n = 0 := e
    refine ⟨⟨⟨a, cap, rfl, fun h => absurd h (by omega)⟩, hs, fun h => absurd h (by omega), fun h => absurd h (by omega), fun i hi => absurd hi (by omega), fun i hi => absurd hi (by omega)⟩, fun h => absurd h (by omega), fun i hi => absurd hi (by omega)⟩

/-- The places of a program whose lists are apart: no two of them one. -/
theorem FnO.tree {lo hi : Nat} {own : OwnF} {w : World} {bv : Value} {F : FnD} (h : FnO lo own w bv F.blocks) (hs : FnSmall F) (hh : ∀ g, (own g).1 ≤ 3 → g < hi) : BlocksTr lo hi w bv (blocksT w bv) ∧ (blocksSp (blocksT w bv)).Nodup := by
  have hb : ∀ g, (own g).1 ≤ 3 → lo ≤ g ∧ g < hi ∧ ∀ j, w.frozen? ⟨g, j, none⟩ = false := fun g hg => ⟨h.low g hg, hh g hg, h.thaw g hg⟩
  obtain ⟨a, cap, rfl, hm, hc⟩ := h.rows
  by_cases h0 : 0 < F.blocks.length
  · obtain ⟨b, off, rfl, hS, hd⟩ := hc h0
    obtain ⟨h1, h2, h3⟩ := hb b (by rw [hS]; simp)
    have hall : ∀ i, i < F.blocks.length → (NumAt w b (off + i * 6 + 2) ∧ NumAt w b (off + i * 6 + 3) ∧ NumAt w b (off + i * 6 + 4) ∧ NumAt w b (off + i * 6 + 5)) ∧
        (∃ pv, w.cell? ⟨b, off + i * 6, none⟩ = some pv ∧ cellV w b (off + i * 6) = pv ∧ PhisTr lo hi w pv (phisT w pv) ∧ (0 < (phisT w pv).n → own (phisT w pv).b = (1, i, 0)) ∧ ∀ j, j < (phisT w pv).n → 0 < ((phisT w pv).arms j).n → own ((phisT w pv).arms j).b = (3, i, j)) ∧
        ∃ lv, w.cell? ⟨b, off + i * 6 + 1, none⟩ = some lv ∧ cellV w b (off + i * 6 + 1) = lv ∧ InsTr lo hi w lv (rowT lv) ∧ (0 < (rowT lv).n → own (rowT lv).b = (2, i, 0)) := fun i hi => by
      obtain ⟨pv, lv, c0, c1, c2, c3, c4, c5, hp, hl⟩ := hd i _ (List.getElem?_eq_getElem hi)
      obtain ⟨s1, s2, s3⟩ := hs.2 _ (List.getElem_mem hi)
      exact ⟨⟨⟨_, c2⟩, ⟨_, c3⟩, ⟨_, c4⟩, ⟨_, c5⟩⟩, ⟨pv, c0, by simp [cellV, c0], phisTr hp s1 s3 hb⟩, ⟨lv, c1, by simp [cellV, c1], insTr hl s2 (fun g hg => hb g (by rw [hg]; simp))⟩⟩
    have hO : OwnT own (blocksT w (.slice (some ⟨b, off, none⟩) F.blocks.length cap)) := by
      refine ⟨fun _ => hS, fun i hi => ?_, fun i hi => ?_, fun i hi => ?_⟩
      · obtain ⟨_, ⟨pv, _, e, _, ho, _⟩, _⟩ := hall i hi
        show 0 < (phisT w (cellV w b (off + i * 6))).n → own (phisT w (cellV w b (off + i * 6))).b = (1, i, 0)
        rw [e]; exact ho
      · obtain ⟨_, _, ⟨lv, _, e, _, ho⟩⟩ := hall i hi
        show 0 < (rowT (cellV w b (off + i * 6 + 1))).n → own (rowT (cellV w b (off + i * 6 + 1))).b = (2, i, 0)
        rw [e]; exact ho
      · obtain ⟨_, ⟨pv, _, e, _, _, ho⟩, _⟩ := hall i hi
        show ∀ j, j < (phisT w (cellV w b (off + i * 6))).n → 0 < ((phisT w (cellV w b (off + i * 6))).arms j).n → own ((phisT w (cellV w b (off + i * 6))).arms j).b = (3, i, j)
        rw [e]; exact ho
    refine ⟨⟨⟨_, cap, rfl, fun _ => rfl⟩, hs.1, fun _ => ⟨h1, h2⟩, fun _ => h3, fun i hi => (hall i hi).1, fun i hi => ?_, fun i hi => ?_⟩, hO.nodup⟩
    · obtain ⟨_, ⟨pv, c, e, ht, _, _⟩, _⟩ := hall i hi
      refine ⟨pv, c, ?_⟩
      show PhisTr lo _ w pv (phisT w (cellV w b (off + i * 6)))
      rw [e]; exact ht
    · obtain ⟨_, _, ⟨lv, c, e, ht, _⟩⟩ := hall i hi
      refine ⟨lv, c, ?_⟩
      show InsTr lo _ w lv (rowT (cellV w b (off + i * 6 + 1)))
      rw [e]; exact ht
  · have e : F.blocks.length = 0 := by omega
    have hn : (blocksT w (Value.slice a F.blocks.length cap)).n = 0 := e
    refine ⟨⟨⟨a, cap, rfl, fun h => absurd h (by omega)⟩, hs.1, fun h => absurd h (by omega), fun h => absurd h (by omega), fun i hi => absurd hi (by omega), fun i hi => absurd hi (by omega), fun i hi => absurd hi (by omega)⟩, ?_⟩
    simp [blocksSp, blocksT, vN, e, rowS]
end Go.Proofs.YtldcohhifmpedaaGreat

namespace Go.Proofs.YtldcohhifmpedaaGreat
open Go.ChangeShapes Go.WideShapes Go.ChangeAt Go.RowKit
set_option linter.unusedVariables false

def GivesWrote (lo hi : Nat) (L : List Spot) (q : Int) (w : World) (e : Ending) (w' : World) : Prop := e = .returned (.int .i64 (q + L.length)) ∧ Wrote lo hi L q w w'
def GivesHeld (L : List Spot) (q : Int) (w : World) (e : Ending) (w' : World) : Prop := e = .returned (.int .i64 (q + L.length)) ∧ Below w.heap.size w w'
theorem Has.row {w : World} {f : Nat → List Spot} {n k : Nat} {q : Int} (h : Has w (rowS f n) q) (hk : k < n) : Has w (f k) (q + (rowS f k).length) := by
  obtain ⟨R, hR⟩ := rowS_pre f (n := n) (k := k + 1) (by omega)
  rw [hR, rowS_succ] at h
  exact (Has.app.1 (Has.app.1 h).1).2
theorem Has.head {w : World} {s : Spot} {R : List Spot} {q : Int} (h : Has w (s :: R) q) : w.cell? (spotA s) = some (.int .i64 q) ∧ Has w R (q + 1) := by
  have h1 := Has.app.1 (show Has w ([s] ++ R) q from h)
  refine ⟨?_, by simpa using h1.2⟩
  have := h 0 s rfl
  simpa using this
/-- One place more is written, of a row. -/
theorem Wrote.next {lo hi : Nat} {L R : List Spot} {q : Int} {a w : World} (h : Wrote lo hi L q a w) {b o : Nat} {z x : Int} (hd : (L ++ (b, o) :: R).Nodup) (hc : w.cell? ⟨b, o, none⟩ = some (.int .i64 z)) (h1 : lo ≤ b) (h2 : b < hi) (hx : x = q + L.length) :
    Wrote lo hi (L ++ [(b, o)]) q a (w.setCell ⟨b, o, none⟩ (.int .i64 x)) ∧ ((L ++ [(b, o)]) ++ R).Nodup ∧ x + 1 = q + (L ++ [(b, o)]).length := by
  have e : L ++ (b, o) :: R = (L ++ [(b, o)]) ++ R := by simp
  rw [e] at hd
  refine ⟨h.more hc h1 h2 (List.nodup_append.1 hd).1 hx, hd, ?_⟩
  rw [List.length_append, hx]
  simp
  omega

set_option maxHeartbeats 2000000 in
theorem markArmS_wr (lo hi : Nat) (v : Value) (t : RowT) (q : Int) (w : World) (hm : ArmsTr lo hi w v t) (hd : (armsSp t).Nodup) (hq : 0 ≤ q) (hq2 : q ≤ 4611686018427387904) :
    Calls Tryz.prog 184 #[v, .int .i64 q] w fun e w' => GivesWrote lo hi (armsSp t) q w e w' := by
  have HM : Hid (ArmsTr lo hi w v t) := hm
  have HD : Hid ((armsSp t).Nodup) := hd
  obtain ⟨a, cap, rfl, ha⟩ := hm.is
  have HA : Hid (0 < t.n → a = some ⟨t.b, t.off, none⟩) := ha
  have hsm := hm.small
  have HIN : Hid (0 < t.n → lo ≤ t.b ∧ t.b < hi) := hm.inn
  obtain ⟨n, HN⟩ : ∃ n, Hid (t.n = n) := ⟨_, rfl⟩
  obtain ⟨f, HFF⟩ : ∃ f, Hid ((fun i => armE t.b (t.off + i * 2)) = f) := ⟨_, rfl⟩
  have HSP : Hid (armsSp t = rowS f n) := by show _ = _; rw [← HFF.out, ← HN.out]; rfl
  have HLE : Hid (∀ k, (rowS f k).length ≤ k * 2) := fun k => rowS_len (fun i _ => by rw [← HFF.out]; exact Nat.le_refl _)
  rw [HN.out] at hsm ⊢
  clear hm hd ha
  go_enter Tryz.func184, Tryz.ntmps184
  go_wp2
  go_loopw [1, 5] (fun kv i wr => ∃ (k : Nat) (z : Int), k ≤ n ∧ i = .int .i64 k ∧ kv = .int .i64 z ∧ q ≤ z ∧ z ≤ q + k * 2 ∧ Hid (z = q + (rowS f k).length) ∧ Wrote lo hi (rowS f k) q w wr) (fun _ i _ => n - (intOf i).toNat)
  case atStart => exact ⟨0, q, Nat.zero_le _, rfl, rfl, Int.le_refl _, by omega, by show _ = _; simp [rowS], Wrote.refl _ _ _ _⟩
  case round =>
    obtain ⟨k, z, hk, rfl, rfl, hz1, hz2, HZL, ht⟩ := hrel
    have HT : Hid (Wrote lo hi (rowS f k) q w wr) := ht
    clear ht
    by_cases hlt : (k : Int) < (n : Int)
    · obtain ⟨tb, toff, tn⟩ := t
      obtain rfl := HA.out (by have := HN.out; omega)
      obtain ⟨hb1, hb2⟩ := HIN.out (by have := HN.out; omega)
      obtain ⟨⟨z0, c0⟩, ⟨z1, c1⟩⟩ := (HM.out.at_ k (by have := HN.out; omega)).turn HT.out.turns
      dsimp only at hb1 hb2 c0 c1
      have HFZ9 : Hid (∀ j, wr.frozen? ⟨tb, j, none⟩ = false) := fun j => (HM.out.stay HT.out.turns.stays).fz (by have := HN.out; omega) j
      have f0 := HFZ9.out (toff + k * 2)
      have f1 := HFZ9.out (toff + k * 2 + 1)
      have HND : Hid ((rowS f k ++ [(tb, toff + k * 2), (tb, toff + k * 2 + 1)]).Nodup) := by
        have h := HD.out
        rw [HSP.out] at h
        have h2 := rowS_nodup h (show k < n by omega)
        rw [← HFF.out] at h2 ⊢
        exact h2
      have HRS : Hid (rowS f (k + 1) = rowS f k ++ [(tb, toff + k * 2), (tb, toff + k * 2 + 1)]) := by show _ = _; rw [rowS_succ, ← HFF.out]; rfl
      go_wp2
      go_roundw
      case rel =>
        obtain ⟨h1, d1, e1⟩ := HT.out.next HND.out c0 hb1 hb2 HZL.out
        obtain ⟨h2, d2, e2⟩ := h1.next d1 (cell_aside c1 (by omega)) hb1 hb2 e1
        have e3 : rowS f (k + 1) = rowS f k ++ [(tb, toff + k * 2)] ++ [(tb, toff + k * 2 + 1)] := by rw [HRS.out]; simp
        refine ⟨k + 1, z + 2, by omega, by go_num, by go_num, by omega, by omega, ?_, ?_⟩
        · show _ = _
          rw [e3, ← e2]
          omega
        · rw [e3]
          exact h2
      case measure => simp [intOf]; omega
    · go_wp2
      go_ret
      have hkn : k = n := by omega
      subst hkn
      refine ⟨?_, ?_⟩
      · rw [HSP.out]
        exact congrArg (fun x => Ending.returned (.int .i64 x)) HZL.out
      · rw [HSP.out]
        exact HT.out
set_option maxHeartbeats 2000000 in
theorem markInsS_wr (lo hi : Nat) (v : Value) (t : RowT) (q : Int) (w : World) (hm : InsTr lo hi w v t) (hd : (insSp t).Nodup) (hq : 0 ≤ q) (hq2 : q ≤ 4611686018427387904) :
    Calls Tryz.prog 151 #[v, .int .i64 q] w fun e w' => GivesWrote lo hi (insSp t) q w e w' := by
  have HM : Hid (InsTr lo hi w v t) := hm
  have HD : Hid ((insSp t).Nodup) := hd
  obtain ⟨a, cap, rfl, ha⟩ := hm.is
  have HA : Hid (0 < t.n → a = some ⟨t.b, t.off, none⟩) := ha
  have hsm := hm.small
  have HIN : Hid (0 < t.n → lo ≤ t.b ∧ t.b < hi) := hm.inn
  obtain ⟨n, HN⟩ : ∃ n, Hid (t.n = n) := ⟨_, rfl⟩
  obtain ⟨f, HFF⟩ : ∃ f, Hid ((fun i => insE t.b (t.off + i * 5)) = f) := ⟨_, rfl⟩
  have HSP : Hid (insSp t = rowS f n) := by show _ = _; rw [← HFF.out, ← HN.out]; rfl
  have HLE : Hid (∀ k, (rowS f k).length ≤ k * 5) := fun k => rowS_len (fun i _ => by rw [← HFF.out]; exact Nat.le_refl _)
  rw [HN.out] at hsm ⊢
  clear hm hd ha
  go_enter Tryz.func151, Tryz.ntmps151
  go_wp2
  go_loopw [1, 5] (fun kv i wr => ∃ (k : Nat) (z : Int), k ≤ n ∧ i = .int .i64 k ∧ kv = .int .i64 z ∧ q ≤ z ∧ z ≤ q + k * 5 ∧ Hid (z = q + (rowS f k).length) ∧ Wrote lo hi (rowS f k) q w wr) (fun _ i _ => n - (intOf i).toNat)
  case atStart => exact ⟨0, q, Nat.zero_le _, rfl, rfl, Int.le_refl _, by omega, by show _ = _; simp [rowS], Wrote.refl _ _ _ _⟩
  case round =>
    obtain ⟨k, z, hk, rfl, rfl, hz1, hz2, HZL, ht⟩ := hrel
    have HT : Hid (Wrote lo hi (rowS f k) q w wr) := ht
    clear ht
    by_cases hlt : (k : Int) < (n : Int)
    · obtain ⟨tb, toff, tn⟩ := t
      obtain rfl := HA.out (by have := HN.out; omega)
      obtain ⟨hb1, hb2⟩ := HIN.out (by have := HN.out; omega)
      obtain ⟨⟨z0, c0⟩, ⟨z1, c1⟩, ⟨z2, c2⟩, ⟨z3, c3⟩, ⟨z4, c4⟩⟩ := (HM.out.at_ k (by have := HN.out; omega)).turn HT.out.turns
      dsimp only at hb1 hb2 c0 c1 c2 c3 c4
      have HFZ9 : Hid (∀ j, wr.frozen? ⟨tb, j, none⟩ = false) := fun j => (HM.out.stay HT.out.turns.stays).fz (by have := HN.out; omega) j
      have f0 := HFZ9.out (toff + k * 5)
      have f1 := HFZ9.out (toff + k * 5 + 1)
      have f2 := HFZ9.out (toff + k * 5 + 2)
      have f3 := HFZ9.out (toff + k * 5 + 3)
      have f4 := HFZ9.out (toff + k * 5 + 4)
      have HND : Hid ((rowS f k ++ [(tb, toff + k * 5), (tb, toff + k * 5 + 1), (tb, toff + k * 5 + 2), (tb, toff + k * 5 + 3), (tb, toff + k * 5 + 4)]).Nodup) := by
        have h := HD.out
        rw [HSP.out] at h
        have h2 := rowS_nodup h (show k < n by omega)
        rw [← HFF.out] at h2 ⊢
        exact h2
      have HRS : Hid (rowS f (k + 1) = rowS f k ++ [(tb, toff + k * 5), (tb, toff + k * 5 + 1), (tb, toff + k * 5 + 2), (tb, toff + k * 5 + 3), (tb, toff + k * 5 + 4)]) := by show _ = _; rw [rowS_succ, ← HFF.out]; rfl
      go_wp2
      go_roundw
      case rel =>
        obtain ⟨h1, d1, e1⟩ := HT.out.next HND.out c0 hb1 hb2 HZL.out
        obtain ⟨h2, d2, e2⟩ := h1.next d1 (cell_aside c1 (by omega)) hb1 hb2 e1
        obtain ⟨h3, d3, e3⟩ := h2.next d2 (cell_aside (cell_aside c2 (by omega)) (by omega)) hb1 hb2 e2
        obtain ⟨h4, d4, e4⟩ := h3.next d3 (cell_aside (cell_aside (cell_aside c3 (by omega)) (by omega)) (by omega)) hb1 hb2 e3
        obtain ⟨h5, d5, e5⟩ := h4.next d4 (cell_aside (cell_aside (cell_aside (cell_aside c4 (by omega)) (by omega)) (by omega)) (by omega)) hb1 hb2 e4
        have e9 : rowS f (k + 1) = rowS f k ++ [(tb, toff + k * 5)] ++ [(tb, toff + k * 5 + 1)] ++ [(tb, toff + k * 5 + 2)] ++ [(tb, toff + k * 5 + 3)] ++ [(tb, toff + k * 5 + 4)] := by rw [HRS.out]; simp
        refine ⟨k + 1, z + 5, by omega, by go_num, by go_num, by omega, by omega, ?_, ?_⟩
        · show _ = _
          rw [e9, ← e5]
          omega
        · rw [e9]
          exact h5
      case measure => simp [intOf]; omega
    · go_wp2
      go_ret
      have hkn : k = n := by omega
      subst hkn
      refine ⟨?_, ?_⟩
      · rw [HSP.out]
        exact congrArg (fun x => Ending.returned (.int .i64 x)) HZL.out
      · rw [HSP.out]
        exact HT.out

set_option maxHeartbeats 2000000 in
theorem heldArmS_has (lo hi : Nat) (v : Value) (t : RowT) (q : Int) (w : World) (hm : ArmsTr lo hi w v t) (hh : Has w (armsSp t) q) (hq : 0 ≤ q) (hq2 : q ≤ 4611686018427387904) :
    Calls Tryz.prog 185 #[v, .int .i64 q] w fun e w' => GivesHeld (armsSp t) q w e w' := by
  obtain ⟨a, cap, rfl, ha⟩ := hm.is
  have HA : Hid (0 < t.n → a = some ⟨t.b, t.off, none⟩) := ha
  have hsm := hm.small
  obtain ⟨n, HN⟩ : ∃ n, Hid (t.n = n) := ⟨_, rfl⟩
  obtain ⟨f, HFF⟩ : ∃ f, Hid ((fun i => armE t.b (t.off + i * 2)) = f) := ⟨_, rfl⟩
  have HSP : Hid (armsSp t = rowS f n) := by show _ = _; rw [← HFF.out, ← HN.out]; rfl
  have HLE : Hid (∀ k, (rowS f k).length ≤ k * 2) := fun k => rowS_len (fun i _ => by rw [← HFF.out]; exact Nat.le_refl _)
  have HH : Hid (Has w (rowS f n) q) := by have h := hh; rw [HSP.out] at h; exact h
  rw [HN.out] at hsm ⊢
  clear hm ha hh
  go_enter Tryz.func185, Tryz.ntmps185
  go_wp2
  go_loopw [1, 5] (fun kv i wr => ∃ (k : Nat) (z : Int), k ≤ n ∧ i = .int .i64 k ∧ kv = .int .i64 z ∧ q ≤ z ∧ z ≤ q + k * 2 ∧ Hid (z = q + (rowS f k).length) ∧ Below w.heap.size w wr) (fun _ i _ => n - (intOf i).toNat)
  case atStart => exact ⟨0, q, Nat.zero_le _, rfl, rfl, Int.le_refl _, by omega, by show _ = _; simp [rowS], Below.refl _ _⟩
  case round =>
    obtain ⟨k, z, hk, rfl, rfl, hz1, hz2, HZL, hb⟩ := hrel
    have HB : Hid (Below w.heap.size w wr) := hb
    clear hb
    by_cases hlt : (k : Int) < (n : Int)
    · obtain ⟨tb, toff, tn⟩ := t
      obtain rfl := HA.out (by have := HN.out; omega)
      have g0 := HH.out.row (show k < n by omega)
      rw [← HZL.out, ← HFF.out] at g0
      replace g0 := g0.keep HB.out
      change Has wr [(tb, toff + k * 2), (tb, toff + k * 2 + 1)] z at g0
      obtain ⟨c0, g1⟩ := g0.head
      obtain ⟨c1, g2⟩ := g1.head
      clear g2
      change wr.cell? ⟨tb, toff + k * 2, none⟩ = some (.int .i64 (z)) at c0
      change wr.cell? ⟨tb, toff + k * 2 + 1, none⟩ = some (.int .i64 (z + 1)) at c1
      have e0 : ((z : Int) != z) = false := by simp
      have e1 : ((z + 1 : Int) != z + 1) = false := by simp
      go_wp2
      go_roundw
      case rel =>
        refine ⟨k + 1, z + 2, by omega, by go_num, by go_num, by omega, by omega, ?_, HB.out⟩
        show _ = _
        have h8 : (f k).length = 2 := by rw [← HFF.out]; rfl
        have h9 := HZL.out
        rw [rowS_succ, List.length_append, h8]
        push_cast
        omega
      case measure => simp [intOf]; omega
    · go_wp2
      go_ret
      have hkn : k = n := by omega
      subst hkn
      refine ⟨?_, HB.out⟩
      rw [HSP.out]
      exact congrArg (fun x => Ending.returned (.int .i64 x)) HZL.out

set_option maxHeartbeats 2000000 in
theorem heldInsS_has (lo hi : Nat) (v : Value) (t : RowT) (q : Int) (w : World) (hm : InsTr lo hi w v t) (hh : Has w (insSp t) q) (hq : 0 ≤ q) (hq2 : q ≤ 4611686018427387904) :
    Calls Tryz.prog 153 #[v, .int .i64 q] w fun e w' => GivesHeld (insSp t) q w e w' := by
  obtain ⟨a, cap, rfl, ha⟩ := hm.is
  have HA : Hid (0 < t.n → a = some ⟨t.b, t.off, none⟩) := ha
  have hsm := hm.small
  obtain ⟨n, HN⟩ : ∃ n, Hid (t.n = n) := ⟨_, rfl⟩
  obtain ⟨f, HFF⟩ : ∃ f, Hid ((fun i => insE t.b (t.off + i * 5)) = f) := ⟨_, rfl⟩
  have HSP : Hid (insSp t = rowS f n) := by show _ = _; rw [← HFF.out, ← HN.out]; rfl
  have HLE : Hid (∀ k, (rowS f k).length ≤ k * 5) := fun k => rowS_len (fun i _ => by rw [← HFF.out]; exact Nat.le_refl _)
  have HH : Hid (Has w (rowS f n) q) := by have h := hh; rw [HSP.out] at h; exact h
  rw [HN.out] at hsm ⊢
  clear hm ha hh
  go_enter Tryz.func153, Tryz.ntmps153
  go_wp2
  go_loopw [1, 5] (fun kv i wr => ∃ (k : Nat) (z : Int), k ≤ n ∧ i = .int .i64 k ∧ kv = .int .i64 z ∧ q ≤ z ∧ z ≤ q + k * 5 ∧ Hid (z = q + (rowS f k).length) ∧ Below w.heap.size w wr) (fun _ i _ => n - (intOf i).toNat)
  case atStart => exact ⟨0, q, Nat.zero_le _, rfl, rfl, Int.le_refl _, by omega, by show _ = _; simp [rowS], Below.refl _ _⟩
  case round =>
    obtain ⟨k, z, hk, rfl, rfl, hz1, hz2, HZL, hb⟩ := hrel
    have HB : Hid (Below w.heap.size w wr) := hb
    clear hb
    by_cases hlt : (k : Int) < (n : Int)
    · obtain ⟨tb, toff, tn⟩ := t
      obtain rfl := HA.out (by have := HN.out; omega)
      have g0 := HH.out.row (show k < n by omega)
      rw [← HZL.out, ← HFF.out] at g0
      replace g0 := g0.keep HB.out
      change Has wr [(tb, toff + k * 5), (tb, toff + k * 5 + 1), (tb, toff + k * 5 + 2), (tb, toff + k * 5 + 3), (tb, toff + k * 5 + 4)] z at g0
      obtain ⟨c0, g1⟩ := g0.head
      obtain ⟨c1, g2⟩ := g1.head
      obtain ⟨c2, g3⟩ := g2.head
      obtain ⟨c3, g4⟩ := g3.head
      obtain ⟨c4, g5⟩ := g4.head
      clear g5
      change wr.cell? ⟨tb, toff + k * 5, none⟩ = some (.int .i64 (z)) at c0
      change wr.cell? ⟨tb, toff + k * 5 + 1, none⟩ = some (.int .i64 (z + 1)) at c1
      change wr.cell? ⟨tb, toff + k * 5 + 2, none⟩ = some (.int .i64 (z + 1 + 1)) at c2
      change wr.cell? ⟨tb, toff + k * 5 + 3, none⟩ = some (.int .i64 (z + 1 + 1 + 1)) at c3
      change wr.cell? ⟨tb, toff + k * 5 + 4, none⟩ = some (.int .i64 (z + 1 + 1 + 1 + 1)) at c4
      have e0 : ((z : Int) != z) = false := by simp
      have e1 : ((z + 1 : Int) != z + 1) = false := by simp
      have e2 : ((z + 1 + 1 : Int) != z + 1 + 1) = false := by simp
      have e3 : ((z + 1 + 1 + 1 : Int) != z + 1 + 1 + 1) = false := by simp
      have e4 : ((z + 1 + 1 + 1 + 1 : Int) != z + 1 + 1 + 1 + 1) = false := by simp
      go_wp2
      go_roundw
      case rel =>
        refine ⟨k + 1, z + 5, by omega, by go_num, by go_num, by omega, by omega, ?_, HB.out⟩
        show _ = _
        have h8 : (f k).length = 5 := by rw [← HFF.out]; rfl
        have h9 := HZL.out
        rw [rowS_succ, List.length_append, h8]
        push_cast
        omega
      case measure => simp [intOf]; omega
    · go_wp2
      go_ret
      have hkn : k = n := by omega
      subst hkn
      refine ⟨?_, HB.out⟩
      rw [HSP.out]
      exact congrArg (fun x => Ending.returned (.int .i64 x)) HZL.out

end Go.Proofs.YtldcohhifmpedaaGreat

namespace Go.Proofs.YtldcohhifmpedaaGreat
open Go.ChangeShapes Go.WideShapes Go.ChangeAt Go.RowKit
set_option linter.unusedVariables false

theorem armsSp_len {t : RowT} (h : t.n ≤ 1048576) : (armsSp t).length ≤ 2097152 := by
  have := rowS_len (f := fun i => armE t.b (t.off + i * 2)) (c := 2) (n := t.n) (fun i _ => Nat.le_refl _)
  unfold armsSp
  omega
theorem insSp_len {t : RowT} (h : t.n ≤ 1048576) : (insSp t).length ≤ 5242880 := by
  have := rowS_len (f := fun i => insE t.b (t.off + i * 5)) (c := 5) (n := t.n) (fun i _ => Nat.le_refl _)
  unfold insSp
  omega
theorem PhisTr.len {lo hi : Nat} {w : World} {v : Value} {t : PhisT} (h : PhisTr lo hi w v t) {k : Nat} (hk : k ≤ t.n) : (rowS (phiE t) k).length ≤ k * 2097153 := by
  refine rowS_len fun i hi => ?_
  obtain ⟨sv, _, ha⟩ := h.arms i (by omega)
  have := armsSp_len ha.small
  simp [phiE]
  omega

set_option maxHeartbeats 4000000 in
theorem markPhiS_wr (lo hi : Nat) (v : Value) (t : PhisT) (q : Int) (w : World) (hm : PhisTr lo hi w v t) (hd : (phisSp t).Nodup) (hq : 0 ≤ q) (hq2 : q ≤ 4000000000000000000) :
    Calls Tryz.prog 150 #[v, .int .i64 q] w fun e w' => GivesWrote lo hi (phisSp t) q w e w' := by
  have HM : Hid (PhisTr lo hi w v t) := hm
  have HD : Hid ((phisSp t).Nodup) := hd
  obtain ⟨a, cap, rfl, ha⟩ := hm.is
  have HA : Hid (0 < t.n → a = some ⟨t.b, t.off, none⟩) := ha
  have hsm := hm.small
  have HIN : Hid (0 < t.n → lo ≤ t.b ∧ t.b < hi) := hm.inn
  obtain ⟨n, HN⟩ : ∃ n, Hid (t.n = n) := ⟨_, rfl⟩
  obtain ⟨tb, HTB⟩ : ∃ n, Hid (t.b = n) := ⟨_, rfl⟩
  obtain ⟨toff, HTO⟩ : ∃ n, Hid (t.off = n) := ⟨_, rfl⟩
  have HSP : Hid (phisSp t = rowS (phiE t) n) := by show _ = _; rw [← HN.out]; rfl
  have HLE : Hid (∀ k, k ≤ n → (rowS (phiE t) k).length ≤ k * 2097153) := fun k hk => hm.len (by have := HN.out; omega)
  rw [HN.out] at hsm ⊢
  rw [HTB.out, HTO.out] at HA
  rw [HTB.out] at HIN
  clear hm hd ha
  go_enter Tryz.func150, Tryz.ntmps150
  go_wp2_with fail
  go_loopw [1, 5] (fun kv i wr => ∃ (k : Nat) (z : Int), k ≤ n ∧ i = .int .i64 k ∧ kv = .int .i64 z ∧ q ≤ z ∧ z ≤ q + k * 2097153 ∧ Hid (z = q + (rowS (phiE t) k).length) ∧ Wrote lo hi (rowS (phiE t) k) q w wr) (fun _ i _ => n - (intOf i).toNat)
  case atStart => exact ⟨0, q, Nat.zero_le _, rfl, rfl, Int.le_refl _, by omega, by show _ = _; simp [rowS], Wrote.refl _ _ _ _⟩
  case round =>
    obtain ⟨k, z, hk, rfl, rfl, hz1, hz2, HZL, ht⟩ := hrel
    have HT : Hid (Wrote lo hi (rowS (phiE t) k) q w wr) := ht
    clear ht
    by_cases hlt : (k : Int) < (n : Int)
    · obtain rfl := HA.out (by have := HN.out; omega)
      obtain ⟨hb1, hb2⟩ := HIN.out (by have := HN.out; omega)
      have HMT := HM.out.stay HT.out.turns.stays
      obtain ⟨z0, c0⟩ := HMT.num k (by have := HN.out; omega)
      obtain ⟨sv, c1, har⟩ := HMT.arms k (by have := HN.out; omega)
      rw [HTB.out, HTO.out] at c0 c1
      have HFZ9 : Hid (∀ j, wr.frozen? ⟨tb, j, none⟩ = false) := fun j => by have h := (HM.out.stay HT.out.turns.stays).fz (by have := HN.out; omega) j; rw [HTB.out] at h; exact h
      have f0 := HFZ9.out (toff + k * 2)
      have HND : Hid ((rowS (phiE t) k ++ (tb, toff + k * 2) :: armsSp (t.arms k)).Nodup) := by
        have h := HD.out
        rw [HSP.out] at h
        have h2 := rowS_nodup h (show k < n by omega)
        unfold phiE at h2 ⊢
        rw [HTB.out, HTO.out] at h2 ⊢
        exact h2
      have HRS : Hid (rowS (phiE t) (k + 1) = rowS (phiE t) k ++ [(tb, toff + k * 2)] ++ armsSp (t.arms k)) := by
        show _ = _
        rw [rowS_succ, List.append_assoc]
        congr 1
        rw [← HTB.out, ← HTO.out]
        rfl
      obtain ⟨h1, d1, e1⟩ := HT.out.next HND.out c0 hb1 hb2 HZL.out
      have HW1 : Hid (Wrote lo hi (rowS (phiE t) k ++ [(tb, toff + k * 2)]) q w (wr.setCell ⟨tb, toff + k * 2, none⟩ (.int .i64 z))) := h1
      have HD1 : Hid ((rowS (phiE t) k ++ [(tb, toff + k * 2)] ++ armsSp (t.arms k)).Nodup) := d1
      have HE1 : Hid (z + 1 = q + (rowS (phiE t) k ++ [(tb, toff + k * 2)]).length) := e1
      have HSV : Hid (ArmsTr lo hi (wr.setCell ⟨tb, toff + k * 2, none⟩ (.int .i64 z)) sv (t.arms k)) := har.stay ((Turns.refl lo hi wr).put c0 hb1 hb2 _).stays
      have HAL := armsSp_len har.small
      obtain ⟨sa, scap, rfl, _⟩ := har.is
      obtain ⟨sn, HSN⟩ : ∃ n, Hid ((t.arms k).n = n) := ⟨_, rfl⟩
      rw [HSN.out] at c1 HSV
      clear har h1 d1 e1 HMT
      go_wp2_with fail
      refine (markArmS_wr lo hi _ (t.arms k) (z + 1) _ HSV.out (List.nodup_append.1 HD1.out).2.1 (by omega) (by omega)).mono ?_
      obtain ⟨al, HAL2⟩ : ∃ n, Hid ((armsSp (t.arms k)).length = n) := ⟨_, rfl⟩
      rintro e w1 ⟨rfl, t1⟩
      rw [HAL2.out] at HAL ⊢
      have HW2 : Hid (Wrote lo hi (rowS (phiE t) (k + 1)) q w w1) := by
        show Wrote _ _ _ _ _ _
        rw [HRS.out]
        refine HW1.out.trans ?_ HD1.out
        rw [← HE1.out]
        exact t1
      clear t1 c0 c1 f0
      go_wp2_with fail
      go_roundw
      case rel =>
        refine ⟨k + 1, z + 1 + al, by omega, by go_num, by go_num, by omega, by omega, ?_, HW2.out⟩
        show _ = _
        rw [HRS.out, List.length_append, HAL2.out, HE1.out]
        push_cast
        omega
      case measure => simp [intOf]; omega
    · go_wp2_with fail
      go_ret
      have hkn : k = n := by omega
      subst hkn
      refine ⟨?_, ?_⟩
      · rw [HSP.out]
        exact congrArg (fun x => Ending.returned (.int .i64 x)) HZL.out
      · rw [HSP.out]
        exact HT.out

set_option maxHeartbeats 4000000 in
theorem heldPhiS_has (lo hi : Nat) (v : Value) (t : PhisT) (q : Int) (w : World) (hm : PhisTr lo hi w v t) (hh : Has w (phisSp t) q) (hq : 0 ≤ q) (hq2 : q ≤ 4000000000000000000) :
    Calls Tryz.prog 152 #[v, .int .i64 q] w fun e w' => GivesHeld (phisSp t) q w e w' := by
  have HM : Hid (PhisTr lo hi w v t) := hm
  obtain ⟨a, cap, rfl, ha⟩ := hm.is
  have HA : Hid (0 < t.n → a = some ⟨t.b, t.off, none⟩) := ha
  have hsm := hm.small
  obtain ⟨n, HN⟩ : ∃ n, Hid (t.n = n) := ⟨_, rfl⟩
  obtain ⟨tb, HTB⟩ : ∃ n, Hid (t.b = n) := ⟨_, rfl⟩
  obtain ⟨toff, HTO⟩ : ∃ n, Hid (t.off = n) := ⟨_, rfl⟩
  have HSP : Hid (phisSp t = rowS (phiE t) n) := by show _ = _; rw [← HN.out]; rfl
  have HH : Hid (Has w (rowS (phiE t) n) q) := by have h := hh; rw [HSP.out] at h; exact h
  rw [HN.out] at hsm ⊢
  rw [HTB.out, HTO.out] at HA
  clear hm ha hh
  go_enter Tryz.func152, Tryz.ntmps152
  go_wp2_with fail
  go_loopw [1, 5] (fun kv i wr => ∃ (k : Nat) (z : Int), k ≤ n ∧ i = .int .i64 k ∧ kv = .int .i64 z ∧ q ≤ z ∧ z ≤ q + k * 2097153 ∧ Hid (z = q + (rowS (phiE t) k).length) ∧ Below w.heap.size w wr) (fun _ i _ => n - (intOf i).toNat)
  case atStart => exact ⟨0, q, Nat.zero_le _, rfl, rfl, Int.le_refl _, by omega, by show _ = _; simp [rowS], Below.refl _ _⟩
  case round =>
    obtain ⟨k, z, hk, rfl, rfl, hz1, hz2, HZL, hb⟩ := hrel
    have HB : Hid (Below w.heap.size w wr) := hb
    clear hb
    by_cases hlt : (k : Int) < (n : Int)
    · obtain rfl := HA.out (by have := HN.out; omega)
      have HMT := HM.out.stay (Stays.below HB.out)
      obtain ⟨sv, c1, har⟩ := HMT.arms k (by have := HN.out; omega)
      have g0 := HH.out.row (show k < n by omega)
      rw [← HZL.out] at g0
      replace g0 := g0.keep HB.out
      unfold phiE at g0
      rw [HTB.out] at g0 c1
      rw [HTO.out] at g0 c1
      obtain ⟨c0, g1⟩ := g0.head
      change wr.cell? ⟨tb, toff + k * 2, none⟩ = some (.int .i64 z) at c0
      have HG1 : Hid (Has wr (armsSp (t.arms k)) (z + 1)) := g1
      have HSV : Hid (ArmsTr lo hi wr sv (t.arms k)) := har
      have HAL := armsSp_len har.small
      obtain ⟨sa, scap, rfl, _⟩ := har.is
      obtain ⟨sn, HSN⟩ : ∃ n, Hid ((t.arms k).n = n) := ⟨_, rfl⟩
      rw [HSN.out] at c1 HSV
      have e0 : ((z : Int) != z) = false := by simp
      have HEL : Hid ((phiE t k).length = 1 + (armsSp (t.arms k)).length) := by show _ = _; simp [phiE]; omega
      obtain ⟨al, HAL2⟩ : ∃ n, Hid ((armsSp (t.arms k)).length = n) := ⟨_, rfl⟩
      clear har g0 g1 HMT
      go_wp2_with fail
      refine (heldArmS_has lo hi _ (t.arms k) (z + 1) _ HSV.out HG1.out (by omega) (by omega)).mono ?_
      rintro e w1 ⟨rfl, b1⟩
      rw [HAL2.out] at HAL HEL ⊢
      have HB1 : Hid (Below w.heap.size w w1) := Bel.after HB.out b1
      clear b1 c0 c1
      go_wp2_with fail
      go_roundw
      case rel =>
        refine ⟨k + 1, z + 1 + al, by omega, by go_num, by go_num, by omega, by omega, ?_, HB1.out⟩
        have h8 := HEL.out
        have h9 := HZL.out
        show _ = _
        rw [rowS_succ, List.length_append, h8]
        push_cast
        omega
      case measure => simp [intOf]; omega
    · go_wp2_with fail
      go_ret
      have hkn : k = n := by omega
      subst hkn
      refine ⟨?_, HB.out⟩
      rw [HSP.out]
      exact congrArg (fun x => Ending.returned (.int .i64 x)) HZL.out
end Go.Proofs.YtldcohhifmpedaaGreat

namespace Go.Proofs.YtldcohhifmpedaaGreat
open Go.ChangeShapes Go.WideShapes Go.ChangeAt Go.RowKit
set_option linter.unusedVariables false

theorem phisSp_len {lo hi : Nat} {w : World} {v : Value} {t : PhisT} (h : PhisTr lo hi w v t) : (phisSp t).length ≤ 2199024304128 := by
  have h1 := h.len (Nat.le_refl _)
  have h2 := h.small
  unfold phisSp
  omega
theorem blockE_len (t : BlocksT) (k : Nat) : (blockE t k).length = (phisSp (t.phis k)).length + (insSp (t.list k)).length + 4 := by
  simp [blockE]
  omega

set_option maxHeartbeats 8000000 in
theorem markBlockS_wr (lo hi : Nat) (v : Value) (t : BlocksT) (q : Int) (w : World) (hm : BlocksTr lo hi w v t) (hd : (blocksSp t).Nodup) (hq : 0 ≤ q) (hq2 : q ≤ 1000000) :
    Calls Tryz.prog 109 #[v, .int .i64 q] w fun e w' => GivesWrote lo hi (blocksSp t) q w e w' := by
  have HM : Hid (BlocksTr lo hi w v t) := hm
  have HD : Hid ((blocksSp t).Nodup) := hd
  obtain ⟨a, cap, rfl, ha⟩ := hm.is
  have HA : Hid (0 < t.n → a = some ⟨t.b, t.off, none⟩) := ha
  have hsm := hm.small
  have HIN : Hid (0 < t.n → lo ≤ t.b ∧ t.b < hi) := hm.inn
  obtain ⟨n, HN⟩ : ∃ n, Hid (t.n = n) := ⟨_, rfl⟩
  obtain ⟨tb, HTB⟩ : ∃ n, Hid (t.b = n) := ⟨_, rfl⟩
  obtain ⟨toff, HTO⟩ : ∃ n, Hid (t.off = n) := ⟨_, rfl⟩
  have HSP : Hid (blocksSp t = rowS (blockE t) n) := by show _ = _; rw [← HN.out]; rfl
  rw [HN.out] at hsm ⊢
  rw [HTB.out, HTO.out] at HA
  rw [HTB.out] at HIN
  clear hm hd ha
  go_enter Tryz.func109, Tryz.ntmps109
  go_wp2_with fail
  go_loopw [1, 5] (fun kv i wr => ∃ (k : Nat) (z : Int), k ≤ n ∧ i = .int .i64 k ∧ kv = .int .i64 z ∧ q ≤ z ∧ z ≤ q + k * 2199029547012 ∧ Hid (z = q + (rowS (blockE t) k).length) ∧ Wrote lo hi (rowS (blockE t) k) q w wr) (fun _ i _ => n - (intOf i).toNat)
  case atStart => exact ⟨0, q, Nat.zero_le _, rfl, rfl, Int.le_refl _, by omega, by show _ = _; simp [rowS], Wrote.refl _ _ _ _⟩
  case round =>
    obtain ⟨k, z, hk, rfl, rfl, hz1, hz2, HZL, ht⟩ := hrel
    have HT : Hid (Wrote lo hi (rowS (blockE t) k) q w wr) := ht
    clear ht
    by_cases hlt : (k : Int) < (n : Int)
    · obtain rfl := HA.out (by have := HN.out; omega)
      obtain ⟨hb1, hb2⟩ := HIN.out (by have := HN.out; omega)
      have hkt : k < t.n := by have := HN.out; omega
      have HMT := HM.out.stay HT.out.turns.stays
      obtain ⟨pv, c0, hph⟩ := HMT.phis k hkt
      obtain ⟨lv, c1, hls⟩ := HMT.list k hkt
      rw [HTB.out] at c0 c1
      rw [HTO.out] at c0 c1
      obtain ⟨L, HL⟩ : ∃ L, Hid (rowS (blockE t) k = L) := ⟨_, rfl⟩
      obtain ⟨P, HP⟩ : ∃ L, Hid (phisSp (t.phis k) = L) := ⟨_, rfl⟩
      obtain ⟨I, HI⟩ : ∃ L, Hid (insSp (t.list k) = L) := ⟨_, rfl⟩
      have HND : Hid ((L ++ P ++ I ++ [(tb, toff + k * 6 + 2), (tb, toff + k * 6 + 3), (tb, toff + k * 6 + 4), (tb, toff + k * 6 + 5)]).Nodup) := by
        have h := HD.out
        rw [HSP.out] at h
        have h2 := rowS_nodup h (show k < n by omega)
        unfold blockE at h2
        rw [HTB.out] at h2
        rw [HTO.out] at h2
        have h3 := HL.out
        unfold blockE at h3
        rw [HTB.out] at h3
        rw [HTO.out] at h3
        rw [h3, HP.out, HI.out] at h2
        show List.Nodup _
        simpa [List.append_assoc] using h2
      have HRS : Hid (rowS (blockE t) (k + 1) = L ++ P ++ I ++ [(tb, toff + k * 6 + 2)] ++ [(tb, toff + k * 6 + 3)] ++ [(tb, toff + k * 6 + 4)] ++ [(tb, toff + k * 6 + 5)]) := by
        show _ = _
        rw [rowS_succ, HL.out, blockE, HP.out, HI.out, HTB.out, HTO.out]
        simp [List.append_assoc]
      have HN1 : Hid ((L ++ P).Nodup) := (List.nodup_append.1 (List.nodup_append.1 HND.out).1).1
      have HN2 : Hid ((L ++ P ++ I).Nodup) := (List.nodup_append.1 HND.out).1
      have hpl := phisSp_len hph
      have hil := insSp_len hls.small
      rw [HP.out] at hpl
      rw [HI.out] at hil
      rw [HL.out] at HT HZL
      have HPH : Hid (PhisTr lo hi wr pv (t.phis k)) := hph
      have HLS : Hid (InsTr lo hi wr lv (t.list k)) := hls
      obtain ⟨pa, pcap, rfl, _⟩ := hph.is
      obtain ⟨la, lcap, rfl, _⟩ := hls.is
      obtain ⟨pn, HPN⟩ : ∃ n, Hid ((t.phis k).n = n) := ⟨_, rfl⟩
      obtain ⟨ln, HLN⟩ : ∃ n, Hid ((t.list k).n = n) := ⟨_, rfl⟩
      rw [HPN.out] at c0 HPH
      rw [HLN.out] at c1 HLS
      obtain ⟨pl, HPL⟩ : ∃ n, Hid (P.length = n) := ⟨_, rfl⟩
      obtain ⟨il, HIL⟩ : ∃ n, Hid (I.length = n) := ⟨_, rfl⟩
      rw [HPL.out] at hpl
      rw [HIL.out] at hil
      clear hph hls HMT
      go_wp2_with fail
      refine (markPhiS_wr lo hi _ (t.phis k) z _ HPH.out (by rw [HP.out]; exact (List.nodup_append.1 HN1.out).2.1) (by omega) (by omega)).mono ?_
      rw [HP.out]
      rintro e w1 ⟨rfl, t1⟩
      rw [HPL.out]
      have HT1 : Hid (Wrote lo hi (L ++ P) q w w1) := HT.out.trans (by rw [← HZL.out]; exact t1) HN1.out
      have HL1 : Hid (InsTr lo hi w1 (.slice la ln lcap) (t.list k)) := HLS.out.stay t1.turns.stays
      have d1 := t1.turns.list _ _ _ _ c1
      have HZ1 : Hid (z + pl = q + (L ++ P).length) := by show _ = _; have := HZL.out; rw [List.length_append, HPL.out]; push_cast; omega
      clear t1 c0 c1
      go_wp2_with fail
      refine (markInsS_wr lo hi _ (t.list k) (z + pl) _ HL1.out (by rw [HI.out]; exact (List.nodup_append.1 HN2.out).2.1) (by omega) (by omega)).mono ?_
      rw [HI.out]
      rintro e w2 ⟨rfl, t2⟩
      rw [HIL.out]
      have HT2 : Hid (Wrote lo hi (L ++ P ++ I) q w w2) := HT1.out.trans (by rw [← HZ1.out]; exact t2) HN2.out
      have HZ2 : Hid (z + pl + il = q + (L ++ P ++ I).length) := by show _ = _; have := HZ1.out; rw [List.length_append, HIL.out]; push_cast; omega
      clear t2 d1
      obtain ⟨⟨x2, c2⟩, ⟨x3, c3⟩, ⟨x4, c4⟩, ⟨x5, c5⟩⟩ := (HM.out.stay HT2.out.turns.stays).num k hkt
      rw [HTB.out, HTO.out] at c2 c3 c4 c5
      have HFZ9 : Hid (∀ j, w2.frozen? ⟨tb, j, none⟩ = false) := fun j => by have h := (HM.out.stay HT2.out.turns.stays).fz (by have := HN.out; omega) j; rw [HTB.out] at h; exact h
      have f2 := HFZ9.out (toff + k * 6 + 2)
      have f3 := HFZ9.out (toff + k * 6 + 3)
      have f4 := HFZ9.out (toff + k * 6 + 4)
      have f5 := HFZ9.out (toff + k * 6 + 5)
      go_wp2_with fail
      go_roundw
      case rel =>
        obtain ⟨h2, d2, e2⟩ := HT2.out.next HND.out c2 hb1 hb2 HZ2.out
        obtain ⟨h3, d3, e3⟩ := h2.next d2 (cell_aside c3 (by omega)) hb1 hb2 e2
        obtain ⟨h4, d4, e4⟩ := h3.next d3 (cell_aside (cell_aside c4 (by omega)) (by omega)) hb1 hb2 e3
        obtain ⟨h5, d5, e5⟩ := h4.next d4 (cell_aside (cell_aside (cell_aside c5 (by omega)) (by omega)) (by omega)) hb1 hb2 e4
        refine ⟨k + 1, z + pl + il + 4, by omega, by go_num, by go_num, by omega, by omega, ?_, ?_⟩
        · show _ = _
          rw [HRS.out, ← e5]
          omega
        · rw [HRS.out]
          exact h5
      case measure => simp [intOf]; omega
    · go_wp2_with fail
      go_ret
      have hkn : k = n := by omega
      subst hkn
      refine ⟨?_, ?_⟩
      · rw [HSP.out]
        exact congrArg (fun x => Ending.returned (.int .i64 x)) HZL.out
      · rw [HSP.out]
        exact HT.out

set_option maxHeartbeats 8000000 in
theorem heldBlockS_has (lo hi : Nat) (v : Value) (t : BlocksT) (q : Int) (w : World) (hm : BlocksTr lo hi w v t) (hh : Has w (blocksSp t) q) (hq : 0 ≤ q) (hq2 : q ≤ 1000000) :
    Calls Tryz.prog 110 #[v, .int .i64 q] w fun e w' => GivesHeld (blocksSp t) q w e w' := by
  have HM : Hid (BlocksTr lo hi w v t) := hm
  obtain ⟨a, cap, rfl, ha⟩ := hm.is
  have HA : Hid (0 < t.n → a = some ⟨t.b, t.off, none⟩) := ha
  have hsm := hm.small
  obtain ⟨n, HN⟩ : ∃ n, Hid (t.n = n) := ⟨_, rfl⟩
  obtain ⟨tb, HTB⟩ : ∃ n, Hid (t.b = n) := ⟨_, rfl⟩
  obtain ⟨toff, HTO⟩ : ∃ n, Hid (t.off = n) := ⟨_, rfl⟩
  have HSP : Hid (blocksSp t = rowS (blockE t) n) := by show _ = _; rw [← HN.out]; rfl
  have HH : Hid (Has w (rowS (blockE t) n) q) := by have h := hh; rw [HSP.out] at h; exact h
  rw [HN.out] at hsm ⊢
  rw [HTB.out, HTO.out] at HA
  clear hm ha hh
  go_enter Tryz.func110, Tryz.ntmps110
  go_wp2_with fail
  go_loopw [1, 5] (fun kv i wr => ∃ (k : Nat) (z : Int), k ≤ n ∧ i = .int .i64 k ∧ kv = .int .i64 z ∧ q ≤ z ∧ z ≤ q + k * 2199029547012 ∧ Hid (z = q + (rowS (blockE t) k).length) ∧ Below w.heap.size w wr) (fun _ i _ => n - (intOf i).toNat)
  case atStart => exact ⟨0, q, Nat.zero_le _, rfl, rfl, Int.le_refl _, by omega, by show _ = _; simp [rowS], Below.refl _ _⟩
  case round =>
    obtain ⟨k, z, hk, rfl, rfl, hz1, hz2, HZL, hb⟩ := hrel
    have HB : Hid (Below w.heap.size w wr) := hb
    clear hb
    by_cases hlt : (k : Int) < (n : Int)
    · obtain rfl := HA.out (by have := HN.out; omega)
      have hkt : k < t.n := by have := HN.out; omega
      have HMT := HM.out.stay (Stays.below HB.out)
      obtain ⟨pv, c0, hph⟩ := HMT.phis k hkt
      obtain ⟨lv, c1, hls⟩ := HMT.list k hkt
      rw [HTB.out] at c0 c1
      rw [HTO.out] at c0 c1
      have hbl := blockE_len t k
      obtain ⟨P, HP⟩ : ∃ L, Hid (phisSp (t.phis k) = L) := ⟨_, rfl⟩
      obtain ⟨I, HI⟩ : ∃ L, Hid (insSp (t.list k) = L) := ⟨_, rfl⟩
      obtain ⟨pl, HPL⟩ : ∃ n, Hid (P.length = n) := ⟨_, rfl⟩
      obtain ⟨il, HIL⟩ : ∃ n, Hid (I.length = n) := ⟨_, rfl⟩
      have hpl := phisSp_len hph
      have hil := insSp_len hls.small
      rw [HP.out, HPL.out] at hpl
      rw [HI.out, HIL.out] at hil
      rw [HP.out, HI.out, HPL.out, HIL.out] at hbl
      have HBL : Hid ((blockE t k).length = pl + il + 4) := hbl
      have g0 := HH.out.row (show k < n by omega)
      rw [← HZL.out] at g0
      replace g0 := g0.keep HB.out
      unfold blockE at g0
      rw [HTB.out, HTO.out, HP.out, HI.out] at g0
      obtain ⟨g1, g2⟩ := Has.app.1 g0
      obtain ⟨gP, gI⟩ := Has.app.1 g1
      rw [HPL.out] at gI
      rw [List.length_append, HPL.out, HIL.out] at g2
      have HGP : Hid (Has wr P z) := gP
      have HGI : Hid (Has wr I (z + pl)) := gI
      have HG2 : Hid (Has wr [(tb, toff + k * 6 + 2), (tb, toff + k * 6 + 3), (tb, toff + k * 6 + 4), (tb, toff + k * 6 + 5)] (z + pl + il)) := by
        show Has _ _ _
        have e : z + (pl + il : Nat) = z + pl + il := by push_cast; omega
        rw [e] at g2
        exact g2
      have HPH : Hid (PhisTr lo hi wr pv (t.phis k)) := hph
      have HLS : Hid (InsTr lo hi wr lv (t.list k)) := hls
      obtain ⟨pa, pcap, rfl, _⟩ := hph.is
      obtain ⟨la, lcap, rfl, _⟩ := hls.is
      obtain ⟨pn, HPN⟩ : ∃ n, Hid ((t.phis k).n = n) := ⟨_, rfl⟩
      obtain ⟨ln, HLN⟩ : ∃ n, Hid ((t.list k).n = n) := ⟨_, rfl⟩
      rw [HPN.out] at c0 HPH
      rw [HLN.out] at c1 HLS
      clear hph hls HMT g0 g1 g2 gP gI hbl
      go_wp2_with fail
      refine (heldPhiS_has lo hi _ (t.phis k) z _ HPH.out (by rw [HP.out]; exact HGP.out) (by omega) (by omega)).mono ?_
      rw [HP.out]
      rintro e w1 ⟨rfl, b1⟩
      rw [HPL.out]
      replace c1 := Bel.keeps b1 c1
      have HLS1 : Hid (InsTr lo hi w1 (.slice la ln lcap) (t.list k)) := HLS.out.stay (Stays.below b1)
      have HGI1 : Hid (Has w1 I (z + pl)) := HGI.out.keep b1
      have HG21 : Hid (Has w1 [(tb, toff + k * 6 + 2), (tb, toff + k * 6 + 3), (tb, toff + k * 6 + 4), (tb, toff + k * 6 + 5)] (z + pl + il)) := HG2.out.keep b1
      have HB1 : Hid (Below w.heap.size w w1) := Bel.after HB.out b1
      clear b1 c0
      go_wp2_with fail
      refine (heldInsS_has lo hi _ (t.list k) (z + pl) _ HLS1.out (by rw [HI.out]; exact HGI1.out) (by omega) (by omega)).mono ?_
      rw [HI.out]
      rintro e w2 ⟨rfl, b2⟩
      rw [HIL.out]
      have HB2 : Hid (Below w.heap.size w w2) := Bel.after HB1.out b2
      have g2 := HG21.out.keep b2
      obtain ⟨c2, g3⟩ := g2.head
      obtain ⟨c3, g4⟩ := g3.head
      obtain ⟨c4, g5⟩ := g4.head
      obtain ⟨c5, _⟩ := g5.head
      change w2.cell? ⟨tb, toff + k * 6 + 2, none⟩ = some (.int .i64 (z + pl + il)) at c2
      change w2.cell? ⟨tb, toff + k * 6 + 3, none⟩ = some (.int .i64 (z + pl + il + 1)) at c3
      change w2.cell? ⟨tb, toff + k * 6 + 4, none⟩ = some (.int .i64 (z + pl + il + 1 + 1)) at c4
      change w2.cell? ⟨tb, toff + k * 6 + 5, none⟩ = some (.int .i64 (z + pl + il + 1 + 1 + 1)) at c5
      have e2 : ((z + pl + il : Int) != z + pl + il) = false := by simp
      have e3 : ((z + pl + il + 1 : Int) != z + pl + il + 1) = false := by simp
      have e4 : ((z + pl + il + 1 + 1 : Int) != z + pl + il + 1 + 1) = false := by simp
      have e5 : ((z + pl + il + 1 + 1 + 1 : Int) != z + pl + il + 1 + 1 + 1) = false := by simp
      clear b2 g2 g3 g4 g5 c1
      go_wp2_with fail
      go_roundw
      case rel =>
        refine ⟨k + 1, z + pl + il + 4, by omega, by go_num, by go_num, by omega, by omega, ?_, HB2.out⟩
        have h8 := HBL.out
        have h9 := HZL.out
        show _ = _
        rw [rowS_succ, List.length_append, h8]
        push_cast
        omega
      case measure => simp [intOf]; omega
    · go_wp2_with fail
      go_ret
      have hkn : k = n := by omega
      subst hkn
      refine ⟨?_, HB.out⟩
      rw [HSP.out]
      exact congrArg (fun x => Ending.returned (.int .i64 x)) HZL.out

/-- A program whose numbers' places are known, and no two of them one. -/
def FnTr (lo hi : Nat) (w : World) (v : Value) (t : BlocksT) (vals : Int) : Prop := ∃ bv, v = .agg #[bv, .int .i64 vals] ∧ BlocksTr lo hi w bv t
theorem FnTr.stay {lo hi : Nat} {w w' : World} {v : Value} {t : BlocksT} {vals : Int} (h : FnTr lo hi w v t vals) (s : Stays w w') : FnTr lo hi w' v t vals := by
  obtain ⟨bv, rfl, hb⟩ := h
  exact ⟨bv, rfl, hb.stay s⟩
/-- A program was marked, and the marks stand. -/
structure MarkedFn (lo hi : Nat) (t : BlocksT) (q : Int) (w w' : World) : Prop where
  marked : Marked lo hi w w'
  has : Has w' (blocksSp t) q
  stays : Stays w w'

set_option maxHeartbeats 2000000 in
theorem markFn_wr (lo hi : Nat) (v : Value) (t : BlocksT) (vals : Int) (q : Int) (w : World) (hm : FnTr lo hi w v t vals) (hd : (blocksSp t).Nodup) (hlo : lo ≤ w.heap.size) (hhi : hi ≤ w.heap.size) (hq : 0 ≤ q) (hq2 : q ≤ 1000000) :
    Calls Tryz.prog 60 #[v, .int .i64 q] w fun e w' => e = .returned (.int .i64 (q + (blocksSp t).length)) ∧ MarkedFn lo hi t q w w' := by
  obtain ⟨bv, rfl, hb⟩ := hm
  have HB : Hid (BlocksTr lo hi w bv t) := hb
  have HD : Hid ((blocksSp t).Nodup) := hd
  obtain ⟨ba, bcap, rfl, _⟩ := hb.is
  obtain ⟨n, HN⟩ : ∃ n, Hid (t.n = n) := ⟨_, rfl⟩
  rw [HN.out] at HB ⊢
  obtain ⟨ln, HLN⟩ : ∃ n, Hid ((blocksSp t).length = n) := ⟨_, rfl⟩
  rw [HLN.out]
  clear hb hd
  go_enter Tryz.func60, Tryz.ntmps60
  go_wp2_with fail
  refine (markBlockS_wr lo hi _ t q _ (HB.out.stay (Stays.below (Bel.alloc _ _))) HD.out hq hq2).mono ?_
  rintro e w1 ⟨rfl, t1⟩
  rw [HLN.out]
  have HT : Hid (Wrote lo hi (blocksSp t) q (w.alloc (.cells #[.slice ba n bcap, .int .i64 vals] 26)) w1) := t1
  clear t1
  go_wp2_with fail
  go_ret
  refine ⟨rfl, ⟨((Below.refl lo w).alloc hlo _).trans HT.out.turns.bel, fun k hk hk2 => ?_⟩, HT.out.has, ⟨fun p z h => HT.out.turns.num p z (Bel.keeps (Bel.alloc _ _) h), fun p a n c h => HT.out.turns.list p a n c (Bel.keeps (Bel.alloc _ _) h), fun b o j z _ => (HT.out.turns.fz _).trans (frozen?_alloc_cells _ _ _ _)⟩⟩
  exact (HT.out.turns.above k hk).trans (Below.heap_alloc w _ k hk2)

set_option maxHeartbeats 2000000 in
theorem heldFn_has (lo hi : Nat) (v : Value) (t : BlocksT) (vals : Int) (q : Int) (w : World) (hm : FnTr lo hi w v t vals) (hh : Has w (blocksSp t) q) (hq : 0 ≤ q) (hq2 : q ≤ 1000000) :
    Calls Tryz.prog 63 #[v, .int .i64 q] w fun e w' => GivesHeld (blocksSp t) q w e w' := by
  obtain ⟨bv, rfl, hb⟩ := hm
  have HB : Hid (BlocksTr lo hi w bv t) := hb
  have HH : Hid (Has w (blocksSp t) q) := hh
  obtain ⟨ba, bcap, rfl, _⟩ := hb.is
  obtain ⟨n, HN⟩ : ∃ n, Hid (t.n = n) := ⟨_, rfl⟩
  rw [HN.out] at HB ⊢
  obtain ⟨L, HL⟩ : ∃ L, Hid (blocksSp t = L) := ⟨_, rfl⟩
  rw [HL.out] at HH ⊢
  obtain ⟨ln, HLN⟩ : ∃ n, Hid (L.length = n) := ⟨_, rfl⟩
  clear hb hh
  go_enter Tryz.func63, Tryz.ntmps63
  go_wp2_with fail
  refine (heldBlockS_has lo hi _ t q _ (HB.out.stay (Stays.below (Bel.alloc _ _))) (by rw [HL.out]; exact HH.out.keep (Bel.alloc _ _)) hq hq2).mono ?_
  rw [HL.out]
  rintro e w1 ⟨rfl, b1⟩
  have HB1 : Hid (Below w.heap.size w w1) := Bel.after (Bel.alloc _ _) b1
  rw [HLN.out]
  clear b1
  have hln : 0 ≤ q + (ln : Int) := by omega
  have hln2 : ¬ q + (ln : Int) < 0 := by omega
  go_wp2_with fail
  go_ret
  refine ⟨?_, HB1.out⟩
  rw [HLN.out]
  rfl
end Go.Proofs.YtldcohhifmpedaaGreat
