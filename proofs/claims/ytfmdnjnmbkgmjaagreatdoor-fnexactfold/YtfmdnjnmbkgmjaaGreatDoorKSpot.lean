/- The places of a program's numbers, in the order in which they are marked; and that marks hold where no two places are one. No two places of a program are one, where each list has a block of memory of its own. -/
import Derived.Test.YtfmdnjnmbkgmjaaGreatDoorKMark
namespace Go.Proofs.YtfmdnjnmbkgmjaaGreatDoor
open Go.ChangeShapes Go.WideShapes Go.ChangeAt Go.RowKit
set_option linter.unusedVariables false
abbrev Spot := Nat × Nat
def spotA (s : Spot) : Addr := ⟨s.1, s.2, none⟩
def rowS (f : Nat → List Spot) (n : Nat) : List Spot := (List.range n).flatMap f
theorem rowS_succ (f : Nat → List Spot) (n : Nat) : rowS f (n + 1) = rowS f n ++ f n := by simp [rowS, List.range_succ]
theorem rowS_pre (f : Nat → List Spot) : ∀ {n k : Nat}, k ≤ n → ∃ R, rowS f n = rowS f k ++ R
  | 0, k, h => ⟨[], by rw [show k = 0 by omega]; simp⟩
  | n + 1, k, h => by
    by_cases e : k = n + 1
    · exact ⟨[], by rw [e]; simp⟩
    · obtain ⟨R, hR⟩ := rowS_pre f (n := n) (k := k) (by omega)
      exact ⟨R ++ f n, by rw [rowS_succ, hR, List.append_assoc]⟩
theorem rowS_len {f : Nat → List Spot} {c : Nat} : ∀ {n : Nat}, (∀ i, i < n → (f i).length ≤ c) → (rowS f n).length ≤ n * c
  | 0, _ => by simp [rowS]
  | n + 1, h => by
    rw [rowS_succ, List.length_append, Nat.succ_mul]
    exact Nat.add_le_add (rowS_len fun i hi => h i (by omega)) (h n (by omega))
theorem rowS_nodup {f : Nat → List Spot} {n k : Nat} (h : (rowS f n).Nodup) (hk : k < n) : (rowS f k ++ f k).Nodup := by
  obtain ⟨R, hR⟩ := rowS_pre f (n := n) (k := k + 1) (by omega)
  rw [hR, rowS_succ] at h
  exact (List.nodup_append.1 h).1
structure RowT where
  b : Nat
  off : Nat
  n : Nat
structure PhisT where
  b : Nat
  off : Nat
  n : Nat
  arms : Nat → RowT
structure BlocksT where
  b : Nat
  off : Nat
  n : Nat
  phis : Nat → PhisT
  list : Nat → RowT
def armE (b o : Nat) : List Spot := [(b, o), (b, o + 1)]
def insE (b o : Nat) : List Spot := [(b, o), (b, o + 1), (b, o + 2), (b, o + 3), (b, o + 4)]
def armsSp (t : RowT) : List Spot := rowS (fun i => armE t.b (t.off + i * 2)) t.n
def insSp (t : RowT) : List Spot := rowS (fun i => insE t.b (t.off + i * 5)) t.n
def phiE (t : PhisT) (i : Nat) : List Spot := (t.b, t.off + i * 2) :: armsSp (t.arms i)
def phisSp (t : PhisT) : List Spot := rowS (phiE t) t.n
def blockE (t : BlocksT) (i : Nat) : List Spot := phisSp (t.phis i) ++ insSp (t.list i) ++ [(t.b, t.off + i * 6 + 2), (t.b, t.off + i * 6 + 3), (t.b, t.off + i * 6 + 4), (t.b, t.off + i * 6 + 5)]
def blocksSp (t : BlocksT) : List Spot := rowS (blockE t) t.n
def SliceIs (v : Value) (b off n : Nat) : Prop := ∃ a cap, v = .slice a n cap ∧ (0 < n → a = some ⟨b, off, none⟩)
structure ArmsTr (lo hi : Nat) (w : World) (v : Value) (t : RowT) : Prop where
  is : SliceIs v t.b t.off t.n
  small : t.n ≤ 1048576
  inn : 0 < t.n → lo ≤ t.b ∧ t.b < hi
  fz : 0 < t.n → ∀ j, w.frozen? ⟨t.b, j, none⟩ = false
  at_ : ∀ i, i < t.n → ArmM w t.b (t.off + i * 2)
structure InsTr (lo hi : Nat) (w : World) (v : Value) (t : RowT) : Prop where
  is : SliceIs v t.b t.off t.n
  small : t.n ≤ 1048576
  inn : 0 < t.n → lo ≤ t.b ∧ t.b < hi
  fz : 0 < t.n → ∀ j, w.frozen? ⟨t.b, j, none⟩ = false
  at_ : ∀ i, i < t.n → InsM w t.b (t.off + i * 5)
structure PhisTr (lo hi : Nat) (w : World) (v : Value) (t : PhisT) : Prop where
  is : SliceIs v t.b t.off t.n
  small : t.n ≤ 1048576
  inn : 0 < t.n → lo ≤ t.b ∧ t.b < hi
  fz : 0 < t.n → ∀ j, w.frozen? ⟨t.b, j, none⟩ = false
  num : ∀ i, i < t.n → NumAt w t.b (t.off + i * 2)
  arms : ∀ i, i < t.n → ∃ sv, w.cell? ⟨t.b, t.off + i * 2 + 1, none⟩ = some sv ∧ ArmsTr lo hi w sv (t.arms i)
structure BlocksTr (lo hi : Nat) (w : World) (v : Value) (t : BlocksT) : Prop where
  is : SliceIs v t.b t.off t.n
  small : t.n ≤ 1048576
  inn : 0 < t.n → lo ≤ t.b ∧ t.b < hi
  fz : 0 < t.n → ∀ j, w.frozen? ⟨t.b, j, none⟩ = false
  num : ∀ i, i < t.n → NumAt w t.b (t.off + i * 6 + 2) ∧ NumAt w t.b (t.off + i * 6 + 3) ∧ NumAt w t.b (t.off + i * 6 + 4) ∧ NumAt w t.b (t.off + i * 6 + 5)
  phis : ∀ i, i < t.n → ∃ sv, w.cell? ⟨t.b, t.off + i * 6, none⟩ = some sv ∧ PhisTr lo hi w sv (t.phis i)
  list : ∀ i, i < t.n → ∃ sv, w.cell? ⟨t.b, t.off + i * 6 + 1, none⟩ = some sv ∧ InsTr lo hi w sv (t.list i)
structure Stays (w w' : World) : Prop where
  num : ∀ p z, w.cell? p = some (.int .i64 z) → ∃ z', w'.cell? p = some (.int .i64 z')
  list : ∀ p a n c, w.cell? p = some (.slice a n c) → w'.cell? p = some (.slice a n c)
  fz : ∀ (b o j : Nat) (z : Value), w.cell? ⟨b, o, none⟩ = some z → w'.frozen? ⟨b, j, none⟩ = w.frozen? ⟨b, j, none⟩
theorem Turns.stays {lo hi : Nat} {w w' : World} (h : Turns lo hi w w') : Stays w w' := ⟨h.num, h.list, fun b o j z _ => h.fz _⟩
theorem Stays.below {w w' : World} (h : Below w.heap.size w w') : Stays w w' := ⟨fun p z hz => ⟨z, Bel.keeps h hz⟩, fun p a n c hl => Bel.keeps h hl, fun b o j z hz => h.frozen (p := ⟨b, j, none⟩) (World.block_lt_of_cell? w ⟨b, o, none⟩ hz)⟩
theorem NumAt.stay {w w' : World} (h : Stays w w') {b o : Nat} (hn : NumAt w b o) : NumAt w' b o := by
  obtain ⟨z, hz⟩ := hn
  exact h.num _ z hz
theorem ArmsTr.stay {lo hi : Nat} {w w' : World} {v : Value} {t : RowT} (h : ArmsTr lo hi w v t) (s : Stays w w') : ArmsTr lo hi w' v t :=
  ⟨h.is, h.small, h.inn, fun h0 j => by obtain ⟨⟨z, hz⟩, _⟩ := h.at_ 0 h0; exact (s.fz _ _ j _ hz).trans (h.fz h0 j), fun i hi => ⟨(h.at_ i hi).1.stay s, (h.at_ i hi).2.stay s⟩⟩
theorem InsTr.stay {lo hi : Nat} {w w' : World} {v : Value} {t : RowT} (h : InsTr lo hi w v t) (s : Stays w w') : InsTr lo hi w' v t :=
  ⟨h.is, h.small, h.inn, fun h0 j => by obtain ⟨⟨z, hz⟩, _⟩ := h.at_ 0 h0; exact (s.fz _ _ j _ hz).trans (h.fz h0 j), fun i hi => by obtain ⟨h0, h1, h2, h3, h4⟩ := h.at_ i hi; exact ⟨h0.stay s, h1.stay s, h2.stay s, h3.stay s, h4.stay s⟩⟩
theorem PhisTr.stay {lo hi : Nat} {w w' : World} {v : Value} {t : PhisT} (h : PhisTr lo hi w v t) (s : Stays w w') : PhisTr lo hi w' v t :=
  ⟨h.is, h.small, h.inn, fun h0 j => by obtain ⟨z, hz⟩ := h.num 0 h0; exact (s.fz _ _ j _ hz).trans (h.fz h0 j), fun i hi => (h.num i hi).stay s, fun i hi => by
    obtain ⟨sv, hc, ha⟩ := h.arms i hi
    obtain ⟨a, cap, rfl, _⟩ := ha.is
    exact ⟨_, s.list _ _ _ _ hc, ha.stay s⟩⟩
theorem BlocksTr.stay {lo hi : Nat} {w w' : World} {v : Value} {t : BlocksT} (h : BlocksTr lo hi w v t) (s : Stays w w') : BlocksTr lo hi w' v t :=
  ⟨h.is, h.small, h.inn, fun h0 j => by obtain ⟨⟨z, hz⟩, _⟩ := h.num 0 h0; exact (s.fz _ _ j _ hz).trans (h.fz h0 j), fun i hi => by obtain ⟨h0, h1, h2, h3⟩ := h.num i hi; exact ⟨h0.stay s, h1.stay s, h2.stay s, h3.stay s⟩, fun i hi => by
    obtain ⟨sv, hc, ha⟩ := h.phis i hi
    obtain ⟨a, cap, rfl, _⟩ := ha.is
    exact ⟨_, s.list _ _ _ _ hc, ha.stay s⟩, fun i hi => by
    obtain ⟨sv, hc, ha⟩ := h.list i hi
    obtain ⟨a, cap, rfl, _⟩ := ha.is
    exact ⟨_, s.list _ _ _ _ hc, ha.stay s⟩⟩
def Has (w : World) (L : List Spot) (q : Int) : Prop := ∀ (j : Nat) (s : Spot), L[j]? = some s → w.cell? (spotA s) = some (.int .i64 (q + (j : Int)))
theorem Has.app {w : World} {L M : List Spot} {q : Int} : Has w (L ++ M) q ↔ Has w L q ∧ Has w M (q + L.length) := by
  refine ⟨fun h => ⟨fun j s hj => h j s ?_, fun j s hj => ?_⟩, fun ⟨h, k⟩ j s hj => ?_⟩
  · rw [List.getElem?_append_left (List.getElem?_eq_some_iff.1 hj).1]
    exact hj
  · have := h (L.length + j) s (by rw [List.getElem?_append_right (by omega)]; simpa using hj)
    rw [this]
    congr 2
    push_cast
    omega
  · by_cases e : j < L.length
    · rw [List.getElem?_append_left e] at hj
      exact h j s hj
    · rw [List.getElem?_append_right (by omega)] at hj
      rw [k _ _ hj]
      congr 2
      omega
theorem Has.nil (w : World) (q : Int) : Has w [] q := fun j s h => by simp at h
theorem Has.keep {w w' : World} {L : List Spot} {q : Int} (h : Has w L q) (hb : Below w.heap.size w w') : Has w' L q := fun j s hj => Bel.keeps hb (h j s hj)
structure Wrote (lo hi : Nat) (L : List Spot) (q : Int) (w w' : World) : Prop where
  turns : Turns lo hi w w'
  has : Has w' L q
  off : ∀ s : Spot, s ∉ L → w'.cell? (spotA s) = w.cell? (spotA s)
theorem Wrote.refl (lo hi : Nat) (q : Int) (w : World) : Wrote lo hi [] q w w := ⟨Turns.refl _ _ _, Has.nil _ _, fun _ _ => rfl⟩
theorem Wrote.trans {lo hi : Nat} {L M : List Spot} {q : Int} {a b c : World} (h : Wrote lo hi L q a b) (k : Wrote lo hi M (q + L.length) b c) (hd : (L ++ M).Nodup) : Wrote lo hi (L ++ M) q a c := by
  have hx := (List.nodup_append.1 hd).2.2
  refine ⟨h.turns.trans k.turns, Has.app.2 ⟨fun j s hj => ?_, k.has⟩, fun s hs => ?_⟩
  · rw [k.off s (fun hm => hx s (List.mem_of_getElem? hj) s hm rfl)]
    exact h.has j s hj
  · rw [k.off s (fun hm => hs (List.mem_append.2 (.inr hm))), h.off s (fun hm => hs (List.mem_append.2 (.inl hm)))]
theorem Wrote.put {lo hi : Nat} {q : Int} {w : World} {b o : Nat} {z : Int} (hc : w.cell? ⟨b, o, none⟩ = some (.int .i64 z)) (h1 : lo ≤ b) (h2 : b < hi) : Wrote lo hi [(b, o)] q w (w.setCell ⟨b, o, none⟩ (.int .i64 q)) := by
  refine ⟨(Turns.refl lo hi w).put hc h1 h2 q, fun j s hj => ?_, fun s hs => ?_⟩
  · have hj0 : j = 0 := by have := (List.getElem?_eq_some_iff.1 hj).1; simp at this; omega
    subst hj0
    simp at hj
    subst hj
    rw [show spotA (b, o) = ⟨b, o, none⟩ from rfl, World.cell?_setCell_same _ _ _ hc]
    simp
  · refine World.cell?_setCell_other _ _ _ _ (fun e => hs ?_)
    have e1 : b = s.1 := congrArg Addr.block e
    have e2 : o = s.2 := congrArg Addr.off e
    subst e1
    subst e2
    simp
theorem Wrote.more {lo hi : Nat} {L : List Spot} {q : Int} {a w : World} (h : Wrote lo hi L q a w) {b o : Nat} {z x : Int} (hc : w.cell? ⟨b, o, none⟩ = some (.int .i64 z)) (h1 : lo ≤ b) (h2 : b < hi) (hd : (L ++ [(b, o)]).Nodup) (hx : x = q + L.length) : Wrote lo hi (L ++ [(b, o)]) q a (w.setCell ⟨b, o, none⟩ (.int .i64 x)) := by
  subst hx
  exact h.trans (Wrote.put hc h1 h2) hd
end Go.Proofs.YtfmdnjnmbkgmjaaGreatDoor
namespace Go.Proofs.YtfmdnjnmbkgmjaaGreatDoor
set_option linter.unusedVariables false
theorem rowS_mem {f : Nat → List Spot} {s : Spot} : ∀ {n : Nat}, s ∈ rowS f n → ∃ i, i < n ∧ s ∈ f i
  | 0, h => by simp [rowS] at h
  | n + 1, h => by
    rw [rowS_succ] at h
    rcases List.mem_append.1 h with h | h
    · obtain ⟨i, hi, hs⟩ := rowS_mem h
      exact ⟨i, by omega, hs⟩
    · exact ⟨n, by omega, h⟩
theorem rowS_nodup_of {f : Nat → List Spot} : ∀ {n : Nat}, (∀ i, i < n → (f i).Nodup) → (∀ i j, i < j → j < n → ∀ s, s ∈ f i → s ∈ f j → False) → (rowS f n).Nodup
  | 0, _, _ => by simp [rowS]
  | n + 1, h, k => by
    rw [rowS_succ]
    refine List.nodup_append.2 ⟨rowS_nodup_of (fun i hi => h i (by omega)) (fun i j hij hj => k i j hij (by omega)), h n (by omega), fun s hs s' hs' e => ?_⟩
    subst e
    obtain ⟨i, hi, hm⟩ := rowS_mem hs
    exact k i n hi (by omega) s hm hs'
theorem armsSp_mem {t : RowT} {s : Spot} (h : s ∈ armsSp t) : 0 < t.n ∧ s.1 = t.b := by
  obtain ⟨i, hi, hm⟩ := rowS_mem h
  simp [armE] at hm
  refine ⟨by omega, ?_⟩
  rcases hm with rfl | rfl <;> rfl
theorem insSp_mem {t : RowT} {s : Spot} (h : s ∈ insSp t) : 0 < t.n ∧ s.1 = t.b := by
  obtain ⟨i, hi, hm⟩ := rowS_mem h
  simp [insE] at hm
  refine ⟨by omega, ?_⟩
  rcases hm with rfl | rfl | rfl | rfl | rfl <;> rfl
theorem armsSp_nodup (t : RowT) : (armsSp t).Nodup := by
  refine rowS_nodup_of (fun i hi => by simp [armE]) (fun i j hij hj s h1 h2 => ?_)
  simp [armE] at h1 h2
  rcases h1 with rfl | rfl <;> rcases h2 with h2 | h2 <;> simp at h2 <;> omega
theorem insSp_nodup (t : RowT) : (insSp t).Nodup := by
  refine rowS_nodup_of (fun i hi => by simp [insE]) (fun i j hij hj s h1 h2 => ?_)
  simp [insE] at h1 h2
  rcases h1 with rfl | rfl | rfl | rfl | rfl <;> rcases h2 with h2 | h2 | h2 | h2 | h2 <;> simp at h2 <;> omega
structure OwnT (own : Nat → Nat × Nat × Nat) (t : BlocksT) : Prop where
  rows : 0 < t.n → own t.b = (0, 0, 0)
  phis : ∀ i, i < t.n → 0 < (t.phis i).n → own (t.phis i).b = (1, i, 0)
  list : ∀ i, i < t.n → 0 < (t.list i).n → own (t.list i).b = (2, i, 0)
  arms : ∀ i, i < t.n → ∀ j, j < (t.phis i).n → 0 < ((t.phis i).arms j).n → own ((t.phis i).arms j).b = (3, i, j)
theorem OwnT.phiMem {own : Nat → Nat × Nat × Nat} {t : BlocksT} (h : OwnT own t) {i : Nat} (hi : i < t.n) {j : Nat} (hj : j < (t.phis i).n) {s : Spot} (hs : s ∈ phiE (t.phis i) j) : (own s.1 = (1, i, 0) ∧ s.2 = (t.phis i).off + j * 2) ∨ own s.1 = (3, i, j) := by
  unfold phiE at hs
  rcases List.mem_cons.1 hs with rfl | hs
  · exact .inl ⟨h.phis i hi (by omega), rfl⟩
  · obtain ⟨h1, h2⟩ := armsSp_mem hs
    rw [h2]
    exact .inr (h.arms i hi j hj h1)
theorem OwnT.phisMem {own : Nat → Nat × Nat × Nat} {t : BlocksT} (h : OwnT own t) {i : Nat} (hi : i < t.n) {s : Spot} (hs : s ∈ phisSp (t.phis i)) : own s.1 = (1, i, 0) ∨ ∃ j, own s.1 = (3, i, j) := by
  obtain ⟨j, hj, hm⟩ := rowS_mem hs
  rcases h.phiMem hi hj hm with h1 | h1
  · exact .inl h1.1
  · exact .inr ⟨j, h1⟩
theorem OwnT.phisNodup {own : Nat → Nat × Nat × Nat} {t : BlocksT} (h : OwnT own t) {i : Nat} (hi : i < t.n) : (phisSp (t.phis i)).Nodup := by
  refine rowS_nodup_of (fun j hj => ?_) (fun j k hjk hk s h1 h2 => ?_)
  · unfold phiE
    refine List.nodup_cons.2 ⟨fun hm => ?_, armsSp_nodup _⟩
    obtain ⟨h1, h2⟩ := armsSp_mem hm
    have h3 := h.arms i hi j hj h1
    rw [← h2] at h3
    have h4 := h.phis i hi (by omega)
    rw [show ((t.phis i).b, (t.phis i).off + j * 2).1 = (t.phis i).b from rfl, h4] at h3
    simp at h3
  · rcases h.phiMem hi (by omega) h1 with ⟨a1, a2⟩ | a1 <;> rcases h.phiMem hi hk h2 with ⟨b1, b2⟩ | b1
    · omega
    · rw [a1] at b1; simp at b1
    · rw [a1] at b1; simp at b1
    · rw [a1] at b1; simp at b1; omega
theorem OwnT.blockMem {own : Nat → Nat × Nat × Nat} {t : BlocksT} (h : OwnT own t) {i : Nat} (hi : i < t.n) {s : Spot} (hs : s ∈ blockE t i) : (∃ c j, own s.1 = (c + 1, i, j)) ∨ (own s.1 = (0, 0, 0) ∧ t.off + i * 6 + 2 ≤ s.2 ∧ s.2 ≤ t.off + i * 6 + 5) := by
  unfold blockE at hs
  rcases List.mem_append.1 hs with hs | hs
  · rcases List.mem_append.1 hs with hs | hs
    · rcases h.phisMem hi hs with h1 | ⟨j, h1⟩
      · exact .inl ⟨0, 0, h1⟩
      · exact .inl ⟨2, j, h1⟩
    · obtain ⟨h1, h2⟩ := insSp_mem hs
      exact .inl ⟨1, 0, by rw [h2]; exact h.list i hi h1⟩
  · have h0 := h.rows (by omega)
    simp at hs
    rcases hs with rfl | rfl | rfl | rfl <;> exact .inr ⟨h0, by simp, by simp⟩
theorem OwnT.nodup {own : Nat → Nat × Nat × Nat} {t : BlocksT} (h : OwnT own t) : (blocksSp t).Nodup := by
  refine rowS_nodup_of (fun i hi => ?_) (fun i j hij hj s h1 h2 => ?_)
  · unfold blockE
    refine List.nodup_append.2 ⟨List.nodup_append.2 ⟨h.phisNodup hi, insSp_nodup _, fun s hs s' hs' e => ?_⟩, by simp, fun s hs s' hs' e => ?_⟩
    · subst e
      obtain ⟨h1, h2⟩ := insSp_mem hs'
      have h3 := h.list i hi h1
      rw [← h2] at h3
      rcases h.phisMem hi hs with h4 | ⟨j, h4⟩ <;> (rw [h3] at h4; simp at h4)
    · subst e
      have h0 := h.rows (by omega)
      have h5 : own s.1 = (0, 0, 0) := by
        simp at hs'
        rcases hs' with rfl | rfl | rfl | rfl <;> exact h0
      rcases List.mem_append.1 hs with hs | hs
      · rcases h.phisMem hi hs with h4 | ⟨j, h4⟩ <;> (rw [h5] at h4; simp at h4)
      · obtain ⟨h1, h2⟩ := insSp_mem hs
        have h3 := h.list i hi h1
        rw [← h2, h5] at h3
        simp at h3
  · rcases h.blockMem (by omega) h1 with ⟨c, d, a1⟩ | ⟨a1, a2, a3⟩ <;> rcases h.blockMem hj h2 with ⟨c', d', b1⟩ | ⟨b1, b2, b3⟩
    · rw [a1] at b1; simp at b1; omega
    · rw [a1] at b1; simp at b1
    · rw [a1] at b1; simp at b1
    · omega
end Go.Proofs.YtfmdnjnmbkgmjaaGreatDoor
