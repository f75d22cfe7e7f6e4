/- What the laws over drawn programs ask of the way between blocks and of who comes first, as mathematics. What a program tells, as mathematics: values, cells, what is read, what was told, the way, and fuel. Lists of numbers of the call's own, number by number. -/
import Derived.Test.YtkejplddeelahaaGreatDoorKDfs
import Derived.Test.YtkejplddeelahaaGreatDoorKIns
import Derived.Test.YtkejplddeelahaaGreatDoorKSeq
import Derived.Deep.OwnRows
namespace Go.Proofs.YtkejplddeelahaaGreatDoor
set_option linter.unusedVariables false

theorem mem_predsUp {F : FnD} {b x : Int} {k : Nat} : x ∈ predsUp F b k ↔ ∃ p : Nat, p < k ∧ b ∈ succsN F p ∧ (p : Int) = x := by
  simp [predsUp, and_assoc]
theorem graph_next {F : FnD} {b s : Int} (h : s ∈ succsOf F b) : b ∈ predsOf F s := by
  by_cases hp : FnShape F ∧ 0 ≤ b ∧ b < F.blocks.length
  · obtain ⟨hS, h0, h1⟩ := hp
    rw [succsOf_yes hS h0 h1] at h
    have hs := succs_in hS _ s h
    rw [predsOf_yes hS hs.1 hs.2]
    exact mem_predsUp.2 ⟨b.toNat, by omega, h, by omega⟩
  · rw [succsOf_no hp] at h
    cases h
theorem graph_prev {F : FnD} {c p : Int} (h : p ∈ predsOf F c) : c ∈ succsOf F p := by
  by_cases hp : FnShape F ∧ 0 ≤ c ∧ c < F.blocks.length
  · obtain ⟨hS, h0, h1⟩ := hp
    rw [predsOf_yes hS h0 h1] at h
    obtain ⟨q, hq, hm, rfl⟩ := mem_predsUp.1 h
    rw [succsOf_yes hS (by omega) (by omega)]
    simpa using hm
  · rw [predsOf_no hp] at h
    cases h
theorem predsUp_up (F : FnD) (b : Int) (k : Nat) : (predsUp F b k).Pairwise (· < ·) := by
  unfold predsUp
  rw [List.pairwise_map]
  refine (List.pairwise_lt_range.filter _).imp ?_
  intro a b h
  omega
theorem predsOf_up (F : FnD) (b : Int) : (predsOf F b).Pairwise (· < ·) := by
  unfold predsOf
  split
  · exact predsUp_up _ _ _
  · exact List.Pairwise.nil
theorem up_at {l : List Int} (h : l.Pairwise (· < ·)) {i : Nat} (h0 : 0 < i) (h1 : i < l.length) : l.getD (i - 1) 0 < l.getD i 0 := by
  have := List.pairwise_iff_getElem.1 h (i - 1) i (by omega) h1 (by omega)
  simpa [List.getD, h1, show i - 1 < l.length by omega] using this
theorem lawGetD_mem {l : List Int} {i : Nat} (h : i < l.length) : l.getD i 0 ∈ l := by
  have : l.getD i 0 = l[i] := by simp [List.getD, h]
  rw [this]
  exact List.getElem_mem h

theorem succsOf_two (F : FnD) (b : Int) : (succsOf F b).length ≤ 2 := by
  unfold succsOf
  split
  · exact succsN_small _ _
  · simp

/-! ### The order -/

/-- What is left behind is left once. -/
theorem leave_once {S : Nat → List Int} : ∀ (f b : Nat) (st : Way), b ∉ st.1 → st.2.Nodup → (∀ x ∈ st.2, 0 ≤ x ∧ x.toNat ∈ st.1) →
    (leave S f b st).2.Nodup ∧ (∀ x ∈ (leave S f b st).2, 0 ≤ x ∧ x.toNat ∈ (leave S f b st).1) ∧ (∀ x ∈ (leave S f b st).2, x ∈ st.2 ∨ x.toNat ∉ st.1)
  | 0, _, st, _, h1, h2 => ⟨h1, h2, fun x hx => .inl hx⟩
  | f + 1, b, st, hb, h1, h2 => by
    have hf : ∀ (l : List Int) (s0 : Way), (∀ x ∈ b :: st.1, x ∈ s0.1) → s0.2.Nodup → (∀ x ∈ s0.2, 0 ≤ x ∧ x.toNat ∈ s0.1) → (∀ x ∈ s0.2, x ∈ st.2 ∨ x.toNat ∉ b :: st.1) →
        (l.foldl (stepW (leave S f)) s0).2.Nodup ∧ (∀ x ∈ (l.foldl (stepW (leave S f)) s0).2, 0 ≤ x ∧ x.toNat ∈ (l.foldl (stepW (leave S f)) s0).1) ∧ (∀ x ∈ (l.foldl (stepW (leave S f)) s0).2, x ∈ st.2 ∨ x.toNat ∉ b :: st.1) := by
      intro l
      induction l with
      | nil => exact fun s0 _ a1 a2 a3 => ⟨a1, a2, a3⟩
      | cons y l ih =>
        intro s0 hsub a1 a2 a3
        by_cases hin : y.toNat ∈ s0.1
        · have e : (y :: l).foldl (stepW (leave S f)) s0 = l.foldl (stepW (leave S f)) s0 := by rw [List.foldl_cons, stepW_in hin]
          rw [e]
          exact ih s0 hsub a1 a2 a3
        · have e : (y :: l).foldl (stepW (leave S f)) s0 = l.foldl (stepW (leave S f)) (leave S f y.toNat s0) := by rw [List.foldl_cons, stepW_out hin]
          rw [e]
          obtain ⟨c1, c2, c3⟩ := leave_once f y.toNat s0 hin a1 a2
          refine ih _ (fun x hx => leave_sub S f _ _ x (hsub x hx)) c1 c2 (fun x hx => ?_)
          rcases c3 x hx with h | h
          · exact a3 x h
          · exact .inr (fun hm => h (hsub _ hm))
    obtain ⟨k1, k2, k3⟩ := hf (S b) (b :: st.1, st.2) (fun x hx => hx) h1 (fun x hx => ⟨(h2 x hx).1, List.mem_cons_of_mem _ (h2 x hx).2⟩) (fun x hx => .inl hx)
    have hsub : ∀ x ∈ b :: st.1, x ∈ (midW S f b st (S b)).1 := mid_sub S f b st (S b)
    rw [leave_eq]
    refine ⟨?_, fun x hx => ?_, fun x hx => ?_⟩
    · refine List.nodup_append.2 ⟨k1, by simp, ?_⟩
      intro x hx y hy
      simp at hy
      subst hy
      rintro rfl
      rcases k3 _ hx with h | h
      · exact hb (by simpa using (h2 _ h).2)
      · exact h (by simp)
    · rcases List.mem_append.1 hx with hx | hx
      · exact k2 x hx
      · simp at hx
        subst hx
        exact ⟨by omega, by simpa using hsub b (by simp)⟩
    · rcases List.mem_append.1 hx with hx | hx
      · rcases k3 x hx with h | h
        · exact .inl h
        · exact .inr (fun hm => h (List.mem_cons_of_mem _ hm))
      · simp at hx
        subst hx
        exact .inr (by simpa using hb)
theorem way_once (F : FnD) : (wayOf F).2.Nodup ∧ ∀ x ∈ (wayOf F).2, 0 ≤ x := by
  obtain ⟨h1, h2, _⟩ := leave_once (S := succsN F) F.blocks.length 0 ([], []) (by simp) List.nodup_nil (by simp)
  exact ⟨h1, fun x hx => (h2 x hx).1⟩
/-- The first of the order. -/
theorem order_first {F : FnD} (h : FnShape F) : (orderOf F).getD 0 0 = 0 ∧ 0 < (orderOf F).length := by
  rw [orderOf_yes h]
  obtain ⟨n, hn⟩ : ∃ n, F.blocks.length = n + 1 := ⟨F.blocks.length - 1, by have := h.1; omega⟩
  unfold wayOf
  rw [hn, leave_eq]
  simp
/-- Whether a block is reached, by its number. -/
noncomputable def reaB (F : FnD) (b : Nat) : Bool := decide (b ∈ (wayOf F).1)
theorem reaB_iff {F : FnD} {b : Nat} : reaB F b = true ↔ b ∈ (wayOf F).1 := by simp [reaB]
theorem reached_at {F : FnD} (h : FnShape F) {b : Nat} (hb : b < F.blocks.length) : (reachedOf F).getD b false = reaB F b := by
  rw [reachedOf_yes h]
  simp [reachedN, List.getD, hb, reaB]
theorem reached_len {F : FnD} (h : FnShape F) : (reachedOf F).length = F.blocks.length := by
  rw [reachedOf_yes h]
  simp [reachedN]
theorem orderB_mem {F : FnD} (h : FnShape F) (b : Nat) : decide ((b : Int) ∈ orderOf F) = reaB F b := by
  rw [orderOf_yes h]
  unfold reaB
  refine decide_eq_decide.2 ?_
  rw [List.mem_reverse]
  exact (wayOf_same F b).symm
/-- How many of the first k are reached. -/
noncomputable def reaUp (F : FnD) (k : Nat) : Nat := ((List.range k).filter (reaB F)).length
theorem reaUp_zero (F : FnD) : reaUp F 0 = 0 := rfl
theorem reaUp_yes {F : FnD} {k : Nat} (h : reaB F k = true) : reaUp F (k + 1) = reaUp F k + 1 := by simp [reaUp, List.range_succ, h]
theorem reaUp_not {F : FnD} {k : Nat} (h : reaB F k = false) : reaUp F (k + 1) = reaUp F k := by simp [reaUp, List.range_succ, h]
theorem reaUp_le (F : FnD) (k : Nat) : reaUp F k ≤ k := by
  unfold reaUp
  exact Nat.le_trans (List.length_filter_le _ _) (by simp)
theorem order_count {F : FnD} (h : FnShape F) : reaUp F F.blocks.length = (orderOf F).length := by
  rw [orderOf_yes h, List.length_reverse]
  obtain ⟨h1, h2⟩ := way_once F
  have hp : (((List.range F.blocks.length).filter (reaB F)).map (fun (x : Nat) => (x : Int))).Perm (wayOf F).2 := by
    refine (List.perm_ext_iff_of_nodup ?_ h1).2 (fun x => ?_)
    · unfold List.Nodup
      rw [List.pairwise_map]
      refine (List.pairwise_lt_range.filter _).imp ?_
      intro a b hab
      omega
    · simp only [List.mem_map, List.mem_filter, List.mem_range]
      constructor
      · rintro ⟨y, ⟨_, hy⟩, rfl⟩
        exact (wayOf_same F y).1 (reaB_iff.1 hy)
      · intro hx
        have hx0 := h2 x hx
        have e : ((x.toNat : Nat) : Int) = x := by omega
        have hin : x.toNat ∈ (wayOf F).1 := (wayOf_same F _).2 (by rw [e]; exact hx)
        exact ⟨x.toNat, ⟨way_lt h hin, reaB_iff.2 hin⟩, e⟩
  have := hp.length_eq
  rw [List.length_map] at this
  exact this
/-- Who follows one that is reached is. -/
theorem reached_next {F : FnD} (h : FnShape F) {b : Nat} (hb : b < F.blocks.length) (hr : reaB F b = true) {s : Int} (hs : s ∈ succsOf F b) : 0 ≤ s ∧ s < F.blocks.length ∧ reaB F s.toNat = true := by
  rw [succsOf_yes h (by omega) (by omega)] at hs
  have h1 := succs_in h _ s hs
  refine ⟨h1.1, h1.2, reaB_iff.2 (way_step h (reaB_iff.1 hr) ?_)⟩
  have e : ((s.toNat : Nat) : Int) = s := by omega
  rw [e]
  simpa using hs

/-! ### Who comes first -/

theorem domsN_mem {F : FnD} (h : FnShape F) {a b : Nat} : decide ((a : Int) ∈ domsN F b) = domB F a b := by
  unfold domB
  refine decide_eq_decide.2 ?_
  unfold domsN domsUp
  simp only [List.mem_map, List.mem_filter, List.mem_range]
  constructor
  · rintro ⟨x, ⟨_, hx⟩, e⟩
    obtain rfl : x = a := by omega
    exact domB_iff.1 hx
  · intro hd
    exact ⟨a, ⟨(dom_lt h hd).1, domB_iff.2 hd⟩, rfl⟩
theorem doms_none {F : FnD} {b : Nat} (h : reaB F b = false) : domsN F b = [] := by
  unfold domsN domsUp
  rw [List.map_eq_nil_iff, List.filter_eq_nil_iff]
  intro a _ hd
  have := reaB_iff.2 (domB_iff.1 hd).2.1
  rw [h] at this
  cases this
/-- Of those that come ahead all that are reached are dominated. -/
noncomputable def allB (F : FnD) (a b : Nat) (k : Nat) : Bool := decide (b ≠ 0) && ((predsOf F b).take k).all (fun p => !reaB F p.toNat || domB F a p.toNat)
theorem allB_zero (F : FnD) (a b : Nat) : allB F a b 0 = decide (b ≠ 0) := by simp [allB]
theorem allB_next {F : FnD} {a b k : Nat} (hk : k < (predsOf F b).length) : allB F a b (k + 1) = (allB F a b k && (!reaB F ((predsOf F b).getD k 0).toNat || domB F a ((predsOf F b).getD k 0).toNat)) := by
  unfold allB
  rw [take_next hk]
  simp only [List.all_append, List.all_cons, List.all_nil, Bool.and_true, Bool.and_assoc]
theorem preds_in {F : FnD} {b p : Int} (h : p ∈ predsOf F b) : 0 ≤ p ∧ p < F.blocks.length := by
  by_cases hp : FnShape F ∧ 0 ≤ b ∧ b < F.blocks.length
  · rw [predsOf_yes hp.1 hp.2.1 hp.2.2] at h
    obtain ⟨q, hq, _, rfl⟩ := mem_predsUp.1 h
    omega
  · rw [predsOf_no hp] at h
    cases h
theorem doms_law {F : FnD} (h : FnShape F) {a b : Nat} (hb : b < F.blocks.length) (hrb : reaB F b = true) (hra : reaB F a = true) : (allB F a b (predsOf F b).length || decide (a = b)) = domB F a b := by
  have hpm : ∀ p : Int, p ∈ predsOf F b ↔ 0 ≤ p ∧ p < F.blocks.length ∧ (b : Int) ∈ succsN F p.toNat := by
    intro p
    rw [predsOf_yes h (by omega) (by omega)]
    unfold predsN
    rw [mem_predsUp]
    constructor
    · rintro ⟨q, hq, hm, rfl⟩
      exact ⟨by omega, by omega, by simpa using hm⟩
    · rintro ⟨h0, h1, h2⟩
      exact ⟨p.toNat, by omega, h2, by omega⟩
  apply Bool.eq_iff_iff.2
  rw [domB_iff]
  unfold allB
  rw [List.take_length]
  simp only [Bool.or_eq_true, Bool.and_eq_true, decide_eq_true_eq, List.all_eq_true, Bool.not_eq_true']
  constructor
  · rintro (⟨hne, hall⟩ | rfl)
    · refine ⟨reaB_iff.1 hra, reaB_iff.1 hrb, fun e => ?_⟩
      cases e with
      | base _ => exact hne rfl
      | @step x _ h1 h2 h3 =>
        have hx : x ∈ (wayOf F).1 := (way_rea h x).2 (h1.mono (by simp))
        have hxl := way_lt h hx
        rcases hall (x : Int) ((hpm _).2 ⟨by omega, by omega, by simpa using h2⟩) with hh | hh
        · rw [Int.toNat_natCast, reaB_iff.2 hx] at hh
          cases hh
        · rw [Int.toNat_natCast] at hh
          exact (domB_iff.1 hh).2.2 h1
    · exact dom_refl (reaB_iff.1 hrb)
  · intro hd
    by_cases e : a = b
    · exact .inr e
    · refine .inl ⟨fun e0 => ?_, fun p hp => ?_⟩
      · subst e0
        exact hd.2.2 (.base (fun e2 => e e2.symm))
      · cases hr : reaB F p.toNat with
        | false => exact .inl rfl
        | true =>
          refine .inr (domB_iff.2 ⟨reaB_iff.1 hra, reaB_iff.1 hr, fun er => ?_⟩)
          exact hd.2.2 (.step er ((hpm p).1 hp).2.2 (fun e2 => e e2.symm))
end Go.Proofs.YtkejplddeelahaaGreatDoor

namespace Go.Proofs.YtkejplddeelahaaGreatDoor
set_option linter.unusedVariables false

/-- Where a run is. -/
structure RunS where
  vals : Nat → Int
  cells : Nat → Int
  reads : List Int
  told : List Int
  path : List Int
  fuel : Nat

def updN (f : Nat → Int) (k : Nat) (x : Int) : Nat → Int := fun i => if i = k then x else f i

def RunS.setV (s : RunS) (d x : Int) : RunS := { s with vals := updN s.vals d.toNat x }
def RunS.val (s : RunS) (v : Int) : Int := s.vals v.toNat
/-- Is it the number of a cell? -/
def cellOk (a : Int) : Prop := 0 ≤ a ∧ a ≤ 7
instance (a : Int) : Decidable (cellOk a) := inferInstanceAs (Decidable (0 ≤ a ∧ a ≤ 7))

/-- What a place does: how it ends, and the run behind it. -/
def insDo (W : Int → Int → Int → Int) (x : InsD) (s : RunS) : Int × RunS :=
  if 1 ≤ x.op ∧ x.op ≤ 10 then (0, s.setV x.d (W x.op (s.val x.a) (s.val x.b)))
  else if x.op = 20 then (0, s.setV x.d x.n)
  else if x.op = 21 then (if cellOk (s.val x.a) then (0, s.setV x.d (s.cells (s.val x.a).toNat)) else (2, s))
  else if x.op = 22 then (if cellOk (s.val x.a) then (0, { s with cells := updN s.cells (s.val x.a).toNat (s.val x.b) }) else (2, s))
  else if x.op = 23 then (0, { s with told := s.told ++ [s.val x.a] })
  else if x.op = 24 then (0, { s.setV x.d (s.reads.headD 0) with reads := s.reads.tail })
  else if x.op = 25 then (0, s.setV x.d (s.val x.a))
  else (0, s)

def armsDo (fr : Int) (before : Nat → Int) (d : Int) (l : List ArmD) (v : Nat → Int) : Nat → Int :=
  l.foldl (fun v a => if a.fr = fr then updN v d.toNat (before a.v.toNat) else v) v
def phisDo (fr : Int) (before : Nat → Int) (ps : List PhiD) (v : Nat → Int) : Nat → Int :=
  ps.foldl (fun v p => armsDo fr before p.d p.arms v) v

/-- The places of a list, one behind the other. -/
def placesDo (W : Int → Int → Int → Int) : List InsD → RunS → Int × RunS
  | [], s => (0, s)
  | x :: xs, s => if s.fuel = 0 then (1, s) else
    let r := insDo W x { s with fuel := s.fuel - 1 }
    if r.1 = 0 then placesDo W xs r.2 else r

def enterDo (b : BlockD) (at_ : Nat) (fr : Int) (s : RunS) : RunS := { s with vals := phisDo fr s.vals b.phis s.vals, path := s.path ++ [(at_ : Int)] }

/-- Where one goes. -/
def nextDo (t : TermD) (s : RunS) : Int := if t.k = 2 ∧ s.val t.a = 0 then t.e else t.t

/-- A run from a block on: how, what the end is, and where it is then. -/
def tellN (W : Int → Int → Int → Int) (F : FnD) : Nat → Nat → Int → RunS → Int × Int × RunS
  | 0, _, _, s => (1, 0, s)
  | k + 1, at_, fr, s => match F.blocks[at_]? with
    | none => (1, 0, s)
    | some b =>
      let r := placesDo W b.list (enterDo b at_ fr s)
      if r.1 ≠ 0 then (r.1, 0, r.2)
      else if r.2.fuel = 0 then (1, 0, r.2)
      else if b.term.k = 3 then (0, r.2.val b.term.a, { r.2 with fuel := r.2.fuel - 1 })
      else tellN W F k (nextDo b.term r.2).toNat at_ { r.2 with fuel := r.2.fuel - 1 }

def startDo (reads : List Int) (fuel : Int) : RunS := ⟨fun _ => 0, fun _ => 0, reads, [], [], (min fuel 5000).toNat⟩
def runDo (W : Int → Int → Int → Int) (F : FnD) (reads : List Int) (fuel : Int) : Int × Int × RunS := tellN W F 5001 0 (-1) (startDo reads fuel)

theorem insDo_fuel (W : Int → Int → Int → Int) (x : InsD) (s : RunS) : (insDo W x s).2.fuel = s.fuel := by
  unfold insDo
  repeat' split
  all_goals rfl
theorem placesDo_fuel (W : Int → Int → Int → Int) (xs : List InsD) (s : RunS) : (placesDo W xs s).2.fuel ≤ s.fuel := by
  induction xs generalizing s with
  | nil => exact Nat.le_refl _
  | cons x xs ih =>
    unfold placesDo
    split
    · exact Nat.le_refl _
    · have h := insDo_fuel W x { s with fuel := s.fuel - 1 }
      dsimp only at h ⊢
      split
      · have := ih (insDo W x { s with fuel := s.fuel - 1 }).2
        omega
      · omega
theorem placesDo_cons (W : Int → Int → Int → Int) (x : InsD) (xs : List InsD) (s : RunS) : placesDo W (x :: xs) s = if s.fuel = 0 then (1, s) else (if (insDo W x { s with fuel := s.fuel - 1 }).1 = 0 then placesDo W xs (insDo W x { s with fuel := s.fuel - 1 }).2 else insDo W x { s with fuel := s.fuel - 1 }) := rfl
end Go.Proofs.YtkejplddeelahaaGreatDoor

namespace Go.Proofs.YtkejplddeelahaaGreatDoor
open Go.ChangeShapes Go.WideShapes Go.ChangeAt Go.RowKit
set_option linter.unusedVariables false

theorem cell_of_heap {w w' : World} {b : Nat} (h : w'.heap[b]? = w.heap[b]?) (o : Nat) : w'.cell? ⟨b, o, none⟩ = w.cell? ⟨b, o, none⟩ := by simp [World.cell?, h]
theorem frozen_of_cells {w : World} {b : Nat} {t : TypeId} (h : ∃ c, w.heap[b]? = some (.cells c t (0, 0))) (o : Nat) : w.frozen? ⟨b, o, none⟩ = false := by
  obtain ⟨c, h⟩ := h
  simp [World.frozen?, h]
/-- The first n of f. -/
def listN (n : Nat) (f : Nat → Int) : List Int := (List.range n).map f
theorem listN_len (n : Nat) (f : Nat → Int) : (listN n f).length = n := by simp [listN]
theorem listN_at (n : Nat) (f : Nat → Int) {i : Nat} (h : i < n) : (listN n f).getD i 0 = f i := by simp [listN, List.getD, h]
theorem listN_set (n : Nat) (f : Nat → Int) (d : Nat) (x : Int) : (listN n f).set d x = listN n (updN f d x) := by
  apply List.ext_getElem?
  intro i
  by_cases hi : i < n
  · by_cases e : d = i
    · subst e
      simp [listN, updN, hi]
    · have e2 : ¬ i = d := fun h => e h.symm
      simp [listN, updN, hi, e, e2]
  · rw [List.getElem?_eq_none (by simp [listN]; omega), List.getElem?_eq_none (by simp [listN]; omega)]

theorem OwnInts.heapOf {w : World} {lo g n cap : Nat} {l : List Int} (h : OwnInts w lo (.slice (some ⟨g, 0, none⟩) n cap) l) : ∃ c, w.heap[g]? = some (.cells c 3 (0, 0)) := by
  rcases h.2 with ⟨h0, _⟩ | ⟨g', cap', cur, h0, _, hg, _⟩
  · cases h0
  · cases h0
    exact ⟨cur, hg⟩
theorem OwnInts.len {w : World} {lo g n cap : Nat} {l : List Int} (h : OwnInts w lo (.slice (some ⟨g, 0, none⟩) n cap) l) : n = l.length := by
  rcases h.2 with ⟨h0, _⟩ | ⟨g', cap', cur, h0, _, hg, _⟩
  · cases h0
  · cases h0
    rfl
theorem OwnInts.setAt {w : World} {lo g n cap : Nat} {l : List Int} (h : OwnInts w lo (.slice (some ⟨g, 0, none⟩) n cap) l) {d : Nat} (hd : d < n) (x : Int) : OwnInts (w.setCell ⟨g, d, none⟩ (.int .i64 x)) lo (.slice (some ⟨g, 0, none⟩) n cap) (l.set d x) := by
  have hn := h.len
  rcases h with ⟨h00, h⟩
  rcases h with ⟨h0, _⟩ | ⟨g', cap', cur, h0, hlo, hg, h1, h2, h3, h4⟩
  · cases h0
  · cases h0
    refine ⟨by simp, .inr ⟨g, cap, cur.setIfInBounds d (.int .i64 x), by simp, hlo, heap_setCell_same _ _ _ _ _ _ hg, by simpa using h1, by simpa using h2, by simpa using h3, ?_⟩⟩
    have e : (cur.setIfInBounds d (Value.int .i64 x)).toList = cur.toList.set d (.int .i64 x) := by simp
    rw [e, List.length_set, List.take_set, h4, List.map_set]
theorem OwnInts.apartSet {w : World} {lo : Nat} {v : Value} {l : List Int} (h : OwnInts w lo v l) {g d : Nat} (hg : v.ownBlock ≠ some g) (x : Value) : OwnInts (w.setCell ⟨g, d, none⟩ x) lo v l := by
  obtain ⟨h0, h1⟩ := h
  refine ⟨h0, ?_⟩
  rcases h1 with h1 | ⟨g', cap, cur, rfl, hlo, hh, h2⟩
  · exact .inl h1
  · refine .inr ⟨g', cap, cur, rfl, hlo, ?_, h2⟩
    rw [heap_setCell_other _ _ _ _ (fun e => hg (by simp [Value.ownBlock]; exact e))]
    exact hh
theorem OwnInts.cellAt {w : World} {lo g n cap : Nat} {l : List Int} (h : OwnInts w lo (.slice (some ⟨g, 0, none⟩) n cap) l) {i : Nat} (hi : i < n) : w.cell? ⟨g, i, none⟩ = some (.int .i64 (l.getD i 0)) := by
  have hn := h.len
  obtain ⟨a, c, e, hc⟩ := h.row
  obtain ⟨g', e2, _, _, h1, _⟩ := hc (by omega)
  subst e2
  simp at e
  obtain ⟨rfl, _, _⟩ := e
  exact h1 i (by omega)

theorem make_ints (n : Nat) (hn : n ≤ 1048576) (w : World) : (Instr.makeSlice 33 (.int .i64 (n : Int)) (.int .i64 (n : Int))).run Tryz.prog w = .ok (.slice (some ⟨w.heap.size, 0, none⟩) n n) (w.alloc (.cells (madeCells #[.int .i64 0] n) 3)) :=
  run_make_row' 33 3 (.int .i64 0) 8 Tryz.underlying33 (by kernel_rfl) rfl .i64 .i64 n (by omega) (by omega) w
theorem own_made {w : World} {lo : Nat} (n : Nat) (hn : n ≤ 1048576) (hlo : lo ≤ w.heap.size) : OwnInts (w.alloc (.cells (madeCells #[.int .i64 0] n) 3)) lo (.slice (some ⟨w.heap.size, 0, none⟩) n n) (listN n (fun _ => 0)) := by
  have hm : n ≤ maxLen := by have : 1048576 ≤ maxLen := by decide
                             omega
  refine ⟨by simp [listN_len], .inr ⟨w.heap.size, n, madeCells #[.int .i64 0] n, by rw [listN_len], hlo, World.alloc_heap_new w _, by rw [listN_len]; exact Nat.le_refl _, hm, by simp [size_madeCells], ?_⟩⟩
  rw [toList_madeCells_one, listN_len]
  simp [listN]
  exact (List.eq_replicate_iff.2 ⟨by simp, by simp⟩).symm
end Go.Proofs.YtkejplddeelahaaGreatDoor
