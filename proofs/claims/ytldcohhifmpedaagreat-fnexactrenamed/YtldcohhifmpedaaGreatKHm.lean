/- Homes: all of a list are homes; how many slots they take: both sides. The guess, as mathematics: who comes next, the least home that is free. -/
import Derived.Test.YtldcohhifmpedaaGreatKIns
import Derived.Test.YtldcohhifmpedaaGreatRows
namespace Go.Proofs.YtldcohhifmpedaaGreat
open Go.ChangeShapes Go.WideShapes Go.ChangeAt Go.RowKit
set_option linter.unusedVariables false

/-- Is it a home? -/
def homeB (h : Int) : Bool := decide (0 ≤ h) && decide (h ≤ 39)
theorem homeB_iff {h : Int} : homeB h = true ↔ 0 ≤ h ∧ h ≤ 39 := by simp [homeB]
def HomesIn (l : List Int) : Prop := ∀ h ∈ l, 0 ≤ h ∧ h ≤ 39
theorem homesIn_nil : HomesIn [] := fun h hh => absurd hh (by simp)
theorem homesIn_next {l : List Int} {k : Nat} {x : Int} (hx : l[k]? = some x) (h : HomesIn (l.take k)) (hh : 0 ≤ x ∧ x ≤ 39) : HomesIn (l.take (k + 1)) := fun z hz => by
  rw [List.take_add_one, hx] at hz
  simp at hz
  rcases hz with hz | rfl
  · exact h z hz
  · exact hh
theorem homesIn_not {l : List Int} {k : Nat} {x : Int} (hx : l[k]? = some x) (hh : ¬ (0 ≤ x ∧ x ≤ 39)) : ¬ HomesIn l := fun h => hh (h x (List.mem_of_getElem? hx))
def topSlot (l : List Int) : Int := l.foldl (fun m h => max m (h - 4 + 1)) 0
theorem topSlot_next {l : List Int} {k : Nat} {x : Int} (hx : l[k]? = some x) : topSlot (l.take (k + 1)) = max (topSlot (l.take k)) (x - 4 + 1) := by
  rw [List.take_add_one, hx]
  simp [topSlot, List.foldl_append]
theorem topSlot_in (l : List Int) (k : Nat) (h : HomesIn (l.take k)) : 0 ≤ topSlot (l.take k) ∧ topSlot (l.take k) ≤ 36 := by
  induction k with
  | zero => simp [topSlot]
  | succ k ih =>
    cases hx : l[k]? with
    | none =>
      have e : l.take (k + 1) = l.take k := by rw [List.take_add_one, hx]; simp
      rw [e] at h ⊢
      exact ih h
    | some x =>
      rw [topSlot_next hx]
      have h1 := h x (by rw [List.take_add_one, hx]; simp)
      have h2 := ih (fun z hz => h z (by rw [List.take_add_one, hx]; simp [hz]))
      omega
open Classical in
noncomputable def slotsOf (l : List Int) : Int := if HomesIn l then topSlot l else 0
theorem slotsOf_yes {l : List Int} (h : HomesIn l) : slotsOf l = topSlot l := by unfold slotsOf; rw [if_pos h]
theorem slotsOf_no {l : List Int} (h : ¬ HomesIn l) : slotsOf l = 0 := by unfold slotsOf; rw [if_neg h]
theorem intsAt_cell {w : World} {a : Option Addr} {n cap : Nat} {l : List Int} {k : Nat} {x : Int} (h : IntsAt w (.slice a n cap) l) (hx : l[k]? = some x) : ∃ b off, a = some ⟨b, off, none⟩ ∧ w.cell? ⟨b, off + k, none⟩ = some (.int .i64 x) := by
  have hk := (List.getElem?_eq_some_iff.1 hx).1
  obtain ⟨a', cap', e, _, hc⟩ := h
  obtain ⟨sb, soff, rfl, hc2⟩ := hc (by omega)
  simp at e
  refine ⟨sb, soff, e.1, ?_⟩
  rw [hc2 k hk, List.getD_eq_getElem?_getD, hx]
  rfl
theorem intsAt_len {w : World} {a : Option Addr} {n cap : Nat} {l : List Int} (h : IntsAt w (.slice a n cap) l) : l.length = n := by
  obtain ⟨a', cap', e, _, _⟩ := h
  simp at e
  exact e.2.1.symm
theorem intsAt_max {w : World} {a : Option Addr} {n cap : Nat} {l : List Int} (h : IntsAt w (.slice a n cap) l) : n ≤ 9223372036854775807 := by
  obtain ⟨a', cap', e, h2, _⟩ := h
  simp at e
  omega
theorem intsAt_form {w : World} {v : Value} {l : List Int} (h : IntsAt w v l) : ∃ a cap, v = .slice a l.length cap := by
  obtain ⟨a, cap, e, _⟩ := h
  exact ⟨a, cap, e⟩

set_option maxHeartbeats 1000000 in
theorem homeOk_any (h : Int) (w : World) : Calls Tryz.prog 116 #[.int .i64 h] w fun e w' => e = .returned (.bool (homeB h)) ∧ w' = w := by
  unfold homeB
  by_cases h1 : 0 ≤ h
  · by_cases h2 : h ≤ 39
    · rw [show (decide (0 ≤ h) && decide (h ≤ 39)) = true by simp [h1, h2]]
      have h3 : h < 40 := by omega
      go_enter Tryz.func116, Tryz.ntmps116
      go_wp2
      go_ret
      exact ⟨rfl, rfl⟩
    · rw [show (decide (0 ≤ h) && decide (h ≤ 39)) = false by simp [h2]]
      have h3 : ¬ h < 40 := by omega
      go_enter Tryz.func116, Tryz.ntmps116
      go_wp2
      go_ret
      exact ⟨rfl, rfl⟩
  · rw [show (decide (0 ≤ h) && decide (h ≤ 39)) = false by simp [h1]]
    go_enter Tryz.func116, Tryz.ntmps116
    go_wp2
    go_ret
    exact ⟨rfl, rfl⟩

def GivesB (w : World) (p : Prop) (e : Ending) (w' : World) : Prop := ∃ r, e = .returned (.bool r) ∧ (r = true ↔ p) ∧ w' = w

set_option maxHeartbeats 2000000 in
theorem allHomes_any (a : Option Addr) (n cap : Nat) (l : List Int) (w : World) (h : IntsAt w (.slice a n cap) l) :
    Calls Tryz.prog 69 #[.slice a n cap] w fun e w' => GivesB w (HomesIn l) e w' := by
  have HL : Hid (IntsAt w (.slice a n cap) l) := h
  have hln := intsAt_len h
  have hmx := intsAt_max h
  have HLN : Hid (l.length = n) := hln
  clear h hln
  go_enter Tryz.func69, Tryz.ntmps69
  go_wp2_with fail
  go_loopw [7] (fun i wr => ∃ k : Nat, k ≤ n ∧ i = .int .i64 k ∧ wr = w ∧ HomesIn (l.take k)) (fun i _ => n - (intOf i).toNat)
  case atStart => exact ⟨0, Nat.zero_le _, rfl, rfl, by rw [List.take_zero]; exact homesIn_nil⟩
  case round =>
    obtain ⟨k, hk, rfl, rfl, hin⟩ := hrel
    have HI : Hid (HomesIn (l.take k)) := hin
    clear hin
    by_cases hlt : (k : Int) < (n : Int)
    · obtain ⟨x, HX⟩ : ∃ x, Hid (l[k]? = some x) := ⟨l[k]'(by have := HLN.out; omega), List.getElem?_eq_getElem _⟩
      obtain ⟨sb, soff, rfl, hz⟩ := intsAt_cell HL.out HX.out
      go_wp2_with fail
      refine (homeOk_any x _).mono ?_
      rintro e w1 ⟨rfl, hw1⟩
      subst hw1
      obtain ⟨t, HT⟩ : ∃ t, Hid (homeB x = t) := ⟨_, rfl⟩
      rw [HT.out]
      cases t
      · go_wp2_with fail
        go_ret
        exact ⟨false, rfl, ⟨fun h => (by cases h), fun h => absurd h (homesIn_not HX.out (fun h2 => by have := homeB_iff.2 h2; rw [HT.out] at this; cases this))⟩, rfl⟩
      · go_wp2_with fail
        go_roundw
        case rel => exact ⟨k + 1, by omega, by simp, (by first | rfl | trivial), homesIn_next HX.out HI.out (homeB_iff.1 HT.out)⟩
        case measure => simp [intOf]; omega
    · have ekn : n = k := by omega
      subst ekn
      go_wp2_with fail
      go_ret
      refine ⟨true, rfl, ⟨fun _ => ?_, fun _ => rfl⟩, rfl⟩
      have h9 := HI.out
      rw [List.take_of_length_le (by have := HLN.out; omega)] at h9
      exact h9
end Go.Proofs.YtldcohhifmpedaaGreat

namespace Go.Proofs.YtldcohhifmpedaaGreat
set_option linter.unusedVariables false

theorem nodup_inj {l : List Nat} (h : l.Nodup) {i j : Nat} {hi : i < l.length} {hj : j < l.length} (e : l[i] = l[j]) : i = j := by
  rcases Nat.lt_trichotomy i j with h1 | h1 | h1
  · exact absurd e (List.pairwise_iff_getElem.1 h i j hi hj h1)
  · exact h1
  · exact absurd e.symm (List.pairwise_iff_getElem.1 h j i hj hi h1)
/-- Who is ahead: more clash with it; of alike ones the lesser. -/
def Ahead (deg : Nat → Nat) (x y : Nat) : Prop := deg y < deg x ∨ (deg x = deg y ∧ x < y)
theorem Ahead.asymm {deg : Nat → Nat} {x y : Nat} (h : Ahead deg x y) : ¬ Ahead deg y x := by
  unfold Ahead at *
  omega
theorem ahead_total {deg : Nat → Nat} {x y : Nat} (h : x ≠ y) : Ahead deg x y ∨ Ahead deg y x := by
  unfold Ahead
  omega
/-- The order in which values come. -/
structure OrderOf (V : Nat) (deg : Nat → Nat) (o : List Nat) : Prop where
  perm : o.Perm (List.range V)
  up : o.Pairwise (Ahead deg)
theorem OrderOf.len {V : Nat} {deg : Nat → Nat} {o : List Nat} (h : OrderOf V deg o) : o.length = V := by
  rw [h.perm.length_eq]; simp
theorem OrderOf.mem {V : Nat} {deg : Nat → Nat} {o : List Nat} (h : OrderOf V deg o) (x : Nat) : x ∈ o ↔ x < V := by
  rw [h.perm.mem_iff]; simp
theorem OrderOf.nodup {V : Nat} {deg : Nat → Nat} {o : List Nat} (h : OrderOf V deg o) : o.Nodup := by
  rw [h.perm.nodup_iff]; exact List.nodup_range
/-- Whoever is not among the first k and is ahead of all others that are not is the next one. -/
theorem OrderOf.next {V : Nat} {deg : Nat → Nat} {o : List Nat} (h : OrderOf V deg o) {k v : Nat} (hk : k < V) (hv : v < V) (h1 : v ∉ o.take k) (h2 : ∀ u, u < V → u ∉ o.take k → u ≠ v → Ahead deg v u) : o[k]? = some v := by
  have hl := h.len
  have hko : k < o.length := by omega
  rw [List.getElem?_eq_getElem hko]
  by_cases e : o[k] = v
  · rw [e]
  · exfalso
    have hm : o[k] ∈ o := List.getElem_mem hko
    have hnd := h.nodup
    have hn : o[k] ∉ o.take k := by
      intro hin
      obtain ⟨i, hi, hie⟩ := List.getElem_of_mem hin
      rw [List.length_take] at hi
      rw [List.getElem_take] at hie
      have := (nodup_inj hnd hie)
      omega
    have ha := h2 o[k] ((h.mem _).1 hm) hn e
    have hvo : v ∈ o := (h.mem v).2 hv
    obtain ⟨j, hj, hje⟩ := List.getElem_of_mem hvo
    have hjk : k < j := by
      rcases Nat.lt_or_ge k j with h9 | h9
      · exact h9
      · exfalso
        rcases Nat.lt_or_ge j k with h8 | h8
        · exact h1 (by rw [← hje]; exact List.mem_take_iff_getElem.2 ⟨j, by omega, rfl⟩)
        · have : j = k := by omega
          subst this
          exact e hje
    have hb := List.pairwise_iff_getElem.1 h.up k j hko hj hjk
    rw [hje] at hb
    exact ha.asymm hb

/-- Nobody that clashes with v has home h. -/
def FreeH (S : Int → Int → Prop) (V : Nat) (hm : Nat → Int) (v : Nat) (h : Nat) : Prop := ∀ u, u < V → S v u → hm u ≠ (h : Int)
open Classical in
noncomputable def leastH (S : Int → Int → Prop) (V : Nat) (hm : Nat → Int) (v : Nat) : Nat := ((List.range (V + 1)).find? (fun h => decide (FreeH S V hm v h))).getD 0
theorem leastH_eq {S : Int → Int → Prop} {V : Nat} {hm : Nat → Int} {v h : Nat} (hV : h ≤ V) (h1 : FreeH S V hm v h) (h2 : ∀ j, j < h → ¬ FreeH S V hm v j) : leastH S V hm v = h := by
  unfold leastH
  have : (List.range (V + 1)).find? (fun h => open Classical in decide (FreeH S V hm v h)) = some h := by
    rw [List.find?_range_eq_some]
    exact ⟨by simpa using h1, by simp; omega, fun j hj => by simpa using h2 j hj⟩
  rw [this]
  rfl
/-- The homes, so far: -1 is none. -/
noncomputable def homeStep (S : Int → Int → Prop) (V : Nat) (hm : Nat → Int) (v : Nat) : Nat → Int := fun i => if i = v then (leastH S V hm v : Int) else hm i
noncomputable def homesAt (S : Int → Int → Prop) (V : Nat) (o : List Nat) (k : Nat) : Nat → Int := (o.take k).foldl (homeStep S V) (fun _ => -1)
theorem homesAt_zero (S : Int → Int → Prop) (V : Nat) (o : List Nat) : homesAt S V o 0 = fun _ => -1 := by simp [homesAt]
theorem homesAt_next {S : Int → Int → Prop} {V : Nat} {o : List Nat} {k v : Nat} (h : o[k]? = some v) : homesAt S V o (k + 1) = homeStep S V (homesAt S V o k) v := by
  unfold homesAt
  rw [List.take_add_one, h]
  simp [List.foldl_append]
/-- What is known of the homes behind k steps. -/
structure HomesSo (S : Int → Int → Prop) (V : Nat) (o : List Nat) (k : Nat) (hm : Nat → Int) : Prop where
  none : ∀ u, u ∉ o.take k → hm u = -1
  some : ∀ u, u ∈ o.take k → 0 ≤ hm u ∧ hm u < k
  apart : ∀ a b : Nat, S a b → a ∈ o.take k → b ∈ o.take k → hm a ≠ hm b
theorem take_mem_next {o : List Nat} {k v u : Nat} (h : o[k]? = some v) : u ∈ o.take (k + 1) ↔ u ∈ o.take k ∨ u = v := by
  rw [List.take_add_one, h]
  simp
theorem take_not {V : Nat} {deg : Nat → Nat} {o : List Nat} (ho : OrderOf V deg o) {k v : Nat} (h : o[k]? = some v) : v ∉ o.take k := by
  intro hin
  obtain ⟨hk, e⟩ := List.getElem?_eq_some_iff.1 h
  obtain ⟨i, hi, hie⟩ := List.getElem_of_mem hin
  rw [List.length_take] at hi
  rw [List.getElem_take, ← e] at hie
  have := (nodup_inj ho.nodup hie)
  omega
/-- Some home up to k is free, if all homes are below k. -/
theorem free_least {S : Int → Int → Prop} {V k : Nat} {hm : Nat → Int} {v : Nat} (hk : k ≤ V) (h : FreeH S V hm v k) : FreeH S V hm v (leastH S V hm v) ∧ leastH S V hm v ≤ k ∧ ∀ j, j < leastH S V hm v → ¬ FreeH S V hm v j := by
  obtain ⟨m, hm1, hm2, hm3⟩ : ∃ m, m ≤ k ∧ FreeH S V hm v m ∧ ∀ j, j < m → ¬ FreeH S V hm v j := by
    clear hk
    induction k using Nat.strongRecOn with
    | ind k ih =>
      by_cases h9 : ∃ j, j < k ∧ FreeH S V hm v j
      · obtain ⟨j, hj, hf⟩ := h9
        obtain ⟨m, a, b, c⟩ := ih j hj hf
        exact ⟨m, by omega, b, c⟩
      · exact ⟨k, Nat.le_refl _, h, fun j hj hf => h9 ⟨j, hj, hf⟩⟩
  rw [leastH_eq (by omega) hm2 hm3]
  exact ⟨hm2, hm1, hm3⟩
theorem HomesSo.freeK {S : Int → Int → Prop} {V k : Nat} {o : List Nat} {hm : Nat → Int} (h : HomesSo S V o k hm) (v : Nat) : FreeH S V hm v k := fun u _ _ e => by
  by_cases hu : u ∈ o.take k
  · have := h.some u hu
    omega
  · have := h.none u hu
    omega
theorem homesAt_so {S : Int → Int → Prop} {V : Nat} {deg : Nat → Nat} {o : List Nat} (ho : OrderOf V deg o) (hS : ∀ a b : Int, S a b → S b a) (hi : ∀ a b : Int, S a b → a ≠ b) : ∀ k, k ≤ V → HomesSo S V o k (homesAt S V o k) := by
  intro k
  induction k with
  | zero =>
    intro _
    rw [homesAt_zero]
    exact ⟨fun _ _ => rfl, fun u hu => absurd hu (by simp), fun a b _ ha => absurd ha (by simp)⟩
  | succ k ih =>
    intro hk
    have h := ih (by omega)
    obtain ⟨v, hv⟩ : ∃ v, o[k]? = some v := ⟨o[k]'(by rw [ho.len]; omega), List.getElem?_eq_getElem _⟩
    have hvV : v < V := (ho.mem v).1 (List.mem_of_getElem? hv)
    have hvn := take_not ho hv
    rw [homesAt_next hv]
    obtain ⟨f1, f2, f3⟩ := free_least (by omega) (h.freeK v)
    refine ⟨fun u hu => ?_, fun u hu => ?_, fun a b hab ha hb => ?_⟩
    · rw [take_mem_next hv] at hu
      unfold homeStep
      rw [if_neg (fun e => hu (.inr e))]
      exact h.none u (fun h9 => hu (.inl h9))
    · unfold homeStep
      by_cases e : u = v
      · rw [if_pos e]
        omega
      · rw [if_neg e]
        have := h.some u (((take_mem_next hv).1 hu).resolve_right e)
        omega
    · unfold homeStep
      rw [take_mem_next hv] at ha hb
      by_cases ea : a = v
      · subst ea
        have eb : b ≠ a := fun e => hi _ _ hab (by rw [e])
        rw [if_pos rfl, if_neg eb]
        exact fun e => f1 b ((ho.mem b).1 (List.mem_of_mem_take (hb.resolve_right eb))) hab e.symm
      · rw [if_neg ea]
        by_cases eb : b = v
        · subst eb
          rw [if_pos rfl]
          exact fun e => f1 a ((ho.mem a).1 (List.mem_of_mem_take (ha.resolve_right ea))) (hS _ _ hab) e
        · rw [if_neg eb]
          exact h.apart a b hab (ha.resolve_right ea) (hb.resolve_right eb)
/-- A home stays. -/
theorem homesAt_stays {S : Int → Int → Prop} {V : Nat} {deg : Nat → Nat} {o : List Nat} (ho : OrderOf V deg o) {k v : Nat} (hv : v ∈ o.take k) : ∀ j, k ≤ j → j ≤ V → homesAt S V o j v = homesAt S V o k v := by
  intro j hj
  induction j with
  | zero => intro _; rw [show k = 0 by omega]
  | succ j ih =>
    intro hjV
    rcases Nat.lt_or_ge k (j + 1) with h | h
    · have h1 := ih (by omega) (by omega)
      obtain ⟨u, hu⟩ : ∃ u, o[j]? = some u := ⟨o[j]'(by rw [ho.len]; omega), List.getElem?_eq_getElem _⟩
      rw [homesAt_next hu, ← h1]
      unfold homeStep
      rw [if_neg]
      rintro rfl
      have h2 := take_not ho hu
      exact h2 (List.take_subset_take_left o (by omega : k ≤ j) hv)
    · rw [show k = j + 1 by omega]

/-- Who comes at place k is ahead of all that did not come before. -/
theorem OrderOf.after {V : Nat} {deg : Nat → Nat} {o : List Nat} (h : OrderOf V deg o) {k v u : Nat} (hv : o[k]? = some v) (hu : u < V) (h1 : u ∉ o.take k) (h2 : u ≠ v) : Ahead deg v u := by
  obtain ⟨hk, e⟩ := List.getElem?_eq_some_iff.1 hv
  obtain ⟨j, hj, hje⟩ := List.getElem_of_mem ((h.mem u).2 hu)
  have hjk : k < j := by
    rcases Nat.lt_trichotomy j k with h9 | h9 | h9
    · exact absurd (List.mem_take_iff_getElem.2 ⟨j, by omega, hje⟩) h1
    · subst h9
      exact absurd (hje.symm.trans e) h2
    · exact h9
  have hb := List.pairwise_iff_getElem.1 h.up k j hk hj hjk
  rw [e, hje] at hb
  exact hb
theorem OrderOf.unique {V : Nat} {deg : Nat → Nat} {o p : List Nat} (h : OrderOf V deg o) (h2 : OrderOf V deg p) : o = p := by
  have key : ∀ k, k ≤ V → o.take k = p.take k := by
    intro k
    induction k with
    | zero => intro _; simp
    | succ k ih =>
      intro hk
      have e := ih (by omega)
      have hv : p[k]? = some (p[k]'(by rw [h2.len]; omega)) := List.getElem?_eq_getElem _
      have hn := take_not h2 hv
      have := h.next (k := k) (v := p[k]'(by rw [h2.len]; omega)) (by omega) ((h2.mem _).1 (List.getElem_mem _)) (by rw [e]; exact hn) (fun u hu h9 h8 => h2.after hv hu (by rw [← e]; exact h9) h8)
      rw [List.take_add_one, List.take_add_one, e, this, hv]
  have := key V (Nat.le_refl _)
  rw [List.take_of_length_le (by rw [h.len]; omega), List.take_of_length_le (by rw [h2.len]; omega)] at this
  exact this
instance (deg : Nat → Nat) (x y : Nat) : Decidable (Ahead deg x y) := by unfold Ahead; infer_instance
def ordOf (V : Nat) (deg : Nat → Nat) : List Nat := (List.range V).mergeSort (fun x y => !decide (Ahead deg y x))
theorem ordOf_ok (V : Nat) (deg : Nat → Nat) : OrderOf V deg (ordOf V deg) := by
  have hp : (ordOf V deg).Perm (List.range V) := List.mergeSort_perm _ _
  refine ⟨hp, ?_⟩
  have h1 : (ordOf V deg).Pairwise (fun a b => (!decide (Ahead deg b a)) = true) := List.pairwise_mergeSort (fun a b c hab hbc => by
    rw [Bool.not_eq_true', decide_eq_false_iff_not] at *
    unfold Ahead at *
    omega) (fun a b => by
    by_cases h : Ahead deg b a
    · have h9 := h.asymm
      simp [h9]
    · simp [h]) _
  have h2 : (ordOf V deg).Nodup := by rw [hp.nodup_iff]; exact List.nodup_range
  refine (h1.and h2).imp (fun {a b} h => ?_)
  have h3 : ¬ Ahead deg b a := by simpa using h.1
  exact (ahead_total h.2).resolve_right h3
/-- What is guessed: the homes, if all are homes. -/
def RightAll (V : Nat) (hm : Nat → Int) : Prop := ∀ v, v < V → hm v ≤ 39
open Classical in
noncomputable def guessL (S : Int → Int → Prop) (V : Nat) (deg : Nat → Nat) : List Int := if RightAll V (homesAt S V (ordOf V deg) V) then (List.range V).map (homesAt S V (ordOf V deg) V) else []
theorem guessL_len (S : Int → Int → Prop) (V : Nat) (deg : Nat → Nat) : (guessL S V deg).length ≤ V := by
  unfold guessL
  split <;> simp
end Go.Proofs.YtldcohhifmpedaaGreat
