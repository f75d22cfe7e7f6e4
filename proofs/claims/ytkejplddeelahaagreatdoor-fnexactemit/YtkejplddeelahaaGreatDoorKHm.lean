/- Homes: all of a list are homes; how many slots they take: both sides. -/
import Derived.Test.YtkejplddeelahaaGreatDoorKIns
namespace Go.Proofs.YtkejplddeelahaaGreatDoor
open Go.ChangeShapes Go.WideShapes Go.ChangeAt Go.RowKit
set_option linter.unusedVariables false

/-- Is it a home? -/
def homeB (h : Int) : Bool := decide (0 ≤ h) && decide (h ≤ 39)
theorem homeB_iff {h : Int} : homeB h = true ↔ 0 ≤ h ∧ h ≤ 39 := by simp [homeB]
def HomesIn (l : List Int) : Prop := ∀ h ∈ l, 0 ≤ h ∧ h ≤ 39
theorem homesIn_nil : HomesIn [] := fun h hh => absurd hh (by simp)
theorem homesIn_next {l : List Int} {k : Nat} {x : Int} (hx : l[k]? = some x) (h : HomesIn (l.take k)) (hh : 0 ≤ x ∧ x ≤ 39) : HomesIn (l.take (k + 1)) := fun z hz => by
  rw [List.take_add_one, hx] at hz
  simp at hz
  rcases hz with hz | rfl
  · exact h z hz
  · exact hh
theorem homesIn_not {l : List Int} {k : Nat} {x : Int} (hx : l[k]? = some x) (hh : ¬ (0 ≤ x ∧ x ≤ 39)) : ¬ HomesIn l := fun h => hh (h x (List.mem_of_getElem? hx))
def topSlot (l : List Int) : Int := l.foldl (fun m h => max m (h - 4 + 1)) 0
theorem topSlot_next {l : List Int} {k : Nat} {x : Int} (hx : l[k]? = some x) : topSlot (l.take (k + 1)) = max (topSlot (l.take k)) (x - 4 + 1) := by
  rw [List.take_add_one, hx]
  simp [topSlot, List.foldl_append]
theorem topSlot_in (l : List Int) (k : Nat) (h : HomesIn (l.take k)) : 0 ≤ topSlot (l.take k) ∧ topSlot (l.take k) ≤ 36 := by
  induction k with
  | zero => simp [topSlot]
  | succ k ih =>
    cases hx : l[k]? with
    | none =>
      have e : l.take (k + 1) = l.take k := by rw [List.take_add_one, hx]; simp
      rw [e] at h ⊢
      exact ih h
    | some x =>
      rw [topSlot_next hx]
      have h1 := h x (by rw [List.take_add_one, hx]; simp)
      have h2 := ih (fun z hz => h z (by rw [List.take_add_one, hx]; simp [hz]))
      omega
open Classical in
noncomputable def slotsOf (l : List Int) : Int := if HomesIn l then topSlot l else 0
theorem slotsOf_yes {l : List Int} (h : HomesIn l) : slotsOf l = topSlot l := by unfold slotsOf; rw [if_pos h]
theorem slotsOf_no {l : List Int} (h : ¬ HomesIn l) : slotsOf l = 0 := by unfold slotsOf; rw [if_neg h]
theorem intsAt_cell {w : World} {a : Option Addr} {n cap : Nat} {l : List Int} {k : Nat} {x : Int} (h : IntsAt w (.slice a n cap) l) (hx : l[k]? = some x) : ∃ b off, a = some ⟨b, off, none⟩ ∧ w.cell? ⟨b, off + k, none⟩ = some (.int .i64 x) := by
  have hk := (List.getElem?_eq_some_iff.1 hx).1
  obtain ⟨a', cap', e, _, hc⟩ := h
  obtain ⟨sb, soff, rfl, hc2⟩ := hc (by omega)
  simp at e
  refine ⟨sb, soff, e.1, ?_⟩
  rw [hc2 k hk, List.getD_eq_getElem?_getD, hx]
  rfl
theorem intsAt_len {w : World} {a : Option Addr} {n cap : Nat} {l : List Int} (h : IntsAt w (.slice a n cap) l) : l.length = n := by
  obtain ⟨a', cap', e, _, _⟩ := h
  simp at e
  exact e.2.1.symm
theorem intsAt_max {w : World} {a : Option Addr} {n cap : Nat} {l : List Int} (h : IntsAt w (.slice a n cap) l) : n ≤ 9223372036854775807 := by
  obtain ⟨a', cap', e, h2, _⟩ := h
  simp at e
  omega
theorem intsAt_form {w : World} {v : Value} {l : List Int} (h : IntsAt w v l) : ∃ a cap, v = .slice a l.length cap := by
  obtain ⟨a, cap, e, _⟩ := h
  exact ⟨a, cap, e⟩

set_option maxHeartbeats 1000000 in
theorem homeOk_any (h : Int) (w : World) : Calls Tryz.prog 138 #[.int .i64 h] w fun e w' => e = .returned (.bool (homeB h)) ∧ w' = w := by
  unfold homeB
  by_cases h1 : 0 ≤ h
  · by_cases h2 : h ≤ 39
    · rw [show (decide (0 ≤ h) && decide (h ≤ 39)) = true by simp [h1, h2]]
      have h3 : h < 40 := by omega
      go_enter Tryz.func138, Tryz.ntmps138
      go_wp2
      go_ret
      exact ⟨rfl, rfl⟩
    · rw [show (decide (0 ≤ h) && decide (h ≤ 39)) = false by simp [h2]]
      have h3 : ¬ h < 40 := by omega
      go_enter Tryz.func138, Tryz.ntmps138
      go_wp2
      go_ret
      exact ⟨rfl, rfl⟩
  · rw [show (decide (0 ≤ h) && decide (h ≤ 39)) = false by simp [h1]]
    go_enter Tryz.func138, Tryz.ntmps138
    go_wp2
    go_ret
    exact ⟨rfl, rfl⟩

def GivesB (w : World) (p : Prop) (e : Ending) (w' : World) : Prop := ∃ r, e = .returned (.bool r) ∧ (r = true ↔ p) ∧ w' = w

set_option maxHeartbeats 2000000 in
theorem allHomes_any (a : Option Addr) (n cap : Nat) (l : List Int) (w : World) (h : IntsAt w (.slice a n cap) l) :
    Calls Tryz.prog 139 #[.slice a n cap] w fun e w' => GivesB w (HomesIn l) e w' := by
  have HL : Hid (IntsAt w (.slice a n cap) l) := h
  have hln := intsAt_len h
  have hmx := intsAt_max h
  have HLN : Hid (l.length = n) := hln
  clear h hln
  go_enter Tryz.func139, Tryz.ntmps139
  go_wp2_with fail
  go_loopw [7] (fun i wr => ∃ k : Nat, k ≤ n ∧ i = .int .i64 k ∧ wr = w ∧ HomesIn (l.take k)) (fun i _ => n - (intOf i).toNat)
  case atStart => exact ⟨0, Nat.zero_le _, rfl, rfl, by rw [List.take_zero]; exact homesIn_nil⟩
  case round =>
    obtain ⟨k, hk, rfl, rfl, hin⟩ := hrel
    have HI : Hid (HomesIn (l.take k)) := hin
    clear hin
    by_cases hlt : (k : Int) < (n : Int)
    · obtain ⟨x, HX⟩ : ∃ x, Hid (l[k]? = some x) := ⟨l[k]'(by have := HLN.out; omega), List.getElem?_eq_getElem _⟩
      obtain ⟨sb, soff, rfl, hz⟩ := intsAt_cell HL.out HX.out
      go_wp2_with fail
      refine (homeOk_any x _).mono ?_
      rintro e w1 ⟨rfl, hw1⟩
      subst hw1
      obtain ⟨t, HT⟩ : ∃ t, Hid (homeB x = t) := ⟨_, rfl⟩
      rw [HT.out]
      cases t
      · go_wp2_with fail
        go_ret
        exact ⟨false, rfl, ⟨fun h => (by cases h), fun h => absurd h (homesIn_not HX.out (fun h2 => by have := homeB_iff.2 h2; rw [HT.out] at this; cases this))⟩, rfl⟩
      · go_wp2_with fail
        go_roundw
        case rel => exact ⟨k + 1, by omega, by simp, (by first | rfl | trivial), homesIn_next HX.out HI.out (homeB_iff.1 HT.out)⟩
        case measure => simp [intOf]; omega
    · have ekn : n = k := by omega
      subst ekn
      go_wp2_with fail
      go_ret
      refine ⟨true, rfl, ⟨fun _ => ?_, fun _ => rfl⟩, rfl⟩
      have h9 := HI.out
      rw [List.take_of_length_le (by have := HLN.out; omega)] at h9
      exact h9
end Go.Proofs.YtkejplddeelahaaGreatDoor
