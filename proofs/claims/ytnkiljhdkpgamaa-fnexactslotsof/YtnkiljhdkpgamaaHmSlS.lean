/- How many slots homes take: both sides. -/
import Derived.Test.YtnkiljhdkpgamaaHmAll
import Derived.Test.YtnkiljhdkpgamaaHmIn
namespace Go.Proofs.Ytnkiljhdkpgamaa
open Go.ChangeShapes Go.WideShapes Go.ChangeAt Go.RowKit
set_option linter.unusedVariables false

set_option maxHeartbeats 1000000 in
theorem hmMax_any (x y : Int) (w : World) : Calls Try.prog 9 #[.int .i64 x, .int .i64 y] w fun e w' => e = .returned (.int .i64 (max x y)) ∧ w' = w := by
  by_cases h : x > y
  · rw [show max x y = x by omega]
    go_enter Try.func9, Try.ntmps9
    go_wp2
    go_ret
    exact ⟨rfl, rfl⟩
  · rw [show max x y = y by omega]
    go_enter Try.func9, Try.ntmps9
    go_wp2
    go_ret
    exact ⟨rfl, rfl⟩

def GivesI (w : World) (x : Int) (e : Ending) (w' : World) : Prop := e = .returned (.int .i64 x) ∧ w' = w

set_option maxHeartbeats 2000000 in
theorem impl_slotsOf (a : Option Addr) (n cap : Nat) (l : List Int) (w : World) (h : IntsAt w (.slice a n cap) l) :
    Calls Try.prog 6 #[.slice a n cap] w fun e w' => GivesI w (slotsOf l) e w' := by
  have HL : Hid (IntsAt w (.slice a n cap) l) := h
  have hln := intsAt_len h
  have hmx := intsAt_max h
  have HLN : Hid (l.length = n) := hln
  clear h hln
  go_enter Try.func6, Try.ntmps6
  go_wp2_with fail
  refine (allHomes_any a n cap l _ HL.out).mono ?_
  rintro e w1 ⟨r, rfl, hr, hw1⟩
  subst hw1
  have HR : Hid (r = true ↔ HomesIn l) := hr
  clear hr
  cases r
  · go_wp2_with fail
    go_ret
    refine ⟨?_, rfl⟩
    rw [slotsOf_no (fun h => by have := HR.out.2 h; cases this)]
    rfl
  · have HI : Hid (HomesIn l) := HR.out.1 rfl
    go_wp2_with fail
    go_loopw [3, 12] (fun m i wr => ∃ k : Nat, k ≤ n ∧ i = .int .i64 k ∧ m = .int .i64 (topSlot (l.take k)) ∧ wr = w1) (fun _ i _ => n - (intOf i).toNat)
    case atStart => exact ⟨0, Nat.zero_le _, rfl, by simp [topSlot], rfl⟩
    case round =>
      obtain ⟨k, hk, rfl, rfl, rfl⟩ := hrel
      obtain ⟨m, HM⟩ : ∃ m, Hid (topSlot (l.take k) = m) := ⟨_, rfl⟩
      have hm2 := topSlot_in l k (fun z hz => HI.out z (List.mem_of_mem_take hz))
      rw [HM.out] at hm2 ⊢
      by_cases hlt : (k : Int) < (n : Int)
      · obtain ⟨x, HX⟩ : ∃ x, Hid (l[k]? = some x) := ⟨l[k]'(by have := HLN.out; omega), List.getElem?_eq_getElem _⟩
        obtain ⟨sb, soff, rfl, hz⟩ := intsAt_cell HL.out HX.out
        have hx := HI.out x (List.mem_of_getElem? HX.out)
        go_wp2_with fail
        go_roundw
        case rel =>
          refine ⟨k + 1, by omega, by simp, ?_, (by first | rfl | trivial)⟩
          rw [topSlot_next HX.out, HM.out]
          simp
          try omega
        case measure => simp [intOf]; omega
      · have ekn : n = k := by omega
        subst ekn
        go_wp2_with fail
        go_ret
        refine ⟨?_, rfl⟩
        rw [slotsOf_yes HI.out, ← HM.out, List.take_of_length_le (by have := HLN.out; omega)]
        rfl

set_option maxHeartbeats 2000000 in
theorem spec_slotsOf (a : Option Addr) (n cap : Nat) (l : List Int) (w : World) (h : IntsAt w (.slice a n cap) l) :
    Calls Try.prog 4 #[.slice a n cap] w fun e w' => GivesI w (slotsOf l) e w' := by
  have HL : Hid (IntsAt w (.slice a n cap) l) := h
  have hln := intsAt_len h
  have hmx := intsAt_max h
  have HLN : Hid (l.length = n) := hln
  clear h hln
  go_enter Try.func4, Try.ntmps4
  go_wp2_with fail
  go_loopw [3, 4] (fun m i wr => ∃ k : Nat, k ≤ n ∧ i = .int .i64 k ∧ m = .int .i64 (topSlot (l.take k)) ∧ wr = w ∧ HomesIn (l.take k)) (fun _ i _ => n - (intOf i).toNat)
  case atStart => exact ⟨0, Nat.zero_le _, rfl, by simp [topSlot], rfl, by rw [List.take_zero]; exact homesIn_nil⟩
  case round =>
    obtain ⟨k, hk, rfl, rfl, rfl, hin⟩ := hrel
    have HI : Hid (HomesIn (l.take k)) := hin
    obtain ⟨m, HM⟩ : ∃ m, Hid (topSlot (l.take k) = m) := ⟨_, rfl⟩
    have hm2 := topSlot_in l k hin
    rw [HM.out] at hm2 ⊢
    clear hin
    by_cases hlt : (k : Int) < (n : Int)
    · obtain ⟨x, HX⟩ : ∃ x, Hid (l[k]? = some x) := ⟨l[k]'(by have := HLN.out; omega), List.getElem?_eq_getElem _⟩
      obtain ⟨sb, soff, rfl, hz⟩ := intsAt_cell HL.out HX.out
      go_wp2_with fail
      refine (l1In_any x 0 39 _).mono ?_
      rintro e w1 ⟨rfl, hw1⟩
      subst hw1
      obtain ⟨t, HT⟩ : ∃ t, Hid ((decide (0 ≤ x) && decide (x ≤ 39)) = t) := ⟨_, rfl⟩
      rw [HT.out]
      cases t
      · go_wp2_with fail
        go_ret
        refine ⟨?_, rfl⟩
        rw [slotsOf_no (homesIn_not HX.out (fun h2 => by have := homeB_iff.2 h2; unfold homeB at this; rw [HT.out] at this; cases this))]
        rfl
      · have hx : 0 ≤ x ∧ x ≤ 39 := by have := HT.out; simpa using this
        go_wp2_with fail
        refine (hmMax_any m (x - 4 + 1) _).mono ?_
        rintro e w2 ⟨rfl, hw2⟩
        subst hw2
        obtain ⟨q, HQ⟩ : ∃ q, Hid (max m (x - 4 + 1) = q) := ⟨_, rfl⟩
        rw [HQ.out]
        go_wp2_with fail
        go_roundw
        case rel =>
          refine ⟨k + 1, by omega, by simp, ?_, (by first | rfl | trivial), homesIn_next HX.out HI.out hx⟩
          rw [topSlot_next HX.out, HM.out, HQ.out]
        case measure => simp [intOf]; omega
    · have ekn : n = k := by omega
      subst ekn
      go_wp2_with fail
      go_ret
      have e9 : l.take n = l := List.take_of_length_le (by have := HLN.out; omega)
      have h9 := HI.out
      rw [e9] at h9
      refine ⟨?_, rfl⟩
      rw [slotsOf_yes h9, ← HM.out, e9]
      rfl
end Go.Proofs.Ytnkiljhdkpgamaa
