/- The shape of a program, part 3: the places, as the program looks at them. -/
import Derived.Test.YthdioeeanodjiaaDoorKSa
namespace Go.Proofs.YthdioeeanodjiaaDoor
open Go.ChangeShapes Go.WideShapes Go.ChangeAt Go.RowKit
set_option linter.unusedVariables false

theorem constPlace_ins (d n : Int) (w : World) :
    Calls Tryd.prog 117 #[.agg #[.int .i64 d, .int .i64 n]] w fun e w' => e = .returned (.agg #[.int .i64 20, .int .i64 d, .int .i64 0, .int .i64 0, .int .i64 n]) ∧ Below w.heap.size w w' := by
  go_enter Tryd.func117, Tryd.ntmps117
  go_wp2
  go_returns
  exact ⟨rfl, by repeat (first | exact Below.refl _ _ | apply Below.drew | refine Below.alloc ?_ (by simp <;> omega) _ | refine Below.setCell ?_ (by simp <;> omega) _)⟩

theorem placeOf_const (d a b n : Int) (w : World) : Calls Tryd.prog 88 #[.agg #[.int .i64 20, .int .i64 d, .int .i64 a, .int .i64 b, .int .i64 n]] w fun e w' => e = .returned (.iface 131 (.agg #[.int .i64 d, .int .i64 n])) ∧ Below w.heap.size w w' := by
  have hp := placeOf_any 20 d a b n w
  simp only [placeV, if_true, if_false, Int.reduceEq] at hp
  exact hp
theorem placeDef_const (d a b n : Int) (w : World) : Calls Tryd.prog 89 #[(.iface 131 (.agg #[.int .i64 d, .int .i64 n]))] w fun e w' => e = .returned (.tuple #[.int .i64 d, .bool true]) ∧ Below w.heap.size w w' := by
  have hp := placeDef_any 20 d a b n w
  simp only [placeV, if_true, if_false, Int.reduceEq] at hp
  simp only [madeV, makesV] at hp
  simpa using hp
theorem placeUses_const (d a b n : Int) (w : World) : Calls Tryd.prog 91 #[(.iface 131 (.agg #[.int .i64 d, .int .i64 n]))] w fun e w' => GivesInts w [] e w' := by
  have hp := placeUses_any 20 d a b n w
  simp only [placeV, if_true, if_false, Int.reduceEq] at hp
  simp only [usesV] at hp
  simpa using hp

set_option maxHeartbeats 4000000 in
theorem insOk_const_bad0 (ba : Option Addr) (bn bcap : Nat) (vals d a b n : Int) (hz : (a == 0) = false) (hz2 : ((0 : Int) == a) = false) (w : World) :
    Calls Tryd.prog 68 #[.agg #[.slice ba bn bcap, .int .i64 vals], .agg #[.int .i64 20, .int .i64 d, .int .i64 a, .int .i64 b, .int .i64 n]] w fun e w' => GivesBool w false e w' := by
  go_enter Tryd.func68, Tryd.ntmps68
  go_wp2_with fail
  refine (placeOf_const d a b n _).mono ?_
  rintro e w1 ⟨rfl, b1⟩
  obtain ⟨HB1, g0, g1, c0, c1, c2, c3, c4⟩ := ins_two b1
  clear b1
  go_wp2
  go_region_with (go_at_call 117; refine (constPlace_ins d n _).mono ?_; rintro e w2 ⟨rfl, b2⟩; have HB2 : Hid (Below w.heap.size w w2) := Bel.after (by first | exact HB1.out.drew | exact HB1.out) b2; obtain ⟨k0, k1, k2, k3, k4, m0, m1⟩ := keeps7 b2 c0 c1 c2 c3 c4 g0 g1)
  all_goals
    go_wp2
    go_ret
    exact ⟨rfl, by assumption⟩

set_option maxHeartbeats 4000000 in
theorem insOk_const_bad1 (ba : Option Addr) (bn bcap : Nat) (vals d b n : Int) (hz : (b == 0) = false) (hz2 : ((0 : Int) == b) = false) (w : World) :
    Calls Tryd.prog 68 #[.agg #[.slice ba bn bcap, .int .i64 vals], .agg #[.int .i64 20, .int .i64 d, .int .i64 0, .int .i64 b, .int .i64 n]] w fun e w' => GivesBool w false e w' := by
  go_enter Tryd.func68, Tryd.ntmps68
  go_wp2_with fail
  refine (placeOf_const d 0 b n _).mono ?_
  rintro e w1 ⟨rfl, b1⟩
  obtain ⟨HB1, g0, g1, c0, c1, c2, c3, c4⟩ := ins_two b1
  clear b1
  go_wp2
  go_region_with (go_at_call 117; refine (constPlace_ins d n _).mono ?_; rintro e w2 ⟨rfl, b2⟩; have HB2 : Hid (Below w.heap.size w w2) := Bel.after (by first | exact HB1.out.drew | exact HB1.out) b2; obtain ⟨k0, k1, k2, k3, k4, m0, m1⟩ := keeps7 b2 c0 c1 c2 c3 c4 g0 g1)
  all_goals
    go_wp2
    go_ret
    exact ⟨rfl, by assumption⟩

set_option maxHeartbeats 4000000 in
theorem insOk_const_good (ba : Option Addr) (bn bcap : Nat) (vals d n : Int) (w : World) :
    Calls Tryd.prog 68 #[.agg #[.slice ba bn bcap, .int .i64 vals], .agg #[.int .i64 20, .int .i64 d, .int .i64 0, .int .i64 0, .int .i64 n]] w fun e w' => GivesBool w (valIn vals d && List.all [] (valIn vals)) e w' := by
  go_enter Tryd.func68, Tryd.ntmps68
  go_wp2_with fail
  refine (placeOf_const d 0 0 n _).mono ?_
  rintro e w1 ⟨rfl, b1⟩
  obtain ⟨HB1, g0, g1, c0, c1, c2, c3, c4⟩ := ins_two b1
  clear b1
  go_wp2
  go_region_with (go_at_call 117; refine (constPlace_ins d n _).mono ?_; rintro e w2 ⟨rfl, b2⟩; have HB2 : Hid (Below w.heap.size w w2) := Bel.after (by first | exact HB1.out.drew | exact HB1.out) b2; obtain ⟨k0, k1, k2, k3, k4, m0, m1⟩ := keeps7 b2 c0 c1 c2 c3 c4 g0 g1)
  all_goals
    obtain ⟨bb, HBB⟩ : ∃ bb, Hid (List.all [] (valIn vals) = bb) := ⟨_, rfl⟩
    go_wp2_with fail
    refine (placeDef_const d 0 0 n _).mono ?_
    rintro e w3 ⟨rfl, b3⟩
    have HB3 : Hid (Below w.heap.size w w3) := Bel.after (Hid.out (by assumption)) b3
    have n0 := Bel.keeps b3 (p := ⟨w.heap.size, 0, none⟩) (v := .slice ba bn bcap) (by assumption)
    have n1 := Bel.keeps b3 (p := ⟨w.heap.size, 1, none⟩) (v := .int .i64 vals) (by assumption)
    clear b3
    go_wp2_with fail
    refine (valueIn_any ba bn bcap vals d _).mono ?_
    rintro e w4 ⟨rfl, b4⟩
    have HB4 : Hid (Below w.heap.size w w4) := Bel.after HB3.out b4
    have q0 := Bel.keeps b4 n0
    have q1 := Bel.keeps b4 n1
    clear b4
    cases hv : valIn vals d
    · go_wp2
      go_ret
      exact ⟨by simp [hv], HB4.out⟩
    · go_wp2
      go_region_with (first | (go_at_call 91; refine (placeUses_const d 0 0 n _).mono ?_; rintro e w5 ⟨lv, kb, rfl, hkb, hrow, b5⟩; have HB5 : Hid (Below w.heap.size w w5) := Bel.after (by first | exact HB4.out.drew | exact HB4.out) b5; have HRW : Hid (IntsAt w5 lv []) := hrow.at; have r0 := Bel.keeps b5 q0; have r1 := Bel.keeps b5 q1; obtain ⟨rfl, _⟩ := hrow) | (go_at_call 90; refine (valuesIn_at ba bn bcap vals _ [] bb HBB.out _ (Hid.out (by assumption))).mono ?_; rintro e w6 ⟨rfl, b6⟩; have HB6 : Hid (Below w.heap.size w w6) := Bel.after (Hid.out (by assumption)) b6))
      all_goals
        go_wp2
        go_ret
        exact ⟨by rw [hv, HBB.out]; rfl, Hid.out (by assumption)⟩

theorem readPlace_ins (d : Int) (w : World) :
    Calls Tryd.prog 121 #[.agg #[.int .i64 d]] w fun e w' => e = .returned (.agg #[.int .i64 24, .int .i64 d, .int .i64 0, .int .i64 0, .int .i64 0]) ∧ Below w.heap.size w w' := by
  go_enter Tryd.func121, Tryd.ntmps121
  go_wp2
  go_returns
  exact ⟨rfl, by repeat (first | exact Below.refl _ _ | apply Below.drew | refine Below.alloc ?_ (by simp <;> omega) _ | refine Below.setCell ?_ (by simp <;> omega) _)⟩

theorem placeOf_read (d a b n : Int) (w : World) : Calls Tryd.prog 88 #[.agg #[.int .i64 24, .int .i64 d, .int .i64 a, .int .i64 b, .int .i64 n]] w fun e w' => e = .returned (.iface 139 (.agg #[.int .i64 d])) ∧ Below w.heap.size w w' := by
  have hp := placeOf_any 24 d a b n w
  simp only [placeV, if_true, if_false, Int.reduceEq] at hp
  exact hp
theorem placeDef_read (d a b n : Int) (w : World) : Calls Tryd.prog 89 #[(.iface 139 (.agg #[.int .i64 d]))] w fun e w' => e = .returned (.tuple #[.int .i64 d, .bool true]) ∧ Below w.heap.size w w' := by
  have hp := placeDef_any 24 d a b n w
  simp only [placeV, if_true, if_false, Int.reduceEq] at hp
  simp only [madeV, makesV] at hp
  simpa using hp
theorem placeUses_read (d a b n : Int) (w : World) : Calls Tryd.prog 91 #[(.iface 139 (.agg #[.int .i64 d]))] w fun e w' => GivesInts w [] e w' := by
  have hp := placeUses_any 24 d a b n w
  simp only [placeV, if_true, if_false, Int.reduceEq] at hp
  simp only [usesV] at hp
  simpa using hp

set_option maxHeartbeats 4000000 in
theorem insOk_read_bad0 (ba : Option Addr) (bn bcap : Nat) (vals d a b n : Int) (hz : (a == 0) = false) (hz2 : ((0 : Int) == a) = false) (w : World) :
    Calls Tryd.prog 68 #[.agg #[.slice ba bn bcap, .int .i64 vals], .agg #[.int .i64 24, .int .i64 d, .int .i64 a, .int .i64 b, .int .i64 n]] w fun e w' => GivesBool w false e w' := by
  go_enter Tryd.func68, Tryd.ntmps68
  go_wp2_with fail
  refine (placeOf_read d a b n _).mono ?_
  rintro e w1 ⟨rfl, b1⟩
  obtain ⟨HB1, g0, g1, c0, c1, c2, c3, c4⟩ := ins_two b1
  clear b1
  go_wp2
  go_region_with (go_at_call 121; refine (readPlace_ins d _).mono ?_; rintro e w2 ⟨rfl, b2⟩; have HB2 : Hid (Below w.heap.size w w2) := Bel.after (by first | exact HB1.out.drew | exact HB1.out) b2; obtain ⟨k0, k1, k2, k3, k4, m0, m1⟩ := keeps7 b2 c0 c1 c2 c3 c4 g0 g1)
  all_goals
    go_wp2
    go_ret
    exact ⟨rfl, by assumption⟩

set_option maxHeartbeats 4000000 in
theorem insOk_read_bad1 (ba : Option Addr) (bn bcap : Nat) (vals d b n : Int) (hz : (b == 0) = false) (hz2 : ((0 : Int) == b) = false) (w : World) :
    Calls Tryd.prog 68 #[.agg #[.slice ba bn bcap, .int .i64 vals], .agg #[.int .i64 24, .int .i64 d, .int .i64 0, .int .i64 b, .int .i64 n]] w fun e w' => GivesBool w false e w' := by
  go_enter Tryd.func68, Tryd.ntmps68
  go_wp2_with fail
  refine (placeOf_read d 0 b n _).mono ?_
  rintro e w1 ⟨rfl, b1⟩
  obtain ⟨HB1, g0, g1, c0, c1, c2, c3, c4⟩ := ins_two b1
  clear b1
  go_wp2
  go_region_with (go_at_call 121; refine (readPlace_ins d _).mono ?_; rintro e w2 ⟨rfl, b2⟩; have HB2 : Hid (Below w.heap.size w w2) := Bel.after (by first | exact HB1.out.drew | exact HB1.out) b2; obtain ⟨k0, k1, k2, k3, k4, m0, m1⟩ := keeps7 b2 c0 c1 c2 c3 c4 g0 g1)
  all_goals
    go_wp2
    go_ret
    exact ⟨rfl, by assumption⟩

set_option maxHeartbeats 4000000 in
theorem insOk_read_bad2 (ba : Option Addr) (bn bcap : Nat) (vals d n : Int) (hz : (n == 0) = false) (hz2 : ((0 : Int) == n) = false) (w : World) :
    Calls Tryd.prog 68 #[.agg #[.slice ba bn bcap, .int .i64 vals], .agg #[.int .i64 24, .int .i64 d, .int .i64 0, .int .i64 0, .int .i64 n]] w fun e w' => GivesBool w false e w' := by
  go_enter Tryd.func68, Tryd.ntmps68
  go_wp2_with fail
  refine (placeOf_read d 0 0 n _).mono ?_
  rintro e w1 ⟨rfl, b1⟩
  obtain ⟨HB1, g0, g1, c0, c1, c2, c3, c4⟩ := ins_two b1
  clear b1
  go_wp2
  go_region_with (go_at_call 121; refine (readPlace_ins d _).mono ?_; rintro e w2 ⟨rfl, b2⟩; have HB2 : Hid (Below w.heap.size w w2) := Bel.after (by first | exact HB1.out.drew | exact HB1.out) b2; obtain ⟨k0, k1, k2, k3, k4, m0, m1⟩ := keeps7 b2 c0 c1 c2 c3 c4 g0 g1)
  all_goals
    go_wp2
    go_ret
    exact ⟨rfl, by assumption⟩

set_option maxHeartbeats 4000000 in
theorem insOk_read_good (ba : Option Addr) (bn bcap : Nat) (vals d : Int) (w : World) :
    Calls Tryd.prog 68 #[.agg #[.slice ba bn bcap, .int .i64 vals], .agg #[.int .i64 24, .int .i64 d, .int .i64 0, .int .i64 0, .int .i64 0]] w fun e w' => GivesBool w (valIn vals d && List.all [] (valIn vals)) e w' := by
  go_enter Tryd.func68, Tryd.ntmps68
  go_wp2_with fail
  refine (placeOf_read d 0 0 0 _).mono ?_
  rintro e w1 ⟨rfl, b1⟩
  obtain ⟨HB1, g0, g1, c0, c1, c2, c3, c4⟩ := ins_two b1
  clear b1
  go_wp2
  go_region_with (go_at_call 121; refine (readPlace_ins d _).mono ?_; rintro e w2 ⟨rfl, b2⟩; have HB2 : Hid (Below w.heap.size w w2) := Bel.after (by first | exact HB1.out.drew | exact HB1.out) b2; obtain ⟨k0, k1, k2, k3, k4, m0, m1⟩ := keeps7 b2 c0 c1 c2 c3 c4 g0 g1)
  all_goals
    obtain ⟨bb, HBB⟩ : ∃ bb, Hid (List.all [] (valIn vals) = bb) := ⟨_, rfl⟩
    go_wp2_with fail
    refine (placeDef_read d 0 0 0 _).mono ?_
    rintro e w3 ⟨rfl, b3⟩
    have HB3 : Hid (Below w.heap.size w w3) := Bel.after (Hid.out (by assumption)) b3
    have n0 := Bel.keeps b3 (p := ⟨w.heap.size, 0, none⟩) (v := .slice ba bn bcap) (by assumption)
    have n1 := Bel.keeps b3 (p := ⟨w.heap.size, 1, none⟩) (v := .int .i64 vals) (by assumption)
    clear b3
    go_wp2_with fail
    refine (valueIn_any ba bn bcap vals d _).mono ?_
    rintro e w4 ⟨rfl, b4⟩
    have HB4 : Hid (Below w.heap.size w w4) := Bel.after HB3.out b4
    have q0 := Bel.keeps b4 n0
    have q1 := Bel.keeps b4 n1
    clear b4
    cases hv : valIn vals d
    · go_wp2
      go_ret
      exact ⟨by simp [hv], HB4.out⟩
    · go_wp2
      go_region_with (first | (go_at_call 91; refine (placeUses_read d 0 0 0 _).mono ?_; rintro e w5 ⟨lv, kb, rfl, hkb, hrow, b5⟩; have HB5 : Hid (Below w.heap.size w w5) := Bel.after (by first | exact HB4.out.drew | exact HB4.out) b5; have HRW : Hid (IntsAt w5 lv []) := hrow.at; have r0 := Bel.keeps b5 q0; have r1 := Bel.keeps b5 q1; obtain ⟨rfl, _⟩ := hrow) | (go_at_call 90; refine (valuesIn_at ba bn bcap vals _ [] bb HBB.out _ (Hid.out (by assumption))).mono ?_; rintro e w6 ⟨rfl, b6⟩; have HB6 : Hid (Below w.heap.size w w6) := Bel.after (Hid.out (by assumption)) b6))
      all_goals
        go_wp2
        go_ret
        exact ⟨by rw [hv, HBB.out]; rfl, Hid.out (by assumption)⟩

end Go.Proofs.YthdioeeanodjiaaDoor
