/- The shape of a program, part 4: the ends, as the program looks at them. -/
import Derived.Test.YthdioeeanodjiaaDoorKSa
namespace Go.Proofs.YthdioeeanodjiaaDoor
open Go.ChangeShapes Go.WideShapes Go.ChangeAt Go.RowKit
set_option linter.unusedVariables false

theorem endsOf (k a : Int) (l : List Int) (h : endsV k a = l) (t o : Int) (w : World) : Calls Tryd.prog 92 #[.agg #[.int .i64 k, .int .i64 a, .int .i64 t, .int .i64 o]] w fun r w' => GivesInts w l r w' := by
  subst h
  exact impl_termUses k a t o w

set_option maxHeartbeats 4000000 in
theorem termOk_jump_bad0 (ba : Option Addr) (bn bcap : Nat) (vals a t o : Int) (hz : (a == 0) = false) (w : World) :
    Calls Tryd.prog 69 #[.agg #[.slice ba bn bcap, .int .i64 vals], .agg #[.int .i64 1, .int .i64 a, .int .i64 t, .int .i64 o]] w fun e w' => GivesBool w (false) e w' := by
  go_enter Tryd.func69, Tryd.ntmps69
  go_wp2
  go_region_with (first | (go_at_call 92; refine (endsOf 1 a [] (by simp [endsV]) t o _).mono ?_; rintro e w5 ⟨lv, kb, rfl, hkb, hrow, b5⟩; have HB5 : Hid (Below w.heap.size w w5) := Bel.after (by repeat (first | exact Below.refl _ _ | apply Below.drew | refine Below.alloc ?_ (by simp <;> omega) _ | refine Below.setCell ?_ (by simp <;> omega) _)) b5; have HRW : Hid (IntsAt w5 lv []) := hrow.at; have r0 := Bel.keeps b5 (p := ⟨w.heap.size, 0, none⟩) (v := .slice ba bn bcap) (by simp [go_sem]); have r1 := Bel.keeps b5 (p := ⟨w.heap.size, 1, none⟩) (v := .int .i64 vals) (by simp [go_sem]); have t0 := Bel.keeps b5 (p := ⟨w.heap.size + 1, 0, none⟩) (v := .int .i64 1) (by simp [go_sem]); have t1 := Bel.keeps b5 (p := ⟨w.heap.size + 1, 1, none⟩) (v := .int .i64 a) (by simp [go_sem]); have t2 := Bel.keeps b5 (p := ⟨w.heap.size + 1, 2, none⟩) (v := .int .i64 t) (by simp [go_sem]); have t3 := Bel.keeps b5 (p := ⟨w.heap.size + 1, 3, none⟩) (v := .int .i64 o) (by simp [go_sem]); obtain ⟨rfl, _⟩ := hrow) | (go_at_call 90; refine (valuesIn_at ba bn bcap vals _ [] true (by simp) _ (Hid.out (by assumption))).mono ?_; rintro e w6 ⟨rfl, b6⟩; have HB6 : Hid (Below w.heap.size w w6) := Bel.after (Hid.out (by assumption)) b6; have s0 := Bel.keeps b6 (p := ⟨w.heap.size, 0, none⟩) (v := .slice ba bn bcap) (by assumption); have s1 := Bel.keeps b6 (p := ⟨w.heap.size, 1, none⟩) (v := .int .i64 vals) (by assumption); have u0 := Bel.keeps b6 (p := ⟨w.heap.size + 1, 0, none⟩) (v := .int .i64 1) (by assumption); have u1 := Bel.keeps b6 (p := ⟨w.heap.size + 1, 1, none⟩) (v := .int .i64 a) (by assumption); have u2 := Bel.keeps b6 (p := ⟨w.heap.size + 1, 2, none⟩) (v := .int .i64 t) (by assumption); have u3 := Bel.keeps b6 (p := ⟨w.heap.size + 1, 3, none⟩) (v := .int .i64 o) (by assumption)))
  all_goals
    go_wp2
    go_ret
    exact ⟨by first | rfl | (simp; done), Hid.out (by assumption)⟩

set_option maxHeartbeats 4000000 in
theorem termOk_jump_bad1 (ba : Option Addr) (bn bcap : Nat) (vals t o : Int) (hz : (o == 0) = false) (w : World) :
    Calls Tryd.prog 69 #[.agg #[.slice ba bn bcap, .int .i64 vals], .agg #[.int .i64 1, .int .i64 0, .int .i64 t, .int .i64 o]] w fun e w' => GivesBool w (false) e w' := by
  go_enter Tryd.func69, Tryd.ntmps69
  go_wp2
  go_region_with (first | (go_at_call 92; refine (endsOf 1 0 [] (by simp [endsV]) t o _).mono ?_; rintro e w5 ⟨lv, kb, rfl, hkb, hrow, b5⟩; have HB5 : Hid (Below w.heap.size w w5) := Bel.after (by repeat (first | exact Below.refl _ _ | apply Below.drew | refine Below.alloc ?_ (by simp <;> omega) _ | refine Below.setCell ?_ (by simp <;> omega) _)) b5; have HRW : Hid (IntsAt w5 lv []) := hrow.at; have r0 := Bel.keeps b5 (p := ⟨w.heap.size, 0, none⟩) (v := .slice ba bn bcap) (by simp [go_sem]); have r1 := Bel.keeps b5 (p := ⟨w.heap.size, 1, none⟩) (v := .int .i64 vals) (by simp [go_sem]); have t0 := Bel.keeps b5 (p := ⟨w.heap.size + 1, 0, none⟩) (v := .int .i64 1) (by simp [go_sem]); have t1 := Bel.keeps b5 (p := ⟨w.heap.size + 1, 1, none⟩) (v := .int .i64 0) (by simp [go_sem]); have t2 := Bel.keeps b5 (p := ⟨w.heap.size + 1, 2, none⟩) (v := .int .i64 t) (by simp [go_sem]); have t3 := Bel.keeps b5 (p := ⟨w.heap.size + 1, 3, none⟩) (v := .int .i64 o) (by simp [go_sem]); obtain ⟨rfl, _⟩ := hrow) | (go_at_call 90; refine (valuesIn_at ba bn bcap vals _ [] true (by simp) _ (Hid.out (by assumption))).mono ?_; rintro e w6 ⟨rfl, b6⟩; have HB6 : Hid (Below w.heap.size w w6) := Bel.after (Hid.out (by assumption)) b6; have s0 := Bel.keeps b6 (p := ⟨w.heap.size, 0, none⟩) (v := .slice ba bn bcap) (by assumption); have s1 := Bel.keeps b6 (p := ⟨w.heap.size, 1, none⟩) (v := .int .i64 vals) (by assumption); have u0 := Bel.keeps b6 (p := ⟨w.heap.size + 1, 0, none⟩) (v := .int .i64 1) (by assumption); have u1 := Bel.keeps b6 (p := ⟨w.heap.size + 1, 1, none⟩) (v := .int .i64 0) (by assumption); have u2 := Bel.keeps b6 (p := ⟨w.heap.size + 1, 2, none⟩) (v := .int .i64 t) (by assumption); have u3 := Bel.keeps b6 (p := ⟨w.heap.size + 1, 3, none⟩) (v := .int .i64 o) (by assumption)))
  all_goals
    go_wp2
    go_ret
    exact ⟨by first | rfl | (simp; done), Hid.out (by assumption)⟩

set_option maxHeartbeats 4000000 in
theorem termOk_jump_good (ba : Option Addr) (bn bcap : Nat) (vals t : Int) (w : World) :
    Calls Tryd.prog 69 #[.agg #[.slice ba bn bcap, .int .i64 vals], .agg #[.int .i64 1, .int .i64 0, .int .i64 t, .int .i64 0]] w fun e w' => GivesBool w (valIn (bn : Int) t) e w' := by
  go_enter Tryd.func69, Tryd.ntmps69
  go_wp2
  go_region_with (first | (go_at_call 92; refine (endsOf 1 0 [] (by simp [endsV]) t 0 _).mono ?_; rintro e w5 ⟨lv, kb, rfl, hkb, hrow, b5⟩; have HB5 : Hid (Below w.heap.size w w5) := Bel.after (by repeat (first | exact Below.refl _ _ | apply Below.drew | refine Below.alloc ?_ (by simp <;> omega) _ | refine Below.setCell ?_ (by simp <;> omega) _)) b5; have HRW : Hid (IntsAt w5 lv []) := hrow.at; have r0 := Bel.keeps b5 (p := ⟨w.heap.size, 0, none⟩) (v := .slice ba bn bcap) (by simp [go_sem]); have r1 := Bel.keeps b5 (p := ⟨w.heap.size, 1, none⟩) (v := .int .i64 vals) (by simp [go_sem]); have t0 := Bel.keeps b5 (p := ⟨w.heap.size + 1, 0, none⟩) (v := .int .i64 1) (by simp [go_sem]); have t1 := Bel.keeps b5 (p := ⟨w.heap.size + 1, 1, none⟩) (v := .int .i64 0) (by simp [go_sem]); have t2 := Bel.keeps b5 (p := ⟨w.heap.size + 1, 2, none⟩) (v := .int .i64 t) (by simp [go_sem]); have t3 := Bel.keeps b5 (p := ⟨w.heap.size + 1, 3, none⟩) (v := .int .i64 0) (by simp [go_sem]); obtain ⟨rfl, _⟩ := hrow) | (go_at_call 90; refine (valuesIn_at ba bn bcap vals _ [] true (by simp) _ (Hid.out (by assumption))).mono ?_; rintro e w6 ⟨rfl, b6⟩; have HB6 : Hid (Below w.heap.size w w6) := Bel.after (Hid.out (by assumption)) b6; have s0 := Bel.keeps b6 (p := ⟨w.heap.size, 0, none⟩) (v := .slice ba bn bcap) (by assumption); have s1 := Bel.keeps b6 (p := ⟨w.heap.size, 1, none⟩) (v := .int .i64 vals) (by assumption); have u0 := Bel.keeps b6 (p := ⟨w.heap.size + 1, 0, none⟩) (v := .int .i64 1) (by assumption); have u1 := Bel.keeps b6 (p := ⟨w.heap.size + 1, 1, none⟩) (v := .int .i64 0) (by assumption); have u2 := Bel.keeps b6 (p := ⟨w.heap.size + 1, 2, none⟩) (v := .int .i64 t) (by assumption); have u3 := Bel.keeps b6 (p := ⟨w.heap.size + 1, 3, none⟩) (v := .int .i64 0) (by assumption)))
  all_goals
    go_wp2_with fail
    refine (blockIn_any ba bn bcap vals t _).mono ?_
    rintro e w7 ⟨rfl, b7⟩
    have HB7 : Hid (Below w.heap.size w w7) := Bel.after (Hid.out (by assumption)) b7
    clear b7
    go_wp2
    go_ret
    exact ⟨by first | rfl | (simp; done), HB7.out⟩

set_option maxHeartbeats 4000000 in
theorem termOk_branch_bad (ba : Option Addr) (bn bcap : Nat) (vals a t o : Int) (hv : valIn vals a = false) (w : World) :
    Calls Tryd.prog 69 #[.agg #[.slice ba bn bcap, .int .i64 vals], .agg #[.int .i64 2, .int .i64 a, .int .i64 t, .int .i64 o]] w fun e w' => GivesBool w (false) e w' := by
  go_enter Tryd.func69, Tryd.ntmps69
  go_wp2
  go_region_with (first | (go_at_call 92; refine (endsOf 2 a [a] (by simp [endsV]) t o _).mono ?_; rintro e w5 ⟨lv, kb, rfl, hkb, hrow, b5⟩; have HB5 : Hid (Below w.heap.size w w5) := Bel.after (by repeat (first | exact Below.refl _ _ | apply Below.drew | refine Below.alloc ?_ (by simp <;> omega) _ | refine Below.setCell ?_ (by simp <;> omega) _)) b5; have HRW : Hid (IntsAt w5 lv [a]) := hrow.at; have r0 := Bel.keeps b5 (p := ⟨w.heap.size, 0, none⟩) (v := .slice ba bn bcap) (by simp [go_sem]); have r1 := Bel.keeps b5 (p := ⟨w.heap.size, 1, none⟩) (v := .int .i64 vals) (by simp [go_sem]); have t0 := Bel.keeps b5 (p := ⟨w.heap.size + 1, 0, none⟩) (v := .int .i64 2) (by simp [go_sem]); have t1 := Bel.keeps b5 (p := ⟨w.heap.size + 1, 1, none⟩) (v := .int .i64 a) (by simp [go_sem]); have t2 := Bel.keeps b5 (p := ⟨w.heap.size + 1, 2, none⟩) (v := .int .i64 t) (by simp [go_sem]); have t3 := Bel.keeps b5 (p := ⟨w.heap.size + 1, 3, none⟩) (v := .int .i64 o) (by simp [go_sem]); obtain ⟨rfl, _⟩ := hrow) | (go_at_call 90; refine (valuesIn_at ba bn bcap vals _ [a] false (by simp [hv]) _ (Hid.out (by assumption))).mono ?_; rintro e w6 ⟨rfl, b6⟩; have HB6 : Hid (Below w.heap.size w w6) := Bel.after (Hid.out (by assumption)) b6; have s0 := Bel.keeps b6 (p := ⟨w.heap.size, 0, none⟩) (v := .slice ba bn bcap) (by assumption); have s1 := Bel.keeps b6 (p := ⟨w.heap.size, 1, none⟩) (v := .int .i64 vals) (by assumption); have u0 := Bel.keeps b6 (p := ⟨w.heap.size + 1, 0, none⟩) (v := .int .i64 2) (by assumption); have u1 := Bel.keeps b6 (p := ⟨w.heap.size + 1, 1, none⟩) (v := .int .i64 a) (by assumption); have u2 := Bel.keeps b6 (p := ⟨w.heap.size + 1, 2, none⟩) (v := .int .i64 t) (by assumption); have u3 := Bel.keeps b6 (p := ⟨w.heap.size + 1, 3, none⟩) (v := .int .i64 o) (by assumption)))
  all_goals
    go_wp2
    go_ret
    exact ⟨by first | rfl | (simp; done), Hid.out (by assumption)⟩

set_option maxHeartbeats 4000000 in
theorem termOk_branch_good (ba : Option Addr) (bn bcap : Nat) (vals a t o : Int) (hv : valIn vals a = true) (w : World) :
    Calls Tryd.prog 69 #[.agg #[.slice ba bn bcap, .int .i64 vals], .agg #[.int .i64 2, .int .i64 a, .int .i64 t, .int .i64 o]] w fun e w' => GivesBool w (valIn (bn : Int) t && valIn (bn : Int) o) e w' := by
  go_enter Tryd.func69, Tryd.ntmps69
  go_wp2
  go_region_with (first | (go_at_call 92; refine (endsOf 2 a [a] (by simp [endsV]) t o _).mono ?_; rintro e w5 ⟨lv, kb, rfl, hkb, hrow, b5⟩; have HB5 : Hid (Below w.heap.size w w5) := Bel.after (by repeat (first | exact Below.refl _ _ | apply Below.drew | refine Below.alloc ?_ (by simp <;> omega) _ | refine Below.setCell ?_ (by simp <;> omega) _)) b5; have HRW : Hid (IntsAt w5 lv [a]) := hrow.at; have r0 := Bel.keeps b5 (p := ⟨w.heap.size, 0, none⟩) (v := .slice ba bn bcap) (by simp [go_sem]); have r1 := Bel.keeps b5 (p := ⟨w.heap.size, 1, none⟩) (v := .int .i64 vals) (by simp [go_sem]); have t0 := Bel.keeps b5 (p := ⟨w.heap.size + 1, 0, none⟩) (v := .int .i64 2) (by simp [go_sem]); have t1 := Bel.keeps b5 (p := ⟨w.heap.size + 1, 1, none⟩) (v := .int .i64 a) (by simp [go_sem]); have t2 := Bel.keeps b5 (p := ⟨w.heap.size + 1, 2, none⟩) (v := .int .i64 t) (by simp [go_sem]); have t3 := Bel.keeps b5 (p := ⟨w.heap.size + 1, 3, none⟩) (v := .int .i64 o) (by simp [go_sem]); obtain ⟨rfl, _⟩ := hrow) | (go_at_call 90; refine (valuesIn_at ba bn bcap vals _ [a] true (by simp [hv]) _ (Hid.out (by assumption))).mono ?_; rintro e w6 ⟨rfl, b6⟩; have HB6 : Hid (Below w.heap.size w w6) := Bel.after (Hid.out (by assumption)) b6; have s0 := Bel.keeps b6 (p := ⟨w.heap.size, 0, none⟩) (v := .slice ba bn bcap) (by assumption); have s1 := Bel.keeps b6 (p := ⟨w.heap.size, 1, none⟩) (v := .int .i64 vals) (by assumption); have u0 := Bel.keeps b6 (p := ⟨w.heap.size + 1, 0, none⟩) (v := .int .i64 2) (by assumption); have u1 := Bel.keeps b6 (p := ⟨w.heap.size + 1, 1, none⟩) (v := .int .i64 a) (by assumption); have u2 := Bel.keeps b6 (p := ⟨w.heap.size + 1, 2, none⟩) (v := .int .i64 t) (by assumption); have u3 := Bel.keeps b6 (p := ⟨w.heap.size + 1, 3, none⟩) (v := .int .i64 o) (by assumption)))
  all_goals
    go_wp2_with fail
    refine (blockIn_any ba bn bcap vals t _).mono ?_
    rintro e w7 ⟨rfl, b7⟩
    have HB7 : Hid (Below w.heap.size w w7) := Bel.after (Hid.out (by assumption)) b7
    have v0 := Bel.keeps b7 (p := ⟨w.heap.size, 0, none⟩) (v := .slice ba bn bcap) (by assumption)
    have v1 := Bel.keeps b7 (p := ⟨w.heap.size, 1, none⟩) (v := .int .i64 vals) (by assumption)
    have v3 := Bel.keeps b7 (p := ⟨w.heap.size + 1, 3, none⟩) (v := .int .i64 o) (by assumption)
    clear b7
    cases hbt : valIn (bn : Int) t
    · go_wp2
      go_ret
      exact ⟨by rw [hbt]; rfl, HB7.out⟩
    · go_wp2_with fail
      refine (blockIn_any ba bn bcap vals o _).mono ?_
      rintro e w8 ⟨rfl, b8⟩
      have HB8 : Hid (Below w.heap.size w w8) := Bel.after HB7.out b8
      clear b8
      go_wp2
      go_ret
      exact ⟨by rw [hbt]; first | rfl | (simp; done), HB8.out⟩

set_option maxHeartbeats 4000000 in
theorem termOk_back_bad (ba : Option Addr) (bn bcap : Nat) (vals a t o : Int) (hv : valIn vals a = false) (w : World) :
    Calls Tryd.prog 69 #[.agg #[.slice ba bn bcap, .int .i64 vals], .agg #[.int .i64 3, .int .i64 a, .int .i64 t, .int .i64 o]] w fun e w' => GivesBool w (false) e w' := by
  go_enter Tryd.func69, Tryd.ntmps69
  go_wp2
  go_region_with (first | (go_at_call 92; refine (endsOf 3 a [a] (by simp [endsV]) t o _).mono ?_; rintro e w5 ⟨lv, kb, rfl, hkb, hrow, b5⟩; have HB5 : Hid (Below w.heap.size w w5) := Bel.after (by repeat (first | exact Below.refl _ _ | apply Below.drew | refine Below.alloc ?_ (by simp <;> omega) _ | refine Below.setCell ?_ (by simp <;> omega) _)) b5; have HRW : Hid (IntsAt w5 lv [a]) := hrow.at; have r0 := Bel.keeps b5 (p := ⟨w.heap.size, 0, none⟩) (v := .slice ba bn bcap) (by simp [go_sem]); have r1 := Bel.keeps b5 (p := ⟨w.heap.size, 1, none⟩) (v := .int .i64 vals) (by simp [go_sem]); have t0 := Bel.keeps b5 (p := ⟨w.heap.size + 1, 0, none⟩) (v := .int .i64 3) (by simp [go_sem]); have t1 := Bel.keeps b5 (p := ⟨w.heap.size + 1, 1, none⟩) (v := .int .i64 a) (by simp [go_sem]); have t2 := Bel.keeps b5 (p := ⟨w.heap.size + 1, 2, none⟩) (v := .int .i64 t) (by simp [go_sem]); have t3 := Bel.keeps b5 (p := ⟨w.heap.size + 1, 3, none⟩) (v := .int .i64 o) (by simp [go_sem]); obtain ⟨rfl, _⟩ := hrow) | (go_at_call 90; refine (valuesIn_at ba bn bcap vals _ [a] false (by simp [hv]) _ (Hid.out (by assumption))).mono ?_; rintro e w6 ⟨rfl, b6⟩; have HB6 : Hid (Below w.heap.size w w6) := Bel.after (Hid.out (by assumption)) b6; have s0 := Bel.keeps b6 (p := ⟨w.heap.size, 0, none⟩) (v := .slice ba bn bcap) (by assumption); have s1 := Bel.keeps b6 (p := ⟨w.heap.size, 1, none⟩) (v := .int .i64 vals) (by assumption); have u0 := Bel.keeps b6 (p := ⟨w.heap.size + 1, 0, none⟩) (v := .int .i64 3) (by assumption); have u1 := Bel.keeps b6 (p := ⟨w.heap.size + 1, 1, none⟩) (v := .int .i64 a) (by assumption); have u2 := Bel.keeps b6 (p := ⟨w.heap.size + 1, 2, none⟩) (v := .int .i64 t) (by assumption); have u3 := Bel.keeps b6 (p := ⟨w.heap.size + 1, 3, none⟩) (v := .int .i64 o) (by assumption)))
  all_goals
    go_wp2
    go_ret
    exact ⟨by first | rfl | (simp; done), Hid.out (by assumption)⟩

set_option maxHeartbeats 4000000 in
theorem termOk_back_bad0 (ba : Option Addr) (bn bcap : Nat) (vals a t o : Int) (hv : valIn vals a = true) (hz : (t == 0) = false) (w : World) :
    Calls Tryd.prog 69 #[.agg #[.slice ba bn bcap, .int .i64 vals], .agg #[.int .i64 3, .int .i64 a, .int .i64 t, .int .i64 o]] w fun e w' => GivesBool w (false) e w' := by
  go_enter Tryd.func69, Tryd.ntmps69
  go_wp2
  go_region_with (first | (go_at_call 92; refine (endsOf 3 a [a] (by simp [endsV]) t o _).mono ?_; rintro e w5 ⟨lv, kb, rfl, hkb, hrow, b5⟩; have HB5 : Hid (Below w.heap.size w w5) := Bel.after (by repeat (first | exact Below.refl _ _ | apply Below.drew | refine Below.alloc ?_ (by simp <;> omega) _ | refine Below.setCell ?_ (by simp <;> omega) _)) b5; have HRW : Hid (IntsAt w5 lv [a]) := hrow.at; have r0 := Bel.keeps b5 (p := ⟨w.heap.size, 0, none⟩) (v := .slice ba bn bcap) (by simp [go_sem]); have r1 := Bel.keeps b5 (p := ⟨w.heap.size, 1, none⟩) (v := .int .i64 vals) (by simp [go_sem]); have t0 := Bel.keeps b5 (p := ⟨w.heap.size + 1, 0, none⟩) (v := .int .i64 3) (by simp [go_sem]); have t1 := Bel.keeps b5 (p := ⟨w.heap.size + 1, 1, none⟩) (v := .int .i64 a) (by simp [go_sem]); have t2 := Bel.keeps b5 (p := ⟨w.heap.size + 1, 2, none⟩) (v := .int .i64 t) (by simp [go_sem]); have t3 := Bel.keeps b5 (p := ⟨w.heap.size + 1, 3, none⟩) (v := .int .i64 o) (by simp [go_sem]); obtain ⟨rfl, _⟩ := hrow) | (go_at_call 90; refine (valuesIn_at ba bn bcap vals _ [a] true (by simp [hv]) _ (Hid.out (by assumption))).mono ?_; rintro e w6 ⟨rfl, b6⟩; have HB6 : Hid (Below w.heap.size w w6) := Bel.after (Hid.out (by assumption)) b6; have s0 := Bel.keeps b6 (p := ⟨w.heap.size, 0, none⟩) (v := .slice ba bn bcap) (by assumption); have s1 := Bel.keeps b6 (p := ⟨w.heap.size, 1, none⟩) (v := .int .i64 vals) (by assumption); have u0 := Bel.keeps b6 (p := ⟨w.heap.size + 1, 0, none⟩) (v := .int .i64 3) (by assumption); have u1 := Bel.keeps b6 (p := ⟨w.heap.size + 1, 1, none⟩) (v := .int .i64 a) (by assumption); have u2 := Bel.keeps b6 (p := ⟨w.heap.size + 1, 2, none⟩) (v := .int .i64 t) (by assumption); have u3 := Bel.keeps b6 (p := ⟨w.heap.size + 1, 3, none⟩) (v := .int .i64 o) (by assumption)))
  all_goals
    go_wp2
    go_ret
    exact ⟨by first | rfl | (simp; done), Hid.out (by assumption)⟩

set_option maxHeartbeats 4000000 in
theorem termOk_back_bad1 (ba : Option Addr) (bn bcap : Nat) (vals a o : Int) (hv : valIn vals a = true) (hz : (o == 0) = false) (w : World) :
    Calls Tryd.prog 69 #[.agg #[.slice ba bn bcap, .int .i64 vals], .agg #[.int .i64 3, .int .i64 a, .int .i64 0, .int .i64 o]] w fun e w' => GivesBool w (false) e w' := by
  go_enter Tryd.func69, Tryd.ntmps69
  go_wp2
  go_region_with (first | (go_at_call 92; refine (endsOf 3 a [a] (by simp [endsV]) 0 o _).mono ?_; rintro e w5 ⟨lv, kb, rfl, hkb, hrow, b5⟩; have HB5 : Hid (Below w.heap.size w w5) := Bel.after (by repeat (first | exact Below.refl _ _ | apply Below.drew | refine Below.alloc ?_ (by simp <;> omega) _ | refine Below.setCell ?_ (by simp <;> omega) _)) b5; have HRW : Hid (IntsAt w5 lv [a]) := hrow.at; have r0 := Bel.keeps b5 (p := ⟨w.heap.size, 0, none⟩) (v := .slice ba bn bcap) (by simp [go_sem]); have r1 := Bel.keeps b5 (p := ⟨w.heap.size, 1, none⟩) (v := .int .i64 vals) (by simp [go_sem]); have t0 := Bel.keeps b5 (p := ⟨w.heap.size + 1, 0, none⟩) (v := .int .i64 3) (by simp [go_sem]); have t1 := Bel.keeps b5 (p := ⟨w.heap.size + 1, 1, none⟩) (v := .int .i64 a) (by simp [go_sem]); have t2 := Bel.keeps b5 (p := ⟨w.heap.size + 1, 2, none⟩) (v := .int .i64 0) (by simp [go_sem]); have t3 := Bel.keeps b5 (p := ⟨w.heap.size + 1, 3, none⟩) (v := .int .i64 o) (by simp [go_sem]); obtain ⟨rfl, _⟩ := hrow) | (go_at_call 90; refine (valuesIn_at ba bn bcap vals _ [a] true (by simp [hv]) _ (Hid.out (by assumption))).mono ?_; rintro e w6 ⟨rfl, b6⟩; have HB6 : Hid (Below w.heap.size w w6) := Bel.after (Hid.out (by assumption)) b6; have s0 := Bel.keeps b6 (p := ⟨w.heap.size, 0, none⟩) (v := .slice ba bn bcap) (by assumption); have s1 := Bel.keeps b6 (p := ⟨w.heap.size, 1, none⟩) (v := .int .i64 vals) (by assumption); have u0 := Bel.keeps b6 (p := ⟨w.heap.size + 1, 0, none⟩) (v := .int .i64 3) (by assumption); have u1 := Bel.keeps b6 (p := ⟨w.heap.size + 1, 1, none⟩) (v := .int .i64 a) (by assumption); have u2 := Bel.keeps b6 (p := ⟨w.heap.size + 1, 2, none⟩) (v := .int .i64 0) (by assumption); have u3 := Bel.keeps b6 (p := ⟨w.heap.size + 1, 3, none⟩) (v := .int .i64 o) (by assumption)))
  all_goals
    go_wp2
    go_ret
    exact ⟨by first | rfl | (simp; done), Hid.out (by assumption)⟩

set_option maxHeartbeats 4000000 in
theorem termOk_back_good (ba : Option Addr) (bn bcap : Nat) (vals a : Int) (hv : valIn vals a = true) (w : World) :
    Calls Tryd.prog 69 #[.agg #[.slice ba bn bcap, .int .i64 vals], .agg #[.int .i64 3, .int .i64 a, .int .i64 0, .int .i64 0]] w fun e w' => GivesBool w (true) e w' := by
  go_enter Tryd.func69, Tryd.ntmps69
  go_wp2
  go_region_with (first | (go_at_call 92; refine (endsOf 3 a [a] (by simp [endsV]) 0 0 _).mono ?_; rintro e w5 ⟨lv, kb, rfl, hkb, hrow, b5⟩; have HB5 : Hid (Below w.heap.size w w5) := Bel.after (by repeat (first | exact Below.refl _ _ | apply Below.drew | refine Below.alloc ?_ (by simp <;> omega) _ | refine Below.setCell ?_ (by simp <;> omega) _)) b5; have HRW : Hid (IntsAt w5 lv [a]) := hrow.at; have r0 := Bel.keeps b5 (p := ⟨w.heap.size, 0, none⟩) (v := .slice ba bn bcap) (by simp [go_sem]); have r1 := Bel.keeps b5 (p := ⟨w.heap.size, 1, none⟩) (v := .int .i64 vals) (by simp [go_sem]); have t0 := Bel.keeps b5 (p := ⟨w.heap.size + 1, 0, none⟩) (v := .int .i64 3) (by simp [go_sem]); have t1 := Bel.keeps b5 (p := ⟨w.heap.size + 1, 1, none⟩) (v := .int .i64 a) (by simp [go_sem]); have t2 := Bel.keeps b5 (p := ⟨w.heap.size + 1, 2, none⟩) (v := .int .i64 0) (by simp [go_sem]); have t3 := Bel.keeps b5 (p := ⟨w.heap.size + 1, 3, none⟩) (v := .int .i64 0) (by simp [go_sem]); obtain ⟨rfl, _⟩ := hrow) | (go_at_call 90; refine (valuesIn_at ba bn bcap vals _ [a] true (by simp [hv]) _ (Hid.out (by assumption))).mono ?_; rintro e w6 ⟨rfl, b6⟩; have HB6 : Hid (Below w.heap.size w w6) := Bel.after (Hid.out (by assumption)) b6; have s0 := Bel.keeps b6 (p := ⟨w.heap.size, 0, none⟩) (v := .slice ba bn bcap) (by assumption); have s1 := Bel.keeps b6 (p := ⟨w.heap.size, 1, none⟩) (v := .int .i64 vals) (by assumption); have u0 := Bel.keeps b6 (p := ⟨w.heap.size + 1, 0, none⟩) (v := .int .i64 3) (by assumption); have u1 := Bel.keeps b6 (p := ⟨w.heap.size + 1, 1, none⟩) (v := .int .i64 a) (by assumption); have u2 := Bel.keeps b6 (p := ⟨w.heap.size + 1, 2, none⟩) (v := .int .i64 0) (by assumption); have u3 := Bel.keeps b6 (p := ⟨w.heap.size + 1, 3, none⟩) (v := .int .i64 0) (by assumption)))
  all_goals
    go_wp2
    go_ret
    exact ⟨by first | rfl | (simp; done), Hid.out (by assumption)⟩

set_option maxHeartbeats 4000000 in
theorem termOk_none (ba : Option Addr) (bn bcap : Nat) (vals k a t o : Int) (e1 : (k == 1) = false) (e2 : (k == 2) = false) (e3 : (k == 3) = false) (w : World) :
    Calls Tryd.prog 69 #[.agg #[.slice ba bn bcap, .int .i64 vals], .agg #[.int .i64 k, .int .i64 a, .int .i64 t, .int .i64 o]] w fun e w' => GivesBool w (false) e w' := by
  have HEN : Hid (endsV k a = []) := by
    simp only [beq_eq_false_iff_ne, ne_eq] at e2 e3
    show endsV k a = []
    simp [endsV, e2, e3]
  go_enter Tryd.func69, Tryd.ntmps69
  go_wp2
  go_region_with (first | (go_at_call 92; refine (endsOf k a [] HEN.out t o _).mono ?_; rintro e w5 ⟨lv, kb, rfl, hkb, hrow, b5⟩; have HB5 : Hid (Below w.heap.size w w5) := Bel.after (by repeat (first | exact Below.refl _ _ | apply Below.drew | refine Below.alloc ?_ (by simp <;> omega) _ | refine Below.setCell ?_ (by simp <;> omega) _)) b5; have HRW : Hid (IntsAt w5 lv []) := hrow.at; have r0 := Bel.keeps b5 (p := ⟨w.heap.size, 0, none⟩) (v := .slice ba bn bcap) (by simp [go_sem]); have r1 := Bel.keeps b5 (p := ⟨w.heap.size, 1, none⟩) (v := .int .i64 vals) (by simp [go_sem]); have t0 := Bel.keeps b5 (p := ⟨w.heap.size + 1, 0, none⟩) (v := .int .i64 k) (by simp [go_sem]); have t1 := Bel.keeps b5 (p := ⟨w.heap.size + 1, 1, none⟩) (v := .int .i64 a) (by simp [go_sem]); have t2 := Bel.keeps b5 (p := ⟨w.heap.size + 1, 2, none⟩) (v := .int .i64 t) (by simp [go_sem]); have t3 := Bel.keeps b5 (p := ⟨w.heap.size + 1, 3, none⟩) (v := .int .i64 o) (by simp [go_sem]); obtain ⟨rfl, _⟩ := hrow) | (go_at_call 90; refine (valuesIn_at ba bn bcap vals _ [] true (by simp) _ (Hid.out (by assumption))).mono ?_; rintro e w6 ⟨rfl, b6⟩; have HB6 : Hid (Below w.heap.size w w6) := Bel.after (Hid.out (by assumption)) b6; have s0 := Bel.keeps b6 (p := ⟨w.heap.size, 0, none⟩) (v := .slice ba bn bcap) (by assumption); have s1 := Bel.keeps b6 (p := ⟨w.heap.size, 1, none⟩) (v := .int .i64 vals) (by assumption); have u0 := Bel.keeps b6 (p := ⟨w.heap.size + 1, 0, none⟩) (v := .int .i64 k) (by assumption); have u1 := Bel.keeps b6 (p := ⟨w.heap.size + 1, 1, none⟩) (v := .int .i64 a) (by assumption); have u2 := Bel.keeps b6 (p := ⟨w.heap.size + 1, 2, none⟩) (v := .int .i64 t) (by assumption); have u3 := Bel.keeps b6 (p := ⟨w.heap.size + 1, 3, none⟩) (v := .int .i64 o) (by assumption)))
  all_goals
    go_wp2
    go_ret
    exact ⟨by first | rfl | (simp; done), Hid.out (by assumption)⟩

theorem termOk_any (ba : Option Addr) (bn bcap : Nat) (vals k a t o : Int) (w : World) :
    Calls Tryd.prog 69 #[.agg #[.slice ba bn bcap, .int .i64 vals], .agg #[.int .i64 k, .int .i64 a, .int .i64 t, .int .i64 o]] w fun e w' => GivesBool w (termOkV (bn : Int) vals k a t o) e w' := by
  by_cases h1 : k = 1
  · subst h1
    cases hza : (a == 0)
    · rw [show termOkV (bn : Int) vals 1 a t o = false by simp [termOkV, hza]]
      exact termOk_jump_bad0 ba bn bcap vals a t o hza w
    · have ha : a = 0 := by simpa using hza
      subst ha
      cases hzo : (o == 0)
      · rw [show termOkV (bn : Int) vals 1 0 t o = false by simp [termOkV, hzo]]
        exact termOk_jump_bad1 ba bn bcap vals t o hzo w
      · have ho : o = 0 := by simpa using hzo
        subst ho
        rw [show termOkV (bn : Int) vals 1 0 t 0 = valIn (bn : Int) t by simp [termOkV]]
        exact termOk_jump_good ba bn bcap vals t w
  · by_cases h2 : k = 2
    · subst h2
      cases hv : valIn vals a
      · rw [show termOkV (bn : Int) vals 2 a t o = false by simp [termOkV, hv]]
        exact termOk_branch_bad ba bn bcap vals a t o hv w
      · rw [show termOkV (bn : Int) vals 2 a t o = (valIn (bn : Int) t && valIn (bn : Int) o) by simp [termOkV, hv]]
        exact termOk_branch_good ba bn bcap vals a t o hv w
    · by_cases h3 : k = 3
      · subst h3
        cases hv : valIn vals a
        · rw [show termOkV (bn : Int) vals 3 a t o = false by simp [termOkV, hv]]
          exact termOk_back_bad ba bn bcap vals a t o hv w
        · cases hzt : (t == 0)
          · rw [show termOkV (bn : Int) vals 3 a t o = false by simp [termOkV, hzt]]
            exact termOk_back_bad0 ba bn bcap vals a t o hv hzt w
          · have ht : t = 0 := by simpa using hzt
            subst ht
            cases hzo : (o == 0)
            · rw [show termOkV (bn : Int) vals 3 a 0 o = false by simp [termOkV, hzo]]
              exact termOk_back_bad1 ba bn bcap vals a o hv hzo w
            · have ho : o = 0 := by simpa using hzo
              subst ho
              rw [show termOkV (bn : Int) vals 3 a 0 0 = true by simp [termOkV, hv]]
              exact termOk_back_good ba bn bcap vals a hv w
      · have e1 : (k == 1) = false := by simpa using h1
        have e2 : (k == 2) = false := by simpa using h2
        have e3 : (k == 3) = false := by simpa using h3
        rw [show termOkV (bn : Int) vals k a t o = false by simp [termOkV, h1, h2, h3]]
        exact termOk_none ba bn bcap vals k a t o e1 e2 e3 w

end Go.Proofs.YthdioeeanodjiaaDoor
