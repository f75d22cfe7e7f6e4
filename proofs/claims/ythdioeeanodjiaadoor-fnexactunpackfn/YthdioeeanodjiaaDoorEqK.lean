/- Two programs that read alike are told alike. -/
import Derived.Test.YthdioeeanodjiaaDoorToK
import Derived.Handy
import Derived.Deep.RegionWith
import Derived.BigRegion
import Derived.Deep.QuietTactic
import Derived.BigQuiet
namespace Go.Proofs.YthdioeeanodjiaaDoor
open Go.ChangeShapes Go.WideShapes Go.ChangeAt Go.RowKit
set_option linter.unusedVariables false

/-- True is returned; the world only grows. -/
def GivesTrue (w : World) (e : Ending) (w' : World) : Prop := e = .returned (.bool true) ∧ Below w.heap.size w w'

theorem eqArm_same (a b : Int) (w : World) :
    Calls Tryd.prog 100 #[.agg #[.int .i64 a, .int .i64 b], .agg #[.int .i64 a, .int .i64 b]] w fun e w' => GivesTrue w e w' := by
  have na : (a != a) = false := by simp
  have nb : (b != b) = false := by simp
  go_enter Tryd.func100, Tryd.ntmps100
  go_wp2
  go_ret
  exact ⟨rfl, by repeat (first | exact Below.refl _ _ | apply Below.drew | refine Below.alloc ?_ (by simp <;> omega) _ | refine Below.setCell ?_ (by simp <;> omega) _)⟩

theorem eqIns_same (op d a b n : Int) (w : World) :
    Calls Tryd.prog 96 #[.agg #[.int .i64 op, .int .i64 d, .int .i64 a, .int .i64 b, .int .i64 n], .agg #[.int .i64 op, .int .i64 d, .int .i64 a, .int .i64 b, .int .i64 n]] w fun e w' => GivesTrue w e w' := by
  have nop : (op != op) = false := by simp
  have nd : (d != d) = false := by simp
  have na : (a != a) = false := by simp
  have nb : (b != b) = false := by simp
  have nn : (n != n) = false := by simp
  go_enter Tryd.func96, Tryd.ntmps96
  go_wp2
  go_ret
  exact ⟨rfl, by repeat (first | exact Below.refl _ _ | apply Below.drew | refine Below.alloc ?_ (by simp <;> omega) _ | refine Below.setCell ?_ (by simp <;> omega) _)⟩

theorem eqTerm_same (k a t o : Int) (w : World) :
    Calls Tryd.prog 83 #[.agg #[.int .i64 k, .int .i64 a, .int .i64 t, .int .i64 o], .agg #[.int .i64 k, .int .i64 a, .int .i64 t, .int .i64 o]] w fun e w' => GivesTrue w e w' := by
  have nk : (k != k) = false := by simp
  have na : (a != a) = false := by simp
  have nt : (t != t) = false := by simp
  have no : (o != o) = false := by simp
  go_enter Tryd.func83, Tryd.ntmps83
  go_wp2
  go_ret
  exact ⟨rfl, by repeat (first | exact Below.refl _ _ | apply Below.drew | refine Below.alloc ?_ (by simp <;> omega) _ | refine Below.setCell ?_ (by simp <;> omega) _)⟩

set_option maxHeartbeats 4000000 in
theorem eqArmS_same (va vb : Value) (l : List ArmD) (w : World) (ha : ListAt 0 2 ArmAt w va l) (hb : ListAt 0 2 ArmAt w vb l) :
    Calls Tryd.prog 99 #[va, vb] w fun e w' => GivesTrue w e w' := by
  obtain ⟨aa, ca, rfl, hm, hca⟩ := ha
  obtain ⟨ab, cb, rfl, _, hcb⟩ := hb
  obtain ⟨n, HN⟩ : ∃ n, Hid (l.length = n) := ⟨_, rfl⟩
  rw [HN.out] at hm hca hcb ⊢
  have HA : Hid (0 < n → ∃ b off, aa = some ⟨b, off, none⟩ ∧ 0 ≤ b ∧ ∀ i x, l[i]? = some x → ArmAt w b (off + i * 2) x) := hca
  have HB : Hid (0 < n → ∃ b off, ab = some ⟨b, off, none⟩ ∧ 0 ≤ b ∧ ∀ i x, l[i]? = some x → ArmAt w b (off + i * 2) x) := hcb
  clear hca hcb
  have hne : ((n : Int) != (n : Int)) = false := by simp
  go_enter Tryd.func99, Tryd.ntmps99
  go_wp2
  go_loopw [5] (fun i wr => ∃ k : Nat, k ≤ n ∧ i = .int .i64 k ∧ Below w.heap.size w wr) (fun i _ => n - (intOf i).toNat)
  case atStart => exact ⟨0, Nat.zero_le _, rfl, Below.refl _ _⟩
  case round =>
    obtain ⟨k, hk, rfl, hb3⟩ := hrel
    have H1 : Hid (Below w.heap.size w wr) := hb3
    clear hb3
    by_cases hlt : (k : Int) < (n : Int)
    · obtain ⟨b, off, rfl, _, hc1⟩ := HA.out (by omega)
      obtain ⟨b', off', rfl, _, hc2⟩ := HB.out (by omega)
      have hkl : k < l.length := by have := HN.out; omega
      obtain ⟨x, HX⟩ : ∃ x, Hid (l[k]? = some x) := ⟨l[k], List.getElem?_eq_getElem hkl⟩
      obtain ⟨c0, c1⟩ := (hc1 k x HX.out).keep (Keeps.of_below H1.out 0) (Nat.zero_le _)
      obtain ⟨d0, d1⟩ := (hc2 k x HX.out).keep (Keeps.of_below H1.out 0) (Nat.zero_le _)
      clear hc1 hc2 hkl
      obtain ⟨x0, x1⟩ := x
      go_wp2
      go_region_with (go_at_call 100; refine (eqArm_same x0 x1 _).mono ?_; rintro e w1 ⟨rfl, b1⟩)
      all_goals
        go_wp2
        go_roundw
        case rel => exact ⟨k + 1, by omega, by go_num, by first | exact Bel.after H1.out.drew (by assumption) | exact Bel.after H1.out (by assumption)⟩
        case measure => simp [intOf]; omega
    · go_wp2
      go_ret
      exact ⟨rfl, H1.out⟩

set_option maxHeartbeats 4000000 in
theorem eqInsS_same (va vb : Value) (l : List InsD) (w : World) (ha : ListAt 0 5 InsAt w va l) (hb : ListAt 0 5 InsAt w vb l) :
    Calls Tryd.prog 82 #[va, vb] w fun e w' => GivesTrue w e w' := by
  obtain ⟨aa, ca, rfl, hm, hca⟩ := ha
  obtain ⟨ab, cb, rfl, _, hcb⟩ := hb
  obtain ⟨n, HN⟩ : ∃ n, Hid (l.length = n) := ⟨_, rfl⟩
  rw [HN.out] at hm hca hcb ⊢
  have HA : Hid (0 < n → ∃ b off, aa = some ⟨b, off, none⟩ ∧ 0 ≤ b ∧ ∀ i x, l[i]? = some x → InsAt w b (off + i * 5) x) := hca
  have HB : Hid (0 < n → ∃ b off, ab = some ⟨b, off, none⟩ ∧ 0 ≤ b ∧ ∀ i x, l[i]? = some x → InsAt w b (off + i * 5) x) := hcb
  clear hca hcb
  have hne : ((n : Int) != (n : Int)) = false := by simp
  go_enter Tryd.func82, Tryd.ntmps82
  go_wp2
  go_loopw [5] (fun i wr => ∃ k : Nat, k ≤ n ∧ i = .int .i64 k ∧ Below w.heap.size w wr) (fun i _ => n - (intOf i).toNat)
  case atStart => exact ⟨0, Nat.zero_le _, rfl, Below.refl _ _⟩
  case round =>
    obtain ⟨k, hk, rfl, hb3⟩ := hrel
    have H1 : Hid (Below w.heap.size w wr) := hb3
    clear hb3
    by_cases hlt : (k : Int) < (n : Int)
    · obtain ⟨b, off, rfl, _, hc1⟩ := HA.out (by omega)
      obtain ⟨b', off', rfl, _, hc2⟩ := HB.out (by omega)
      have hkl : k < l.length := by have := HN.out; omega
      obtain ⟨x, HX⟩ : ∃ x, Hid (l[k]? = some x) := ⟨l[k], List.getElem?_eq_getElem hkl⟩
      obtain ⟨c0, c1, c2, c3, c4⟩ := (hc1 k x HX.out).keep (Keeps.of_below H1.out 0) (Nat.zero_le _)
      obtain ⟨d0, d1, d2, d3, d4⟩ := (hc2 k x HX.out).keep (Keeps.of_below H1.out 0) (Nat.zero_le _)
      clear hc1 hc2 hkl
      obtain ⟨x0, x1, x2, x3, x4⟩ := x
      go_wp2
      go_region_with (go_at_call 96; refine (eqIns_same x0 x1 x2 x3 x4 _).mono ?_; rintro e w1 ⟨rfl, b1⟩)
      all_goals
        go_wp2
        go_roundw
        case rel => exact ⟨k + 1, by omega, by go_num, by first | exact Bel.after H1.out.drew (by assumption) | exact Bel.after H1.out (by assumption)⟩
        case measure => simp [intOf]; omega
    · go_wp2
      go_ret
      exact ⟨rfl, H1.out⟩

set_option maxHeartbeats 1000000 in
theorem eqPhi_same (d : Int) (va vb : Value) (l : List ArmD) (w : World) (ha : ListAt 0 2 ArmAt w va l) (hb : ListAt 0 2 ArmAt w vb l) :
    Calls Tryd.prog 95 #[.agg #[.int .i64 d, va], .agg #[.int .i64 d, vb]] w fun e w' => GivesTrue w e w' := by
  have HA : Hid (ListAt 0 2 ArmAt w va l) := ha
  have HB : Hid (ListAt 0 2 ArmAt w vb l) := hb
  obtain ⟨aa, ca, hva, _⟩ := ha
  obtain ⟨ab, cb, hvb, _⟩ := hb
  obtain ⟨n, HN⟩ : ∃ n, Hid (l.length = n) := ⟨_, rfl⟩
  rw [HN.out] at hva hvb
  subst hva hvb
  have hne : (d != d) = false := by simp
  go_enter Tryd.func95, Tryd.ntmps95
  go_wp2_with fail
  refine (eqArmS_same (.slice aa n ca) (.slice ab n cb) l _ (arms_keep HA.out (Keeps.of_below (by repeat (first | exact Below.refl _ _ | apply Below.drew | refine Below.alloc ?_ (by simp <;> omega) _ | refine Below.setCell ?_ (by simp <;> omega) _)) 0)) (arms_keep HB.out (Keeps.of_below (by repeat (first | exact Below.refl _ _ | apply Below.drew | refine Below.alloc ?_ (by simp <;> omega) _ | refine Below.setCell ?_ (by simp <;> omega) _)) 0))).mono ?_
  rintro e w1 ⟨rfl, b1⟩
  have HB1 : Hid (Below w.heap.size w w1) := Bel.after (by repeat (first | exact Below.refl _ _ | apply Below.drew | refine Below.alloc ?_ (by simp <;> omega) _ | refine Below.setCell ?_ (by simp <;> omega) _)) b1
  clear b1
  go_wp2
  go_ret
  exact ⟨rfl, HB1.out⟩

set_option maxHeartbeats 4000000 in
theorem eqPhiS_same (va vb : Value) (l : List PhiD) (w : World) (ha : ListAt 0 2 (PhiAt 0) w va l) (hb : ListAt 0 2 (PhiAt 0) w vb l) :
    Calls Tryd.prog 81 #[va, vb] w fun e w' => GivesTrue w e w' := by
  obtain ⟨aa, ca, rfl, hm, hca⟩ := ha
  obtain ⟨ab, cb, rfl, _, hcb⟩ := hb
  obtain ⟨n, HN⟩ : ∃ n, Hid (l.length = n) := ⟨_, rfl⟩
  rw [HN.out] at hm hca hcb ⊢
  have HA : Hid (0 < n → ∃ b off, aa = some ⟨b, off, none⟩ ∧ 0 ≤ b ∧ ∀ i x, l[i]? = some x → (PhiAt 0) w b (off + i * 2) x) := hca
  have HB : Hid (0 < n → ∃ b off, ab = some ⟨b, off, none⟩ ∧ 0 ≤ b ∧ ∀ i x, l[i]? = some x → (PhiAt 0) w b (off + i * 2) x) := hcb
  clear hca hcb
  have hne : ((n : Int) != (n : Int)) = false := by simp
  go_enter Tryd.func81, Tryd.ntmps81
  go_wp2
  go_loopw [5] (fun i wr => ∃ k : Nat, k ≤ n ∧ i = .int .i64 k ∧ Below w.heap.size w wr) (fun i _ => n - (intOf i).toNat)
  case atStart => exact ⟨0, Nat.zero_le _, rfl, Below.refl _ _⟩
  case round =>
    obtain ⟨k, hk, rfl, hb3⟩ := hrel
    have H1 : Hid (Below w.heap.size w wr) := hb3
    clear hb3
    by_cases hlt : (k : Int) < (n : Int)
    · obtain ⟨b, off, rfl, _, hc1⟩ := HA.out (by omega)
      obtain ⟨b', off', rfl, _, hc2⟩ := HB.out (by omega)
      have hkl : k < l.length := by have := HN.out; omega
      obtain ⟨x, HX⟩ : ∃ x, Hid (l[k]? = some x) := ⟨l[k], List.getElem?_eq_getElem hkl⟩
      obtain ⟨c0, sv, c1, hsv⟩ := (hc1 k x HX.out).keep (Keeps.of_below H1.out 0) (Nat.zero_le _)
      obtain ⟨d0, sv2, d1, hsv2⟩ := (hc2 k x HX.out).keep (Keeps.of_below H1.out 0) (Nat.zero_le _)
      clear hc1 hc2 hkl
      obtain ⟨x0, x1⟩ := x
      have HSV : Hid (ListAt 0 2 ArmAt wr sv x1) := hsv
      have HSV2 : Hid (ListAt 0 2 ArmAt wr sv2 x1) := hsv2
      clear hsv hsv2
      go_wp2
      go_region_with (go_at_call 95; refine (eqPhi_same x0 sv sv2 x1 _ (arms_keep HSV.out (Keeps.of_below (Below.refl _ _).drew 0)) (arms_keep HSV2.out (Keeps.of_below (Below.refl _ _).drew 0))).mono ?_; rintro e w1 ⟨rfl, b1⟩)
      all_goals
        go_wp2
        go_roundw
        case rel => exact ⟨k + 1, by omega, by go_num, by first | exact Bel.after H1.out.drew (by assumption) | exact Bel.after H1.out (by assumption)⟩
        case measure => simp [intOf]; omega
    · go_wp2
      go_ret
      exact ⟨rfl, H1.out⟩

set_option maxHeartbeats 1000000 in
theorem eqBlock_same (pa pb la lb : Value) (ps : List PhiD) (is : List InsD) (k a t o : Int) (w : World) (hpa : ListAt 0 2 (PhiAt 0) w pa ps) (hpb : ListAt 0 2 (PhiAt 0) w pb ps) (hla : ListAt 0 5 InsAt w la is) (hlb : ListAt 0 5 InsAt w lb is) :
    Calls Tryd.prog 62 #[.agg #[pa, la, .int .i64 k, .int .i64 a, .int .i64 t, .int .i64 o], .agg #[pb, lb, .int .i64 k, .int .i64 a, .int .i64 t, .int .i64 o]] w fun e w' => GivesTrue w e w' := by
  have HPA : Hid (ListAt 0 2 (PhiAt 0) w pa ps) := hpa
  have HPB : Hid (ListAt 0 2 (PhiAt 0) w pb ps) := hpb
  have HLA : Hid (ListAt 0 5 InsAt w la is) := hla
  have HLB : Hid (ListAt 0 5 InsAt w lb is) := hlb
  obtain ⟨a1, c1, hv1, _⟩ := hpa
  obtain ⟨a2, c2, hv2, _⟩ := hpb
  obtain ⟨a3, c3, hv3, _⟩ := hla
  obtain ⟨a4, c4, hv4, _⟩ := hlb
  obtain ⟨n, HN⟩ : ∃ n, Hid (ps.length = n) := ⟨_, rfl⟩
  obtain ⟨m, HM⟩ : ∃ m, Hid (is.length = m) := ⟨_, rfl⟩
  rw [HN.out] at hv1 hv2
  rw [HM.out] at hv3 hv4
  subst hv1 hv2 hv3 hv4
  go_enter Tryd.func62, Tryd.ntmps62
  go_wp2_with fail
  refine (eqPhiS_same (.slice a1 n c1) (.slice a2 n c2) ps _ (phis_keep HPA.out (Keeps.of_below (by repeat (first | exact Below.refl _ _ | apply Below.drew | refine Below.alloc ?_ (by simp <;> omega) _ | refine Below.setCell ?_ (by simp <;> omega) _)) 0)) (phis_keep HPB.out (Keeps.of_below (by repeat (first | exact Below.refl _ _ | apply Below.drew | refine Below.alloc ?_ (by simp <;> omega) _ | refine Below.setCell ?_ (by simp <;> omega) _)) 0))).mono ?_
  rintro e w1 ⟨rfl, b1⟩
  have HB1 : Hid (Below w.heap.size w w1) := Bel.after (by repeat (first | exact Below.refl _ _ | apply Below.drew | refine Below.alloc ?_ (by simp <;> omega) _ | refine Below.setCell ?_ (by simp <;> omega) _)) b1
  have x1 := Bel.keeps b1 (p := ⟨w.heap.size, 1, none⟩) (v := .slice a3 m c3) (by simp [go_sem])
  have x2 := Bel.keeps b1 (p := ⟨w.heap.size, 2, none⟩) (v := .int .i64 k) (by simp [go_sem])
  have x3 := Bel.keeps b1 (p := ⟨w.heap.size, 3, none⟩) (v := .int .i64 a) (by simp [go_sem])
  have x4 := Bel.keeps b1 (p := ⟨w.heap.size, 4, none⟩) (v := .int .i64 t) (by simp [go_sem])
  have x5 := Bel.keeps b1 (p := ⟨w.heap.size, 5, none⟩) (v := .int .i64 o) (by simp [go_sem])
  have y1 := Bel.keeps b1 (p := ⟨w.heap.size + 1, 1, none⟩) (v := .slice a4 m c4) (by simp [go_sem])
  have y2 := Bel.keeps b1 (p := ⟨w.heap.size + 1, 2, none⟩) (v := .int .i64 k) (by simp [go_sem])
  have y3 := Bel.keeps b1 (p := ⟨w.heap.size + 1, 3, none⟩) (v := .int .i64 a) (by simp [go_sem])
  have y4 := Bel.keeps b1 (p := ⟨w.heap.size + 1, 4, none⟩) (v := .int .i64 t) (by simp [go_sem])
  have y5 := Bel.keeps b1 (p := ⟨w.heap.size + 1, 5, none⟩) (v := .int .i64 o) (by simp [go_sem])
  clear b1
  go_wp2_with fail
  refine (eqInsS_same (.slice a3 m c3) (.slice a4 m c4) is _ (places_keep HLA.out (Keeps.of_below HB1.out 0)) (places_keep HLB.out (Keeps.of_below HB1.out 0))).mono ?_
  rintro e w2 ⟨rfl, b2⟩
  have HB2 : Hid (Below w.heap.size w w2) := Bel.after HB1.out b2
  replace x2 := Bel.keeps b2 x2
  replace x3 := Bel.keeps b2 x3
  replace x4 := Bel.keeps b2 x4
  replace x5 := Bel.keeps b2 x5
  replace y2 := Bel.keeps b2 y2
  replace y3 := Bel.keeps b2 y3
  replace y4 := Bel.keeps b2 y4
  replace y5 := Bel.keeps b2 y5
  clear b2 x1 y1
  go_wp2_with fail
  refine (eqTerm_same k a t o _).mono ?_
  rintro e w3 ⟨rfl, b3⟩
  have HB3 : Hid (Below w.heap.size w w3) := Bel.after HB2.out b3
  clear b3
  go_wp2
  go_ret
  exact ⟨rfl, HB3.out⟩

set_option maxHeartbeats 4000000 in
theorem eqBlockS_same (va vb : Value) (l : List BlockD) (w : World) (ha : ListAt 0 6 (BlockAt 0) w va l) (hb : ListAt 0 6 (BlockAt 0) w vb l) :
    Calls Tryd.prog 37 #[va, vb] w fun e w' => GivesTrue w e w' := by
  obtain ⟨aa, ca, rfl, hm, hca⟩ := ha
  obtain ⟨ab, cb, rfl, _, hcb⟩ := hb
  obtain ⟨n, HN⟩ : ∃ n, Hid (l.length = n) := ⟨_, rfl⟩
  rw [HN.out] at hm hca hcb ⊢
  have HA : Hid (0 < n → ∃ b off, aa = some ⟨b, off, none⟩ ∧ 0 ≤ b ∧ ∀ i x, l[i]? = some x → (BlockAt 0) w b (off + i * 6) x) := hca
  have HB : Hid (0 < n → ∃ b off, ab = some ⟨b, off, none⟩ ∧ 0 ≤ b ∧ ∀ i x, l[i]? = some x → (BlockAt 0) w b (off + i * 6) x) := hcb
  clear hca hcb
  have hne : ((n : Int) != (n : Int)) = false := by simp
  go_enter Tryd.func37, Tryd.ntmps37
  go_wp2
  go_loopw [5] (fun i wr => ∃ k : Nat, k ≤ n ∧ i = .int .i64 k ∧ Below w.heap.size w wr) (fun i _ => n - (intOf i).toNat)
  case atStart => exact ⟨0, Nat.zero_le _, rfl, Below.refl _ _⟩
  case round =>
    obtain ⟨k, hk, rfl, hb3⟩ := hrel
    have H1 : Hid (Below w.heap.size w wr) := hb3
    clear hb3
    by_cases hlt : (k : Int) < (n : Int)
    · obtain ⟨b, off, rfl, _, hc1⟩ := HA.out (by omega)
      obtain ⟨b', off', rfl, _, hc2⟩ := HB.out (by omega)
      have hkl : k < l.length := by have := HN.out; omega
      obtain ⟨x, HX⟩ : ∃ x, Hid (l[k]? = some x) := ⟨l[k], List.getElem?_eq_getElem hkl⟩
      obtain ⟨pv, lv, c0, c1, c2, c3, c4, c5, hpv, hlv⟩ := (hc1 k x HX.out).keep (Keeps.of_below H1.out 0) (Nat.zero_le _)
      obtain ⟨pv2, lv2, d0, d1, d2, d3, d4, d5, hpv2, hlv2⟩ := (hc2 k x HX.out).keep (Keeps.of_below H1.out 0) (Nat.zero_le _)
      clear hc1 hc2 hkl
      obtain ⟨x0, x1, ⟨x2, x3, x4, x5⟩⟩ := x
      have HPV : Hid (ListAt 0 2 (PhiAt 0) wr pv x0) := hpv
      have HLV : Hid (ListAt 0 5 InsAt wr lv x1) := hlv
      have HPV2 : Hid (ListAt 0 2 (PhiAt 0) wr pv2 x0) := hpv2
      have HLV2 : Hid (ListAt 0 5 InsAt wr lv2 x1) := hlv2
      clear hpv hlv hpv2 hlv2
      go_wp2
      go_region_with (go_at_call 62; refine (eqBlock_same pv pv2 lv lv2 x0 x1 x2 x3 x4 x5 _ (phis_keep HPV.out (Keeps.of_below (Below.refl _ _).drew 0)) (phis_keep HPV2.out (Keeps.of_below (Below.refl _ _).drew 0)) (places_keep HLV.out (Keeps.of_below (Below.refl _ _).drew 0)) (places_keep HLV2.out (Keeps.of_below (Below.refl _ _).drew 0))).mono ?_; rintro e w1 ⟨rfl, b1⟩)
      all_goals
        go_wp2
        go_roundw
        case rel => exact ⟨k + 1, by omega, by go_num, by first | exact Bel.after H1.out.drew (by assumption) | exact Bel.after H1.out (by assumption)⟩
        case measure => simp [intOf]; omega
    · go_wp2
      go_ret
      exact ⟨rfl, H1.out⟩

set_option maxHeartbeats 1000000 in
theorem eqFn_same (va vb : Value) (F : FnD) (w : World) (ha : FnAt w va F) (hb : FnAt w vb F) :
    Calls Tryd.prog 14 #[va, vb] w fun e w' => GivesTrue w e w' := by
  obtain ⟨ba, rfl, ha⟩ := ha
  obtain ⟨bb, rfl, hb⟩ := hb
  have HA : Hid (ListAt 0 6 (BlockAt 0) w ba F.blocks) := ha
  have HB : Hid (ListAt 0 6 (BlockAt 0) w bb F.blocks) := hb
  obtain ⟨a1, c1, hv1, _⟩ := ha
  obtain ⟨a2, c2, hv2, _⟩ := hb
  obtain ⟨n, HN⟩ : ∃ n, Hid (F.blocks.length = n) := ⟨_, rfl⟩
  obtain ⟨x, HX⟩ : ∃ x, Hid (F.values = x) := ⟨_, rfl⟩
  rw [HN.out] at hv1 hv2
  subst hv1 hv2
  rw [HX.out]
  have hne : (x != x) = false := by simp
  go_enter Tryd.func14, Tryd.ntmps14
  go_wp2_with fail
  refine (eqBlockS_same (.slice a1 n c1) (.slice a2 n c2) F.blocks _ (blocks_keep HA.out (Keeps.of_below (by repeat (first | exact Below.refl _ _ | apply Below.drew | refine Below.alloc ?_ (by simp <;> omega) _ | refine Below.setCell ?_ (by simp <;> omega) _)) 0)) (blocks_keep HB.out (Keeps.of_below (by repeat (first | exact Below.refl _ _ | apply Below.drew | refine Below.alloc ?_ (by simp <;> omega) _ | refine Below.setCell ?_ (by simp <;> omega) _)) 0))).mono ?_
  rintro e w1 ⟨rfl, b1⟩
  have HB1 : Hid (Below w.heap.size w w1) := Bel.after (by repeat (first | exact Below.refl _ _ | apply Below.drew | refine Below.alloc ?_ (by simp <;> omega) _ | refine Below.setCell ?_ (by simp <;> omega) _)) b1
  have x1 := Bel.keeps b1 (p := ⟨w.heap.size, 1, none⟩) (v := .int .i64 x) (by simp [go_sem])
  have y1 := Bel.keeps b1 (p := ⟨w.heap.size + 1, 1, none⟩) (v := .int .i64 x) (by simp [go_sem])
  clear b1
  go_wp2
  go_ret
  exact ⟨rfl, HB1.out⟩

end Go.Proofs.YthdioeeanodjiaaDoor
