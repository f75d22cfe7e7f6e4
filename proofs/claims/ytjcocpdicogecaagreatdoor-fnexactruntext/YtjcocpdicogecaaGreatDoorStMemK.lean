/- Lists of steps: copied from the laws' own, measured, compared, marked. -/
import Derived.Test.YtjcocpdicogecaaGreatDoorKTo
namespace Go.Proofs.YtjcocpdicogecaaGreatDoor
open Go.ChangeShapes Go.WideShapes Go.ChangeAt Go.RowKit
set_option linter.unusedVariables false

theorem make_steps (n : Nat) (hn : n ≤ 1048576) (w : World) :
    (Instr.makeSlice 22 (.int .i64 (n : Int)) (.int .i64 (n : Int))).run Tryz.prog w = .ok (.slice (some ⟨w.heap.size, 0, none⟩) n n) (w.alloc (.cells (madeCells #[.int .i64 0, .int .i64 0, .int .i64 0, .int .i64 0, .int .i64 0] (n * 5)) 36)) :=
  make_of (z := .agg #[.int .i64 0, .int .i64 0, .int .i64 0, .int .i64 0, .int .i64 0]) (size := 5) (bytes := 40) Tryz.underlying22 (by kernel_rfl) n (by omega) (by omega) w

theorem eqStep_same (op d a b n : Int) (w : World) :
    Calls Tryz.prog 21 #[.agg #[.int .i64 op, .int .i64 d, .int .i64 a, .int .i64 b, .int .i64 n], .agg #[.int .i64 op, .int .i64 d, .int .i64 a, .int .i64 b, .int .i64 n]] w fun e w' => GivesTrue w e w' := by
  have nop : (op != op) = false := by simp
  have nd : (d != d) = false := by simp
  have na : (a != a) = false := by simp
  have nb : (b != b) = false := by simp
  have nn : (n != n) = false := by simp
  go_enter Tryz.func21, Tryz.ntmps21
  go_wp2
  go_ret
  exact ⟨rfl, by repeat (first | exact Below.refl _ _ | apply Below.drew | refine Below.alloc ?_ (by simp <;> omega) _ | refine Below.setCell ?_ (by simp <;> omega) _)⟩

set_option maxHeartbeats 4000000 in
theorem eqStepS_same (va vb : Value) (l : List InsD) (w : World) (ha : ListAt 0 5 InsAt w va l) (hb : ListAt 0 5 InsAt w vb l) :
    Calls Tryz.prog 7 #[va, vb] w fun e w' => GivesTrue w e w' := by
  obtain ⟨aa, ca, rfl, hm, hca⟩ := ha
  obtain ⟨ab, cb, rfl, _, hcb⟩ := hb
  obtain ⟨n, HN⟩ : ∃ n, Hid (l.length = n) := ⟨_, rfl⟩
  rw [HN.out] at hm hca hcb ⊢
  have HA : Hid (0 < n → ∃ b off, aa = some ⟨b, off, none⟩ ∧ 0 ≤ b ∧ ∀ i x, l[i]? = some x → InsAt w b (off + i * 5) x) := hca
  have HB : Hid (0 < n → ∃ b off, ab = some ⟨b, off, none⟩ ∧ 0 ≤ b ∧ ∀ i x, l[i]? = some x → InsAt w b (off + i * 5) x) := hcb
  clear hca hcb
  have hne : ((n : Int) != (n : Int)) = false := by simp
  go_enter Tryz.func7, Tryz.ntmps7
  go_wp2
  go_loopw [5] (fun i wr => ∃ k : Nat, k ≤ n ∧ i = .int .i64 k ∧ Below w.heap.size w wr) (fun i _ => n - (intOf i).toNat)
  case atStart => exact ⟨0, Nat.zero_le _, rfl, Below.refl _ _⟩
  case round =>
    obtain ⟨k, hk, rfl, hb3⟩ := hrel
    have H1 : Hid (Below w.heap.size w wr) := hb3
    clear hb3
    by_cases hlt : (k : Int) < (n : Int)
    · obtain ⟨b, off, rfl, _, hc1⟩ := HA.out (by omega)
      obtain ⟨b', off', rfl, _, hc2⟩ := HB.out (by omega)
      have hkl : k < l.length := by have := HN.out; omega
      obtain ⟨x, HX⟩ : ∃ x, Hid (l[k]? = some x) := ⟨l[k], List.getElem?_eq_getElem hkl⟩
      obtain ⟨c0, c1, c2, c3, c4⟩ := (hc1 k x HX.out).keep (Keeps.of_below H1.out 0) (Nat.zero_le _)
      obtain ⟨d0, d1, d2, d3, d4⟩ := (hc2 k x HX.out).keep (Keeps.of_below H1.out 0) (Nat.zero_le _)
      clear hc1 hc2 hkl
      obtain ⟨x0, x1, x2, x3, x4⟩ := x
      go_wp2
      go_region_with (go_at_call 21; refine (eqStep_same x0 x1 x2 x3 x4 _).mono ?_; rintro e w1 ⟨rfl, b1⟩)
      all_goals
        go_wp2
        go_roundw
        case rel => exact ⟨k + 1, by omega, by go_num, by first | exact Bel.after H1.out.drew (by assumption) | exact Bel.after H1.out (by assumption)⟩
        case measure => simp [intOf]; omega
    · go_wp2
      go_ret
      exact ⟨rfl, H1.out⟩

set_option maxHeartbeats 2000000 in
theorem markStepS_any (lo hi : Nat) (v : Value) (n : Nat) (q : Int) (w : World) (hm : MarkAt lo hi 5 InsM w v n) (hz : Thaw lo hi w) (hn : n ≤ 1048576) (hq : 0 ≤ q) (hq2 : q ≤ 4611686018427387904) :
    Calls Tryz.prog 8 #[v, .int .i64 q] w fun e w' => GivesMark lo hi q 5242880 w e w' := by
  obtain ⟨a, cap, rfl, hc⟩ := hm
  have HC : Hid (0 < n → ∃ b off, a = some ⟨b, off, none⟩ ∧ lo ≤ b ∧ b < hi ∧ ∀ i, i < n → InsM w b (off + i * 5)) := hc
  have HZ : Hid (Thaw lo hi w) := hz
  clear hc hz
  go_enter Tryz.func8, Tryz.ntmps8
  go_wp2
  go_loopw [1, 5] (fun kv i wr => ∃ (k : Nat) (z : Int), k ≤ n ∧ i = .int .i64 k ∧ kv = .int .i64 z ∧ q ≤ z ∧ z ≤ q + k * 5 ∧ Turns lo hi w wr) (fun _ i _ => n - (intOf i).toNat)
  case atStart => exact ⟨0, q, Nat.zero_le _, rfl, rfl, Int.le_refl _, by omega, Turns.refl _ _ _⟩
  case round =>
    obtain ⟨k, z, hk, rfl, rfl, hz1, hz2, ht⟩ := hrel
    have HT : Hid (Turns lo hi w wr) := ht
    clear ht
    by_cases hlt : (k : Int) < (n : Int)
    · obtain ⟨b, off, rfl, hb1, hb2, hc1⟩ := HC.out (by omega)
      obtain ⟨⟨z0, c0⟩, ⟨z1, c1⟩, ⟨z2, c2⟩, ⟨z3, c3⟩, ⟨z4, c4⟩⟩ := (hc1 k (by omega)).turn HT.out
      clear hc1
      have f0 := (HZ.out.turn HT.out) ⟨b, off + k * 5, none⟩ hb1 hb2
      have f1 := (HZ.out.turn HT.out) ⟨b, off + k * 5 + 1, none⟩ hb1 hb2
      have f2 := (HZ.out.turn HT.out) ⟨b, off + k * 5 + 2, none⟩ hb1 hb2
      have f3 := (HZ.out.turn HT.out) ⟨b, off + k * 5 + 3, none⟩ hb1 hb2
      have f4 := (HZ.out.turn HT.out) ⟨b, off + k * 5 + 4, none⟩ hb1 hb2
      go_wp2
      go_roundw
      case rel =>
        exact ⟨k + 1, z + 5, by omega, by go_num, by go_num, by omega, by omega, (Turns.put (Turns.put (Turns.put (Turns.put (Turns.put HT.out c0 hb1 hb2 _) (cell_aside c1 (by omega)) hb1 hb2 _) (cell_aside (cell_aside c2 (by omega)) (by omega)) hb1 hb2 _) (cell_aside (cell_aside (cell_aside c3 (by omega)) (by omega)) (by omega)) hb1 hb2 _) (cell_aside (cell_aside (cell_aside (cell_aside c4 (by omega)) (by omega)) (by omega)) (by omega)) hb1 hb2 _)⟩
      case measure => simp [intOf]; omega
    · go_wp2
      go_ret
      exact ⟨z, rfl, hz1, by omega, HT.out⟩

section
variable {H : Type} {enc : TypeId × Value → H} {w : World} {base : Nat} {spare : Nat → Bool} {held : Bool}

end

/-- A slice that reads as the steps l. -/
def StepsAt (w : World) (v : Value) (l : List InsD) : Prop := ListAt 0 5 InsAt w v l

end Go.Proofs.YtjcocpdicogecaaGreatDoor
