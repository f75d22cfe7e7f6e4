/- Lists of steps: copied from the laws' own, measured, compared, marked. -/
import Derived.Test.YtebcocehdjoafaaDoorMark2
import Derived.Test.YtebcocehdjoafaaDoorSz
import Derived.Test.YtebcocehdjoafaaDoorEq
namespace Go.Proofs.YtebcocehdjoafaaDoor
open Go.ChangeShapes Go.WideShapes Go.ChangeAt Go.RowKit
set_option linter.unusedVariables false

theorem toStep_fz (op d a b n : Int) (w : World) :
    Calls Tryd.prog 12 #[.agg #[.int .i64 op, .int .i64 d, .int .i64 a, .int .i64 b, .int .i64 n]] w fun e w' => e = .returned (.agg #[.int .i64 op, .int .i64 d, .int .i64 a, .int .i64 b, .int .i64 n]) ∧ Below w.heap.size w w' ∧ FZ w w' := by
  go_enter Tryd.func12, Tryd.ntmps12
  go_wp2
  refine bodyPost_ret (v := .agg #[.int .i64 op, .int .i64 d, .int .i64 a, .int .i64 b, .int .i64 n]) (by simp [results, Tryd.results12, go_sem]) rfl ?_
  exact ⟨rfl, by repeat (first | exact Below.refl _ _ | apply Below.drew | refine Below.alloc ?_ (by simp <;> omega) _ | refine Below.setCell ?_ (by simp <;> omega) _), by repeat (first | exact FZ.refl _ | refine FZ.alloc ?_ _ _ | refine FZ.put ?_ _ _)⟩

theorem make_steps (n : Nat) (hn : n ≤ 1048576) (w : World) :
    (Instr.makeSlice 35 (.int .i64 (n : Int)) (.int .i64 (n : Int))).run Tryd.prog w = .ok (.slice (some ⟨w.heap.size, 0, none⟩) n n) (w.alloc (.cells (madeCells #[.int .i64 0, .int .i64 0, .int .i64 0, .int .i64 0, .int .i64 0] (n * 5)) 25)) :=
  make_of (z := .agg #[.int .i64 0, .int .i64 0, .int .i64 0, .int .i64 0, .int .i64 0]) (size := 5) (bytes := 40) Tryd.underlying35 (by kernel_rfl) n (by omega) (by omega) w

set_option maxHeartbeats 2000000 in
theorem toStepS_any (v : Value) (l : List InsD) (w : World) (ha : ListAt 0 5 InsAt w v l) (hs : l.length ≤ 1048576) :
    Calls Tryd.prog 15 #[v] w fun e w' => GivesList w 5 InsAt l e w' := by
  obtain ⟨a, cap, rfl, hm, hc⟩ := ha
  obtain ⟨n, HN⟩ : ∃ n, Hid (l.length = n) := ⟨_, rfl⟩
  rw [HN.out] at hm hc hs ⊢
  have HC : Hid (0 < n → ∃ b off, a = some ⟨b, off, none⟩ ∧ 0 ≤ b ∧ ∀ i x, l[i]? = some x → InsAt w b (off + i * 5) x) := hc
  clear hc
  have hmk := make_steps n hs w
  go_enter Tryd.func15, Tryd.ntmps15
  go_wp2
  have HO : Hid (RowOpen (w.alloc (.cells (madeCells #[.int .i64 0, .int .i64 0, .int .i64 0, .int .i64 0, .int .i64 0] (n * 5)) 25)) w.heap.size (n * 5)) := rowOpen_made _ _ _ _
  go_loopw [4] (fun i wr => ∃ k : Nat, k ≤ n ∧ i = .int .i64 k ∧ (Below w.heap.size w wr ∧ FZ w wr) ∧ w.heap.size < wr.heap.size ∧ RowOpen wr w.heap.size (n * 5) ∧ ∀ j x, j < k → l[j]? = some x → InsAt wr w.heap.size (j * 5) x) (fun i _ => n - (intOf i).toNat)
  case atStart => exact ⟨0, Nat.zero_le _, rfl, ⟨Bel.alloc _ _, (FZ.refl _).alloc _ _⟩, by simp, HO.out, fun j x hj => absurd hj (by omega)⟩
  case round =>
    obtain ⟨k, hk, rfl, ⟨hb, hz⟩, hsz, ho, hd⟩ := hrel
    have Z1 : Hid (FZ w wr) := hz
    have H1 : Hid (Below w.heap.size w wr) := hb
    have H2 : Hid (RowOpen wr w.heap.size (n * 5)) := ho
    have H3 : Hid (∀ j x, j < k → l[j]? = some x → InsAt wr w.heap.size (j * 5) x) := hd
    clear hb hz ho hd hmk
    by_cases hlt : (k : Int) < (n : Int)
    · obtain ⟨b, off, rfl, _, hc1⟩ := HC.out (by omega)
      have hkl : k < l.length := by have := HN.out; omega
      obtain ⟨x, HX⟩ : ∃ x, Hid (l[k]? = some x) := ⟨l[k], List.getElem?_eq_getElem hkl⟩
      obtain ⟨c0, c1, c2, c3, c4⟩ := (hc1 k x HX.out).keep (Keeps.of_below H1.out 0) (Nat.zero_le _)
      clear hc1 hkl
      obtain ⟨x0, x1, x2, x3, x4⟩ := x
      go_wp2_with fail
      refine (toStep_fz x0 x1 x2 x3 x4 _).mono ?_
      rintro e w1 ⟨rfl, b1, zc⟩
      have ZC : Hid (FZ wr w1) := zc
      clear zc
      have O1 : Hid (RowOpen w1 w.heap.size (n * 5)) := H2.out.keep b1
      have B1 : Hid (Below wr.heap.size wr w1) := b1
      have hsz1 : w.heap.size < w1.heap.size := Nat.lt_of_lt_of_le hsz b1.size
      clear b1
      obtain ⟨⟨u0, q0⟩, f0⟩ := O1.out (k * 5) (by omega)
      obtain ⟨⟨u1, q1⟩, f1⟩ := O1.out (k * 5 + 1) (by omega)
      obtain ⟨⟨u2, q2⟩, f2⟩ := O1.out (k * 5 + 2) (by omega)
      obtain ⟨⟨u3, q3⟩, f3⟩ := O1.out (k * 5 + 3) (by omega)
      obtain ⟨⟨u4, q4⟩, f4⟩ := O1.out (k * 5 + 4) (by omega)
      go_wp2
      go_roundw
      case rel =>
        refine ⟨k + 1, by omega, by go_num, ⟨(Bel.put (Bel.put (Bel.put (Bel.put (Bel.put (Below.trans H1.out (Below.mono B1.out (Nat.le_of_lt hsz))) _ _) _ _) _ _) _ _) _ _), (FZ.put (FZ.put (FZ.put (FZ.put (FZ.put (Z1.out.trans ZC.out) _ _) _ _) _ _) _ _) _ _)⟩, by simpa using hsz1, (((((O1.out.store _ _).store _ _).store _ _).store _ _).store _ _), fun j x hj hx => ?_⟩
        by_cases hjk : j = k
        · subst hjk
          have e := HX.out.symm.trans hx
          simp only [Option.some.injEq] at e
          subst e
          exact ins_put q0 q1 q2 q3 q4
        · exact (((((((H3.out j x (by omega) hx).keep (Keeps.of_below B1.out 0) (Nat.zero_le _)).store _ _ (by omega)).store _ _ (by omega)).store _ _ (by omega)).store _ _ (by omega)).store _ _ (by omega))
      case measure => simp [intOf]; omega
    · have hkn : k = n := by omega
      subst hkn
      go_wp2
      go_ret
      refine ⟨_, rfl, ⟨_, _, by rw [HN.out]; rfl, by rw [HN.out]; exact hm, fun _ => ⟨w.heap.size, 0, rfl, Nat.le_refl _, fun j x hj => ?_⟩⟩, H1.out, Z1.out⟩
      have hjl : j < k := by
        have h1 := HN.out
        by_cases hlt2 : j < l.length
        · omega
        · rw [List.getElem?_eq_none (by omega)] at hj
          cases hj
      have hx := H3.out j x hjl hj
      rw [Nat.zero_add]
      exact hx

theorem szStepS_any (v : Value) (l : List InsD) (left : Int) (w : World) (ha : ListAt 0 5 InsAt w v l) (h0 : 0 ≤ left) (h1 : left ≤ 1048576) :
    Calls Tryd.prog 13 #[v, .int .i64 left] w fun e w' => GivesSz (l.length ≤ 1048576) w e w' := by
  obtain ⟨a, cap, rfl, hm, _⟩ := ha
  obtain ⟨n, HN⟩ : ∃ n, Hid (l.length = n) := ⟨_, rfl⟩
  rw [HN.out] at hm ⊢
  by_cases hlt : left - (n : Int) < 0
  · go_enter Tryd.func13, Tryd.ntmps13
    go_wp2
    go_ret
    exact ⟨-1, rfl, by omega, by omega, fun h => absurd h (by omega), Below.refl _ _⟩
  · go_enter Tryd.func13, Tryd.ntmps13
    go_wp2
    go_ret
    exact ⟨left - (n : Int), rfl, by omega, by omega, fun _ => by omega, Below.refl _ _⟩

theorem eqStep_same (op d a b n : Int) (w : World) :
    Calls Tryd.prog 36 #[.agg #[.int .i64 op, .int .i64 d, .int .i64 a, .int .i64 b, .int .i64 n], .agg #[.int .i64 op, .int .i64 d, .int .i64 a, .int .i64 b, .int .i64 n]] w fun e w' => GivesTrue w e w' := by
  have nop : (op != op) = false := by simp
  have nd : (d != d) = false := by simp
  have na : (a != a) = false := by simp
  have nb : (b != b) = false := by simp
  have nn : (n != n) = false := by simp
  go_enter Tryd.func36, Tryd.ntmps36
  go_wp2
  go_ret
  exact ⟨rfl, by repeat (first | exact Below.refl _ _ | apply Below.drew | refine Below.alloc ?_ (by simp <;> omega) _ | refine Below.setCell ?_ (by simp <;> omega) _)⟩

set_option maxHeartbeats 4000000 in
theorem eqStepS_same (va vb : Value) (l : List InsD) (w : World) (ha : ListAt 0 5 InsAt w va l) (hb : ListAt 0 5 InsAt w vb l) :
    Calls Tryd.prog 17 #[va, vb] w fun e w' => GivesTrue w e w' := by
  obtain ⟨aa, ca, rfl, hm, hca⟩ := ha
  obtain ⟨ab, cb, rfl, _, hcb⟩ := hb
  obtain ⟨n, HN⟩ : ∃ n, Hid (l.length = n) := ⟨_, rfl⟩
  rw [HN.out] at hm hca hcb ⊢
  have HA : Hid (0 < n → ∃ b off, aa = some ⟨b, off, none⟩ ∧ 0 ≤ b ∧ ∀ i x, l[i]? = some x → InsAt w b (off + i * 5) x) := hca
  have HB : Hid (0 < n → ∃ b off, ab = some ⟨b, off, none⟩ ∧ 0 ≤ b ∧ ∀ i x, l[i]? = some x → InsAt w b (off + i * 5) x) := hcb
  clear hca hcb
  have hne : ((n : Int) != (n : Int)) = false := by simp
  go_enter Tryd.func17, Tryd.ntmps17
  go_wp2
  go_loopw [5] (fun i wr => ∃ k : Nat, k ≤ n ∧ i = .int .i64 k ∧ Below w.heap.size w wr) (fun i _ => n - (intOf i).toNat)
  case atStart => exact ⟨0, Nat.zero_le _, rfl, Below.refl _ _⟩
  case round =>
    obtain ⟨k, hk, rfl, hb3⟩ := hrel
    have H1 : Hid (Below w.heap.size w wr) := hb3
    clear hb3
    by_cases hlt : (k : Int) < (n : Int)
    · obtain ⟨b, off, rfl, _, hc1⟩ := HA.out (by omega)
      obtain ⟨b', off', rfl, _, hc2⟩ := HB.out (by omega)
      have hkl : k < l.length := by have := HN.out; omega
      obtain ⟨x, HX⟩ : ∃ x, Hid (l[k]? = some x) := ⟨l[k], List.getElem?_eq_getElem hkl⟩
      obtain ⟨c0, c1, c2, c3, c4⟩ := (hc1 k x HX.out).keep (Keeps.of_below H1.out 0) (Nat.zero_le _)
      obtain ⟨d0, d1, d2, d3, d4⟩ := (hc2 k x HX.out).keep (Keeps.of_below H1.out 0) (Nat.zero_le _)
      clear hc1 hc2 hkl
      obtain ⟨x0, x1, x2, x3, x4⟩ := x
      go_wp2
      go_region_with (go_at_call 36; refine (eqStep_same x0 x1 x2 x3 x4 _).mono ?_; rintro e w1 ⟨rfl, b1⟩)
      all_goals
        go_wp2
        go_roundw
        case rel => exact ⟨k + 1, by omega, by go_num, by first | exact Bel.after H1.out.drew (by assumption) | exact Bel.after H1.out (by assumption)⟩
        case measure => simp [intOf]; omega
    · go_wp2
      go_ret
      exact ⟨rfl, H1.out⟩

set_option maxHeartbeats 2000000 in
theorem markStepS_any (lo hi : Nat) (v : Value) (n : Nat) (q : Int) (w : World) (hm : MarkAt lo hi 5 InsM w v n) (hz : Thaw lo hi w) (hn : n ≤ 1048576) (hq : 0 ≤ q) (hq2 : q ≤ 4611686018427387904) :
    Calls Tryd.prog 22 #[v, .int .i64 q] w fun e w' => GivesMark lo hi q 5242880 w e w' := by
  obtain ⟨a, cap, rfl, hc⟩ := hm
  have HC : Hid (0 < n → ∃ b off, a = some ⟨b, off, none⟩ ∧ lo ≤ b ∧ b < hi ∧ ∀ i, i < n → InsM w b (off + i * 5)) := hc
  have HZ : Hid (Thaw lo hi w) := hz
  clear hc hz
  go_enter Tryd.func22, Tryd.ntmps22
  go_wp2
  go_loopw [1, 5] (fun kv i wr => ∃ (k : Nat) (z : Int), k ≤ n ∧ i = .int .i64 k ∧ kv = .int .i64 z ∧ q ≤ z ∧ z ≤ q + k * 5 ∧ Turns lo hi w wr) (fun _ i _ => n - (intOf i).toNat)
  case atStart => exact ⟨0, q, Nat.zero_le _, rfl, rfl, Int.le_refl _, by omega, Turns.refl _ _ _⟩
  case round =>
    obtain ⟨k, z, hk, rfl, rfl, hz1, hz2, ht⟩ := hrel
    have HT : Hid (Turns lo hi w wr) := ht
    clear ht
    by_cases hlt : (k : Int) < (n : Int)
    · obtain ⟨b, off, rfl, hb1, hb2, hc1⟩ := HC.out (by omega)
      obtain ⟨⟨z0, c0⟩, ⟨z1, c1⟩, ⟨z2, c2⟩, ⟨z3, c3⟩, ⟨z4, c4⟩⟩ := (hc1 k (by omega)).turn HT.out
      clear hc1
      have f0 := (HZ.out.turn HT.out) ⟨b, off + k * 5, none⟩ hb1 hb2
      have f1 := (HZ.out.turn HT.out) ⟨b, off + k * 5 + 1, none⟩ hb1 hb2
      have f2 := (HZ.out.turn HT.out) ⟨b, off + k * 5 + 2, none⟩ hb1 hb2
      have f3 := (HZ.out.turn HT.out) ⟨b, off + k * 5 + 3, none⟩ hb1 hb2
      have f4 := (HZ.out.turn HT.out) ⟨b, off + k * 5 + 4, none⟩ hb1 hb2
      go_wp2
      go_roundw
      case rel =>
        exact ⟨k + 1, z + 5, by omega, by go_num, by go_num, by omega, by omega, (Turns.put (Turns.put (Turns.put (Turns.put (Turns.put HT.out c0 hb1 hb2 _) (cell_aside c1 (by omega)) hb1 hb2 _) (cell_aside (cell_aside c2 (by omega)) (by omega)) hb1 hb2 _) (cell_aside (cell_aside (cell_aside c3 (by omega)) (by omega)) (by omega)) hb1 hb2 _) (cell_aside (cell_aside (cell_aside (cell_aside c4 (by omega)) (by omega)) (by omega)) (by omega)) hb1 hb2 _)⟩
      case measure => simp [intOf]; omega
    · go_wp2
      go_ret
      exact ⟨z, rfl, hz1, by omega, HT.out⟩

theorem cells_int5 : Tryd.prog.cellsOf 3 = 1 := by kernel_rfl
theorem cells_lStep : Tryd.prog.cellsOf 29 = 5 := by kernel_rfl

theorem readStep {H : Type} {enc : TypeId × Value → H} {w : World} {base : Nat} {spare : Nat → Bool} {held : Bool} {fuel : Nat} {cs : List Value} {y : DataW H × List MemPlace}
    (h : DataW.trod enc Tryd.prog w base spare held fuel 29 cs = some y) :
    ∃ op d a b n : Int, cs = [.int .i64 op, .int .i64 d, .int .i64 a, .int .i64 b, .int .i64 n] := by
  have hl := trod_len Tryd.underlying29 h
  rw [cells_lStep] at hl
  obtain ⟨x0, e0, _⟩ := trod_field_int Tryd.underlying29 Tryd.underlying3 cells_int5 h 0 0 rfl
  obtain ⟨x1, e1, _⟩ := trod_field_int Tryd.underlying29 Tryd.underlying3 cells_int5 h 1 1 rfl
  obtain ⟨x2, e2, _⟩ := trod_field_int Tryd.underlying29 Tryd.underlying3 cells_int5 h 2 2 rfl
  obtain ⟨x3, e3, _⟩ := trod_field_int Tryd.underlying29 Tryd.underlying3 cells_int5 h 3 3 rfl
  obtain ⟨x4, e4, _⟩ := trod_field_int Tryd.underlying29 Tryd.underlying3 cells_int5 h 4 4 rfl
  exact ⟨x0, x1, x2, x3, x4, list5 hl e0 e1 e2 e3 e4⟩

set_option maxRecDepth 100000 in
theorem openStep {H : Type} {enc : TypeId × Value → H} {w : World} {base : Nat} {spare : Nat → Bool} {held : Bool} {r : Reach} {b0 : Nat} {v : Value} {d : DataW H} {p : List MemPlace}
    (hv : Value.okWide Tryd.prog w r b0 29 v) (h : DataW.Trod enc Tryd.prog w base spare held 29 v d p) :
    ∃ op d a b n : Int, v = .agg #[.int .i64 op, .int .i64 d, .int .i64 a, .int .i64 b, .int .i64 n] := by
  obtain ⟨cs, hv', hsz⟩ := okWide_struct Tryd.underlying29 hv
  obtain ⟨fuel, hf⟩ := h
  obtain ⟨op, d, a, b, n, hcs⟩ := readStep hf
  rw [hv'] at hcs
  exact ⟨op, d, a, b, n, hv'.trans (agg_of_cells hcs)⟩

section
variable {H : Type} {enc : TypeId × Value → H} {w : World} {base : Nat} {spare : Nat → Bool} {held : Bool}

theorem read_step (n : Nat) (cs : List Value) (y : DataW H × List MemPlace) (b o : Nat) (h : DataW.trod enc Tryd.prog w base spare held n 29 cs = some y) (hc : ∀ i, i < 5 → w.cell? ⟨b, o + i, none⟩ = cs[i]?) : ∃ x, InsAt w b o x := by
  obtain ⟨x0, e0, _⟩ := trod_field_int Tryd.underlying29 Tryd.underlying3 cells_int5 h 0 0 rfl
  obtain ⟨x1, e1, _⟩ := trod_field_int Tryd.underlying29 Tryd.underlying3 cells_int5 h 1 1 rfl
  obtain ⟨x2, e2, _⟩ := trod_field_int Tryd.underlying29 Tryd.underlying3 cells_int5 h 2 2 rfl
  obtain ⟨x3, e3, _⟩ := trod_field_int Tryd.underlying29 Tryd.underlying3 cells_int5 h 3 3 rfl
  obtain ⟨x4, e4, _⟩ := trod_field_int Tryd.underlying29 Tryd.underlying3 cells_int5 h 4 4 rfl
  exact ⟨⟨x0, x1, x2, x3, x4⟩, (hc 0 (by omega)).trans e0, (hc 1 (by omega)).trans e1, (hc 2 (by omega)).trans e2, (hc 3 (by omega)).trans e3, (hc 4 (by omega)).trans e4⟩

end

/-- A slice that reads as the steps l. -/
def StepsAt (w : World) (v : Value) (l : List InsD) : Prop := ListAt 0 5 InsAt w v l

theorem openSteps {H : Type} {enc : TypeId × Value → H} {w : World} {base : Nat} {spare : Nat → Bool} {held : Bool} {a : Option Addr} {len cap : Nat} {d : DataW H} {p : List MemPlace}
    (h : DataW.Trod enc Tryd.prog w base spare held 32 (.slice a len cap) d p) : ∃ l, StepsAt w (.slice a len cap) l := by
  obtain ⟨fuel, hf⟩ := h
  exact readList Tryd.underlying32 cells_lStep (by omega) read_step hf
end Go.Proofs.YtebcocehdjoafaaDoor
