/- Trimming, the program's parts: which step is idle, which stays, where each is then, where a jump goes. -/
import Derived.Test.YtgnngibbojjebaaDoorTrDef
import Derived.Test.YtgnngibbojjebaaDoorStO
import Derived.Test.YtgnngibbojjebaaDoorMaOk
import Derived.Test.YtgnngibbojjebaaDoorOwnAt
import Derived.Lib.SliceRun
import Derived.Lib.LazyBuf
namespace Go.Proofs.YtgnngibbojjebaaDoor
open Go.ChangeShapes Go.WideShapes Go.ChangeAt Go.RowKit
set_option linter.unusedVariables false

theorem idleB_two {d a b n i : Int} : idleB ⟨2, d, a, b, n⟩ i = decide (d = a) := rfl
theorem idleB_jump {op d a b n i : Int} (h : op = 9 ∨ op = 10) : idleB ⟨op, d, a, b, n⟩ i = decide (n = i + 1) := by
  unfold idleB
  dsimp only
  rw [if_neg (by omega), if_pos h]
theorem idleB_other {op d a b n i : Int} (h2 : ¬ op = 2) (h : ¬ (op = 9 ∨ op = 10)) : idleB ⟨op, d, a, b, n⟩ i = false := by
  unfold idleB
  dsimp only
  rw [if_neg h2, if_neg h]

set_option maxHeartbeats 1000000 in
theorem impl_idle (op d a b n i : Int) (w : World) (hd : op = 2 → 0 ≤ d ∧ d ≤ 7) (hi : 0 ≤ i ∧ i ≤ 1000) :
    Calls Tryd.prog 18 #[.agg #[.int .i64 op, .int .i64 d, .int .i64 a, .int .i64 b, .int .i64 n], .int .i64 i] w fun e w' => AnsB w (idleB ⟨op, d, a, b, n⟩ i) e w' := by
  obtain ⟨R, HR⟩ : ∃ R, Hid (idleB ⟨op, d, a, b, n⟩ i = R) := ⟨_, rfl⟩
  rw [HR.out]
  by_cases h2 : op = 2
  · subst h2
    have hdd := hd rfl
    have hreg : (decide (0 ≤ d) && decide (d < 8)) = true := by simp; omega
    by_cases hda : d = a
    · subst hda
      go_enter Tryd.func18, Tryd.ntmps18
      go_wp2_with fail
      refine (isReg_any d _).mono ?_
      rw [hreg]
      rintro e w1 ⟨rfl, hw1⟩
      subst hw1
      go_wp2
      go_ret
      exact ⟨retB (by rw [← HR.out, idleB_two]; simp), by repeat (first | exact Below.refl _ _ | apply Below.drew | refine Below.alloc ?_ (by simp <;> omega) _ | refine Below.setCell ?_ (by simp <;> omega) _)⟩
    · have hne : (d == a) = false := by simpa using hda
      go_enter Tryd.func18, Tryd.ntmps18
      go_wp2
      go_ret
      exact ⟨retB (by rw [← HR.out, idleB_two]; simp [hda]), by repeat (first | exact Below.refl _ _ | apply Below.drew | refine Below.alloc ?_ (by simp <;> omega) _ | refine Below.setCell ?_ (by simp <;> omega) _)⟩
  have e2 : (op == 2) = false := by simpa using h2
  by_cases h9 : op = 9
  · subst h9
    have HN : Hid (R = decide (n = i + 1)) := by show _ = _; rw [← HR.out]; exact idleB_jump (.inl rfl)
    by_cases hlt : i < n
    · go_enter Tryd.func18, Tryd.ntmps18
      go_wp2
      go_ret
      exact ⟨retB (by rw [HN.out, Bool.eq_iff_iff]; simp), by repeat (first | exact Below.refl _ _ | apply Below.drew | refine Below.alloc ?_ (by simp <;> omega) _ | refine Below.setCell ?_ (by simp <;> omega) _)⟩
    · go_enter Tryd.func18, Tryd.ntmps18
      go_wp2
      go_ret
      exact ⟨retB (by rw [HN.out, Bool.eq_iff_iff]; simp; omega), by repeat (first | exact Below.refl _ _ | apply Below.drew | refine Below.alloc ?_ (by simp <;> omega) _ | refine Below.setCell ?_ (by simp <;> omega) _)⟩
  have e9 : (op == 9) = false := by simpa using h9
  by_cases h10 : op = 10
  · subst h10
    have HN : Hid (R = decide (n = i + 1)) := by show _ = _; rw [← HR.out]; exact idleB_jump (.inr rfl)
    by_cases hlt : i < n
    · go_enter Tryd.func18, Tryd.ntmps18
      go_wp2
      go_ret
      exact ⟨retB (by rw [HN.out, Bool.eq_iff_iff]; simp), by repeat (first | exact Below.refl _ _ | apply Below.drew | refine Below.alloc ?_ (by simp <;> omega) _ | refine Below.setCell ?_ (by simp <;> omega) _)⟩
    · go_enter Tryd.func18, Tryd.ntmps18
      go_wp2
      go_ret
      exact ⟨retB (by rw [HN.out, Bool.eq_iff_iff]; simp; omega), by repeat (first | exact Below.refl _ _ | apply Below.drew | refine Below.alloc ?_ (by simp <;> omega) _ | refine Below.setCell ?_ (by simp <;> omega) _)⟩
  have e10 : (op == 10) = false := by simpa using h10
  obtain rfl : R = false := by rw [← HR.out]; exact idleB_other h2 (by omega)
  go_enter Tryd.func18, Tryd.ntmps18
  go_wp2
  go_ret
  exact ⟨rfl, by repeat (first | exact Below.refl _ _ | apply Below.drew | refine Below.alloc ?_ (by simp <;> omega) _ | refine Below.setCell ?_ (by simp <;> omega) _)⟩

set_option maxHeartbeats 1000000 in
theorem spec_idle (op d a b n i : Int) (w : World) (hi : 0 ≤ i ∧ i ≤ 1000) :
    Calls Tryd.prog 19 #[.agg #[.int .i64 op, .int .i64 d, .int .i64 a, .int .i64 b, .int .i64 n], .int .i64 i] w fun e w' => AnsB w (idleB ⟨op, d, a, b, n⟩ i) e w' := by
  obtain ⟨R, HR⟩ : ∃ R, Hid (idleB ⟨op, d, a, b, n⟩ i = R) := ⟨_, rfl⟩
  rw [HR.out]
  by_cases h2 : op = 2
  · subst h2
    go_enter Tryd.func19, Tryd.ntmps19
    go_wp2
    go_ret
    exact ⟨retB (by rw [← HR.out, idleB_two, Bool.eq_iff_iff]; simp), by repeat (first | exact Below.refl _ _ | apply Below.drew | refine Below.alloc ?_ (by simp <;> omega) _ | refine Below.setCell ?_ (by simp <;> omega) _)⟩
  have e2 : (op == 2) = false := by simpa using h2
  by_cases h9 : op = 9
  · subst h9
    have HN : Hid (R = decide (n = i + 1)) := by show _ = _; rw [← HR.out]; exact idleB_jump (.inl rfl)
    go_enter Tryd.func19, Tryd.ntmps19
    go_wp2
    go_ret
    exact ⟨retB (by rw [HN.out, Bool.eq_iff_iff]; simp), by repeat (first | exact Below.refl _ _ | apply Below.drew | refine Below.alloc ?_ (by simp <;> omega) _ | refine Below.setCell ?_ (by simp <;> omega) _)⟩
  have e9 : (op == 9) = false := by simpa using h9
  by_cases h10 : op = 10
  · subst h10
    have HN : Hid (R = decide (n = i + 1)) := by show _ = _; rw [← HR.out]; exact idleB_jump (.inr rfl)
    go_enter Tryd.func19, Tryd.ntmps19
    go_wp2
    go_ret
    exact ⟨retB (by rw [HN.out, Bool.eq_iff_iff]; simp), by repeat (first | exact Below.refl _ _ | apply Below.drew | refine Below.alloc ?_ (by simp <;> omega) _ | refine Below.setCell ?_ (by simp <;> omega) _)⟩
  have e10 : (op == 10) = false := by simpa using h10
  obtain rfl : R = false := by rw [← HR.out]; exact idleB_other h2 (by omega)
  go_enter Tryd.func19, Tryd.ntmps19
  go_wp2
  go_ret
  exact ⟨rfl, by repeat (first | exact Below.refl _ _ | apply Below.drew | refine Below.alloc ?_ (by simp <;> omega) _ | refine Below.setCell ?_ (by simp <;> omega) _)⟩

/-- Does it stay? -/
theorem stays_any (a : Option Addr) (n cap : Nat) (l : List InsD) (k : Nat) (x : InsD) (w : World) (ha : StepsAt w (.slice a n cap) l) (hn : l.length = n) (hn9 : n ≤ 900) (hx : l[k]? = some x) (hreg : 0 ≤ x.d ∧ x.d ≤ 7) :
    Calls Tryd.prog 53 #[.slice a n cap, .int .i64 (k : Int)] w fun e w' => AnsB w (staysB n k x) e w' := by
  obtain ⟨R, HR⟩ : ∃ R, Hid (staysB n k x = R) := ⟨_, rfl⟩
  rw [HR.out]
  have hkl : k < n := by have := (List.getElem?_eq_some_iff.1 hx).1; omega
  obtain ⟨a0, cap0, e0, _, hc⟩ := ha
  simp at e0
  obtain ⟨b, off, hab, _, hd⟩ := hc (by omega)
  obtain ⟨c0, c1, c2, c3, c4⟩ := hd k x hx
  rw [← e0.1] at hab
  subst hab
  clear hc hd e0
  have HX : Hid (l[k]? = some x) := hx
  clear hx hn
  by_cases hlast : k + 1 = n
  · have hl2 : (k : Int) = (n : Int) - 1 := by omega
    have hb2 : ((k : Int) == (n : Int) - 1) = true := by simpa using hl2
    obtain rfl : R = true := by rw [← HR.out]; simp [staysB, hlast]
    clear hl2
    go_enter Tryd.func53, Tryd.ntmps53
    go_wp2
    go_ret
    exact ⟨rfl, by repeat (first | exact Below.refl _ _ | apply Below.drew | refine Below.alloc ?_ (by simp <;> omega) _ | refine Below.setCell ?_ (by simp <;> omega) _)⟩
  · have hb2 : ((k : Int) == (n : Int) - 1) = false := by simp; omega
    obtain ⟨x0, x1, x2, x3, x4⟩ := x
    dsimp only at c0 c1 c2 c3 c4 hreg
    obtain ⟨q, HQ⟩ : ∃ q, Hid (idleB ⟨x0, x1, x2, x3, x4⟩ (k : Int) = q) := ⟨_, rfl⟩
    obtain rfl : R = !q := by rw [← HR.out, ← HQ.out]; simp [staysB, hlast]
    go_enter Tryd.func53, Tryd.ntmps53
    go_wp2_with fail
    refine (impl_idle x0 x1 x2 x3 x4 (k : Int) _ (fun _ => hreg) (by omega)).mono ?_
    rw [HQ.out]
    rintro e w1 ⟨rfl, b1⟩
    go_wp2
    go_ret
    exact ⟨rfl, by first | exact b1 | exact Bel.after (by repeat (first | exact Below.refl _ _ | apply Below.drew | refine Below.alloc ?_ (by simp <;> omega) _ | refine Below.setCell ?_ (by simp <;> omega) _)) b1⟩

/-- The places then. -/
def thenL (l : List InsD) : List Int := listN l.length (fun i => (keptN l i : Int))
set_option maxHeartbeats 2000000 in
theorem placesThen_any (a : Option Addr) (n cap : Nat) (l : List InsD) (w : World) (ha : StepsAt w (.slice a n cap) l) (hn : l.length = n) (hok : machineOkB l = true) :
    Calls Tryd.prog 52 #[.slice a n cap] w fun e w' => GivesOwn w (thenL l) e w' := by
  have hn9 : n ≤ 900 := by have := (machineOkB_parts hok).2.1; omega
  have HA : Hid (StepsAt w (.slice a n cap) l) := ha
  have HN : Hid (l.length = n) := hn
  have HOK : Hid (machineOkB l = true) := hok
  clear ha hn hok
  have hmk := make_ints n (by omega) w
  go_enter Tryd.func52, Tryd.ntmps52
  go_wp2
  have HO : Hid (OwnInts (w.alloc (.cells (madeCells #[.int .i64 0] n) 3)) w.heap.size (.slice (some ⟨w.heap.size, 0, none⟩) n n) (listN n (fun _ => 0))) := own_made n (by omega) (Nat.le_refl _)
  obtain ⟨w1, hw1⟩ : ∃ W, w.alloc (.cells (madeCells #[.int .i64 0] n) 3) = W := ⟨_, rfl⟩
  have HB0 : Hid (Below w.heap.size w w1) := by show Below _ _ _; rw [← hw1]; exact Bel.alloc _ _
  rw [hw1] at HO ⊢
  clear hw1 hmk
  go_loopw [4, 11] (fun c i wr => ∃ (k : Nat) (f : Nat → Int), k ≤ n ∧ i = .int .i64 k ∧ c = .int .i64 (keptN l k : Int) ∧ (∀ j, j < k → f j = (keptN l j : Int)) ∧ OwnInts wr w.heap.size (.slice (some ⟨w.heap.size, 0, none⟩) n n) (listN n f) ∧ Below w.heap.size w wr) (fun _ i _ => n - (intOf i).toNat)
  case atStart => exact ⟨0, fun _ => 0, Nat.zero_le _, rfl, rfl, fun j hj => absurd hj (by omega), HO.out, HB0.out⟩
  case round =>
    obtain ⟨k, f, hk, rfl, rfl, hf, ho, hb⟩ := hrel
    have HF : Hid (∀ j, j < k → f j = (keptN l j : Int)) := hf
    have HO2 : Hid (OwnInts wr w.heap.size (.slice (some ⟨w.heap.size, 0, none⟩) n n) (listN n f)) := ho
    have HB : Hid (Below w.heap.size w wr) := hb
    by_cases hlt : (k : Int) < (n : Int)
    · have c0 := ho.cellAt (i := k) (by omega)
      have f0 : wr.frozen? ⟨w.heap.size, k, none⟩ = false := frozen_of_cells ho.heapOf k
      clear hf ho hb
      obtain ⟨x, HX⟩ : ∃ x, Hid (l[k]? = some x) := ⟨l[k]'(by have := HN.out; omega), List.getElem?_eq_getElem _⟩
      have HREG : Hid (0 ≤ x.d ∧ x.d ≤ 7) := move_regs HOK.out (List.mem_of_getElem? HX.out)
      have hkn := keptN_le l k
      obtain ⟨q, HQ⟩ : ∃ q, Hid (keptN l k = q) := ⟨_, rfl⟩
      rw [HQ.out] at hkn ⊢
      go_wp2_with fail
      obtain ⟨w2, hw2⟩ : ∃ W, wr.setCell ⟨w.heap.size, k, none⟩ (.int .i64 (q : Int)) = W := ⟨_, rfl⟩
      have O3 : Hid (OwnInts w2 w.heap.size (.slice (some ⟨w.heap.size, 0, none⟩) n n) (listN n (updN f k (q : Int)))) := by
        show OwnInts _ _ _ _
        rw [← hw2, ← listN_set]
        exact HO2.out.setAt (by omega) _
      have B3 : Hid (Below w.heap.size w w2) := by
        show Below _ _ _
        rw [← hw2]
        exact HB.out.setCell (p := ⟨w.heap.size, k, none⟩) (Nat.le_refl _) _
      rw [hw2]
      clear hw2 c0 f0
      refine (stays_any a n cap l k x _ (StepsAt.keep HA.out B3.out) HN.out hn9 HX.out HREG.out).mono ?_
      obtain ⟨s, HS⟩ : ∃ s, Hid (staysB n k x = s) := ⟨_, rfl⟩
      rw [HS.out]
      rintro e w4 ⟨rfl, b4⟩
      have O4 : Hid (OwnInts w4 w.heap.size (.slice (some ⟨w.heap.size, 0, none⟩) n n) (listN n (updN f k (q : Int)))) := O3.out.keep b4
      have B4 : Hid (Below w.heap.size w w4) := Bel.after B3.out b4
      clear b4
      have hnew : ∀ j, j < k + 1 → updN f k (q : Int) j = (keptN l j : Int) := fun j hj => by
        unfold updN
        split
        · rename_i e; rw [e, HQ.out]
        · exact HF.out j (by omega)
      have HNEW : Hid (∀ j, j < k + 1 → updN f k (q : Int) j = (keptN l j : Int)) := hnew
      clear hnew
      cases s with
      | true =>
        have hq1 : keptN l (k + 1) = q + 1 := by rw [keptN_yes HX.out (by rw [HN.out]; exact HS.out), HQ.out]
        go_wp2
        go_roundw
        case rel => exact ⟨k + 1, _, by omega, by go_num, by rw [hq1]; go_num, HNEW.out, O4.out, B4.out⟩
        case measure => simp [intOf]; omega
      | false =>
        have hq1 : keptN l (k + 1) = q := by rw [keptN_no HX.out (by rw [HN.out]; exact HS.out), HQ.out]
        go_wp2
        go_roundw
        case rel => exact ⟨k + 1, _, by omega, by go_num, by rw [hq1], HNEW.out, O4.out, B4.out⟩
        case measure => simp [intOf]; omega
    · have hkn : k = n := by omega
      subst hkn
      clear hf ho hb
      go_wp2
      go_ret
      refine ⟨_, rfl, ?_, HB.out⟩
      have e : listN k f = thenL l := by
        unfold thenL
        rw [HN.out]
        unfold listN
        apply List.map_congr_left
        intro j hj
        exact HF.out j (by simpa using hj)
      rw [← e]
      exact HO2.out
end Go.Proofs.YtgnngibbojjebaaDoor
