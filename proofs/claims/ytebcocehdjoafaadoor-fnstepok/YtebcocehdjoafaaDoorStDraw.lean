/- The model's drawn steps: whatever the bytes, some step. -/
import Derived.Test.YtebcocehdjoafaaDoorDrawC
import Derived.Test.YtebcocehdjoafaaDoorMaDef
import Derived.Test.YtebcocehdjoafaaDoorOwnAt
import Derived.Test.YtebcocehdjoafaaDoorSets
import Derived.Handy
namespace Go.Proofs.YtebcocehdjoafaaDoor
open Go.ChangeShapes Go.WideShapes Go.ChangeAt Go.RowKit
set_option linter.unusedVariables false

set_option maxHeartbeats 1000000 in
theorem pickintS_any (p lb : Nat) (zs : List Int) (n : Nat) (w : World) (hc : Cur w p) (hne : lb ≠ p) (hl : zs.length = n) (hn : 0 < n) (hm : n ≤ 1000)
    (hcell : ∀ j, j < n → w.cell? ⟨lb, j, none⟩ = some (.int .i64 (zs.getD j 0))) :
    Calls Tryd.prog 30 #[.pointer (some ⟨p, 0, none⟩), .slice (some ⟨lb, 0, none⟩) n n] w fun e w' => ∃ x : Int, e = .returned (.int .i64 x) ∧ x ∈ zs ∧ Fr p w w' ∧ Cur w' p := by
  have HC : Hid (∀ j, j < n → w.cell? ⟨lb, j, none⟩ = some (.int .i64 (zs.getD j 0))) := hcell
  clear hcell
  have HM : Hid (∀ k, k < n → zs.getD k 0 ∈ zs) := by
    intro k hk
    rw [List.getD_eq_getElem?_getD, List.getElem?_eq_getElem (by omega)]
    exact List.getElem_mem (by omega)
  clear hl
  go_enter Tryd.func30, Tryd.ntmps30
  go_wp2_with fail
  refine (below_any p _ _ hc).mono ?_
  rintro e w1 ⟨x, rfl, hx0, hx1, hx2, hf1, hc1⟩
  obtain ⟨k, rfl⟩ := Int.eq_ofNat_of_zero_le hx0
  have hk : (k : Int) < (n : Int) := hx1 (by omega)
  have hk' : k < n := by omega
  have hin := HM.out k hk'
  have hy : w1.cell? ⟨lb, k, none⟩ = some (.int .i64 (zs.getD k 0)) := by
    have h := HC.out k hk'
    rw [hf1.cell (x := ⟨lb, k, none⟩) (World.block_lt_of_cell? w _ h) hne]
    exact h
  clear hx1 hx2
  generalize zs.getD k 0 = y at *
  go_wp2
  go_ret
  exact ⟨_, rfl, hin, hf1, hc1⟩

set_option maxHeartbeats 2000000 in
theorem drawNumS_any (C : Nat) (w : World) (hc : Cur w C) :
    Calls Tryd.prog 43 #[.pointer (some ⟨C, 0, none⟩)] w fun e w' => ∃ z : Int, e = .returned (.int .i64 z) ∧ Fr C w w' ∧ Cur w' C ∧ (-9223372036854775808 ≤ z ∧ z ≤ 9223372036854775807) := by
  have HC : Hid (Cur w C) := hc
  clear hc
  go_enter Tryd.func43, Tryd.ntmps43
  go_wp2_with fail
  refine (once_any C 8 _ HC.out).mono ?_
  rintro e w1 ⟨b, rfl, hf1, hc1⟩
  have F1 : Hid (Fr C w w1) := hf1
  have C1 : Hid (Cur w1 C) := hc1
  have hl1 : C < w1.heap.size := hc1.lt
  clear hf1 hc1
  cases b with
  | true =>
    go_wp2_with fail
    refine (pickintS_any C w1.heap.size [9223372036854775807, -9223372036854775808, 4294967296, -1, 63, 64, 1000000007] 7 _ (C1.out.later (Bel.alloc _ _)) (by omega) rfl (by omega) (by omega) ?_).mono ?_
    · intro j hj
      have h7 : j = 0 ∨ j = 1 ∨ j = 2 ∨ j = 3 ∨ j = 4 ∨ j = 5 ∨ j = 6 := by omega
      rcases h7 with rfl | rfl | rfl | rfl | rfl | rfl | rfl <;> simp
    · rintro e w2 ⟨x, rfl, hx, hf, hc⟩
      have hxb : -9223372036854775808 ≤ x ∧ x ≤ 9223372036854775807 := by simp at hx; omega
      have F2 : Hid (Fr C w w2) := F1.out.trans ((Fr.ofBelow (Bel.alloc _ _)).trans hf)
      have C2 : Hid (Cur w2 C) := hc
      clear hf hc
      go_wp2_with fail
      go_ret
      exact ⟨_, rfl, F2.out, C2.out, by omega⟩
  | false =>
    go_wp2_with fail
    refine (below_any C 20 _ C1.out).mono ?_
    rintro e w2 ⟨x, rfl, hx0, hx1, _, hf, hc⟩
    have F2 : Hid (Fr C w w2) := F1.out.trans hf
    have C2 : Hid (Cur w2 C) := hc
    have hx2 := hx1 (by omega)
    clear hf hc hx1
    go_wp2_with fail
    go_ret
    exact ⟨_, rfl, F2.out, C2.out, by omega⟩

theorem Fr.heap {p : Nat} {a w : World} (h : Fr p a w) {k : Nat} {o : Obj} (hk : a.heap[k]? = some o) (hp : k ≠ p) : w.heap[k]? = some o := (h.block k (Array.getElem?_eq_some_iff.1 hk).1 hp).trans hk
theorem Fr.setNewS {p : Nat} {a w : World} (h : Fr p a w) (x : Addr) (hx : a.heap.size ≤ x.block) (u : Value) : Fr p a (w.setCell x u) :=
  ⟨h.os, h.tape, h.output, by have := h.size; simpa [World.setCell] using this, fun k hk hp => (Below.heap_setCell w x u k (by omega)).trans (h.block k hk hp)⟩
/-- A step in its box. -/
def SBx (w : World) (X : Nat) (op d a b n : Int) : Prop := w.heap[X]? = some (.cells #[.int .i64 op, .int .i64 d, .int .i64 a, .int .i64 b, .int .i64 n] 25 (0, 0))
theorem SBx.cells {w : World} {X : Nat} {op d a b n : Int} (h : SBx w X op d a b n) : w.cell? ⟨X, 0, none⟩ = some (.int .i64 op) ∧ w.cell? ⟨X, 1, none⟩ = some (.int .i64 d) ∧ w.cell? ⟨X, 2, none⟩ = some (.int .i64 a) ∧ w.cell? ⟨X, 3, none⟩ = some (.int .i64 b) ∧ w.cell? ⟨X, 4, none⟩ = some (.int .i64 n) := by
  unfold SBx at h
  refine ⟨?_, ?_, ?_, ?_, ?_⟩ <;> simp [World.cell?, h]
theorem SBx.fz {w : World} {X : Nat} {op d a b n : Int} (h : SBx w X op d a b n) (o : Nat) : w.frozen? ⟨X, o, none⟩ = false := frozen_of_cells ⟨_, h⟩ o
theorem SBx.put5 {w : World} {X : Nat} {op d a b n : Int} (h : SBx w X op d a b n) (op' d' a' b' n' : Int) : SBx (((((w.setCell ⟨X, 0, none⟩ (.int .i64 op')).setCell ⟨X, 1, none⟩ (.int .i64 d')).setCell ⟨X, 2, none⟩ (.int .i64 a')).setCell ⟨X, 3, none⟩ (.int .i64 b')).setCell ⟨X, 4, none⟩ (.int .i64 n')) X op' d' a' b' n' := by
  unfold SBx at *
  simp [World.setCell, Array.getElem?_modify, h]
theorem SBx.other {w : World} {X Y o : Nat} {v : Value} {op d a b n : Int} (h : SBx w X op d a b n) (hn : X ≠ Y) : SBx (w.setCell ⟨Y, o, none⟩ v) X op d a b n := (heap_setCell_other _ _ _ _ hn).trans h
/-- A drawn step is given. -/
def GivesStep (p : Nat) (w : World) (e : Ending) (w' : World) : Prop := ∃ op d a b n : Int, e = .returned (.agg #[.int .i64 op, .int .i64 d, .int .i64 a, .int .i64 b, .int .i64 n]) ∧ (1 ≤ op ∧ op ≤ 21) ∧ Fr p w w' ∧ Cur w' p ∧ (-9223372036854775808 ≤ n ∧ n ≤ 9223372036854775807)

theorem SBx.putD {w : World} {X : Nat} {op d a b n : Int} (h : SBx w X op d a b n) (v : Int) : SBx (w.setCell ⟨X, 1, none⟩ (.int .i64 v)) X op v a b n := by
  unfold SBx at *
  simp [World.setCell, Array.getElem?_modify, h]
theorem SBx.putA {w : World} {X : Nat} {op d a b n : Int} (h : SBx w X op d a b n) (v : Int) : SBx (w.setCell ⟨X, 2, none⟩ (.int .i64 v)) X op d v b n := by
  unfold SBx at *
  simp [World.setCell, Array.getElem?_modify, h]
/-- What the walk of a kind keeps: the answer's box is empty, the draw is as it was. -/
def Kept (p : Nat) (w : World) (R X : Nat) (v : World) : Prop := SBx v R 0 0 0 0 0 ∧ Fr p w v ∧ Cur v p ∧ w.heap.size ≤ R ∧ R < X ∧ p < R
theorem Kept.set {p : Nat} {w v : World} {R X : Nat} (h : Kept p w R X v) (o : Nat) (u : Value) : Kept p w R X (v.setCell ⟨X, o, none⟩ u) :=
  ⟨h.1.other (by have := h.2.2.2.2.1; omega), h.2.1.setNewS _ (by have := h.2.2.2.1; have := h.2.2.2.2.1; simp; omega) _, h.2.2.1.below h.2.2.2.2.2 (Below.setCell (Below.refl _ _) (by have := h.2.2.2.2.1; simp; omega) _), h.2.2.2⟩
theorem Kept.draw {p : Nat} {w v v' : World} {R X : Nat} (h : Kept p w R X v) (hf : Fr p v v') (hc : Cur v' p) : Kept p w R X v' :=
  ⟨hf.heap h.1 (by have := h.2.2.2.2.2; omega), h.2.1.trans hf, hc, h.2.2.2⟩
theorem Kept.ends {p : Nat} {w v : World} {R X : Nat} (h : Kept p w R X v) {tmps : Array Value} (ht : tmps.getD 4 undef = .pointer (some ⟨R, 0, none⟩)) (op d a b n : Int) (ho : 1 ≤ op ∧ op ≤ 21) (hnb : -9223372036854775808 ≤ n ∧ n ≤ 9223372036854775807) :
    bodyPost Tryd.prog Tryd.f28 (fun e w' => GivesStep p w e w') .ret { tmps := tmps, defers := [] } (((((v.setCell ⟨R, 0, none⟩ (.int .i64 op)).setCell ⟨R, 1, none⟩ (.int .i64 d)).setCell ⟨R, 2, none⟩ (.int .i64 a)).setCell ⟨R, 3, none⟩ (.int .i64 b)).setCell ⟨R, 4, none⟩ (.int .i64 n)) := by
  have hb := h.1.put5 op d a b n
  refine bodyPost_ret (v := .agg #[.int .i64 op, .int .i64 d, .int .i64 a, .int .i64 b, .int .i64 n]) (row_results rfl ht hb Tryd.underlying25 rfl (by kernel_rfl)) rfl ?_
  refine ⟨op, d, a, b, n, rfl, ho, ?_, ?_, hnb⟩
  · have hR := h.2.2.2.1
    exact ((((h.2.1.setNewS _ hR _).setNewS _ hR _).setNewS _ hR _).setNewS _ hR _).setNewS _ hR _
  · exact h.2.2.1.below h.2.2.2.2.2 (Below.setCell (Below.setCell (Below.setCell (Below.setCell (Below.setCell (Below.refl _ _) (Nat.le_refl R) _) (Nat.le_refl R) _) (Nat.le_refl R) _) (Nat.le_refl R) _) (Nat.le_refl R) _)

set_option maxRecDepth 100000 in
set_option maxHeartbeats 8000000 in
theorem drawStep_any (p : Nat) (nn : Int) (hnn : nn ≤ 9223372036854775807) (w : World) (hc : Cur w p) :
    Calls Tryd.prog 28 #[.pointer (some ⟨p, 0, none⟩), .int .i64 nn] w fun e w' => GivesStep p w e w' := by
  have HC : Hid (Cur w p) := hc
  have hp := hc.lt
  clear hc
  go_enter Tryd.func28, Tryd.ntmps28
  go_wp2_with fail
  refine (below_any p 21 _ (HC.out.later (Bel.alloc w _))).mono ?_
  rintro e w1 ⟨o, rfl, ho0, ho1, _, f1, c1⟩
  have hoo := ho1 (by omega)
  have hR1 := f1.heap (World.alloc_heap_new w (.cells #[.int .i64 0, .int .i64 0, .int .i64 0, .int .i64 0, .int .i64 0] 25)) (by omega)
  have hlt1 : w.heap.size < w1.heap.size := (Array.getElem?_eq_some_iff.1 hR1).1
  have F1 : Hid (Fr p w w1) := (Fr.ofBelow (Bel.alloc w _)).trans f1
  clear ho1 f1
  obtain ⟨y, hy⟩ : ∃ y, 1 + o = y := ⟨_, rfl⟩
  have hy1 : 1 ≤ y := by omega
  have hy2 : y ≤ 21 := by omega
  have hRA : (w1.alloc (.cells #[.int .i64 y, .int .i64 0, .int .i64 0, .int .i64 0, .int .i64 0] 25)).heap[w.heap.size]? = _ := (Below.heap_alloc _ _ _ hlt1).trans hR1
  have hXA := World.alloc_heap_new w1 (.cells #[.int .i64 y, .int .i64 0, .int .i64 0, .int .i64 0, .int .i64 0] 25)
  have CA : Hid (Cur (w1.alloc (.cells #[.int .i64 y, .int .i64 0, .int .i64 0, .int .i64 0, .int .i64 0] 25)) p) := c1.later (Bel.alloc _ _)
  have FA : Hid (Fr p w (w1.alloc (.cells #[.int .i64 y, .int .i64 0, .int .i64 0, .int .i64 0, .int .i64 0] 25))) := F1.out.trans (Fr.ofBelow (Bel.alloc _ _))
  clear c1
  go_wp2_with fail
  refine (below_any p 8 _ CA.out).mono ?_
  rintro e w2 ⟨rr, rfl, _, _, _, f2, c2⟩
  go_wp2_with fail
  refine (below_any p 8 _ c2).mono ?_
  rintro e w3 ⟨aa, rfl, _, _, _, f3, c3⟩
  go_wp2_with fail
  refine (below_any p 8 _ c3).mono ?_
  rintro e w4 ⟨bb, rfl, _, _, _, f4, c4⟩
  have f24 := (f2.trans f3).trans f4
  have HR : Hid (SBx w4 w.heap.size 0 0 0 0 0) := f24.heap hRA (by omega)
  have HX : Hid (SBx w4 w1.heap.size y 0 0 0 0) := f24.heap hXA (by omega)
  have F4 : Hid (Fr p w w4) := FA.out.trans f24
  have C4 : Hid (Cur w4 p) := c4
  clear f24 f2 f3 f4 c2 c3 c4 hRA hXA hR1 CA FA F1
  obtain ⟨k0, k1, k2, k3, k4⟩ := HR.out.cells
  obtain ⟨x0, x1, x2, x3, x4⟩ := HX.out.cells
  have g0 := HR.out.fz 0
  have g1 := HR.out.fz 1
  have g2 := HR.out.fz 2
  have g3 := HR.out.fz 3
  have g4 := HR.out.fz 4
  have q0 := HX.out.fz 0
  have q1 := HX.out.fz 1
  have q2 := HX.out.fz 2
  have q3 := HX.out.fz 3
  have q4 := HX.out.fz 4
  have hX4 : w1.heap.size < w4.heap.size := (Array.getElem?_eq_some_iff.1 HX.out).1
  obtain ⟨RB, HRB⟩ : ∃ q, Hid (w.heap.size = q) := ⟨_, rfl⟩
  obtain ⟨XB, HXB⟩ : ∃ q, Hid (w1.heap.size = q) := ⟨_, rfl⟩
  rw [HRB.out] at k0 k1 k2 k3 k4 g0 g1 g2 g3 g4 hlt1 hp ⊢
  rw [HXB.out] at x0 x1 x2 x3 x4 q0 q1 q2 q3 q4 hlt1 hX4 ⊢
  have hRw : w.heap.size ≤ RB := by rw [HRB.out]; exact Nat.le_refl _
  have hXw : w.heap.size ≤ XB := by rw [HRB.out]; omega
  have HRX : Hid (SBx w4 RB 0 0 0 0 0) := by rw [← HRB.out]; exact HR.out
  have HXX : Hid (SBx w4 XB y 0 0 0 0) := by rw [← HXB.out]; exact HX.out
  have hRX : ¬ RB = XB := by omega
  have hXR : ¬ XB = RB := by omega
  have hpX : ¬ p = XB := by omega
  have hpR : ¬ p = RB := by omega
  have HK : Hid (Kept p w RB XB w4) := ⟨HRX.out, F4.out, C4.out, hRw, hlt1, hp⟩
  clear hy
  rcases op_kinds y with rfl | rfl | rfl | rfl | rfl | rfl | rfl | rfl | rfl | rfl | rfl | h5 | h5
  · go_wp2_with fail
    have K5 := (HK.out.set 1 (.int .i64 rr))
    refine (drawNumS_any p _ K5.2.2.1).mono ?_
    rintro e w6 ⟨z, rfl, f6, c6, hz⟩
    have HZ : Hid (-9223372036854775808 ≤ z ∧ z ≤ 9223372036854775807) := hz
    clear hz
    have HK6 : Hid (Kept p w RB XB w6) := K5.draw f6 c6
    have HX6 : Hid (SBx w6 XB 1 rr 0 0 0) := f6.heap (HXX.out.putD rr) (by omega)
    clear K5 f6 c6 k0 k1 k2 k3 k4 x0 x1 x2 x3 x4 g0 g1 g2 g3 g4 q0 q1 q2 q3 q4
    obtain ⟨k0, k1, k2, k3, k4⟩ := HK6.out.1.cells
    obtain ⟨x0, x1, x2, x3, x4⟩ := HX6.out.cells
    have g0 := HK6.out.1.fz 0
    have q0 := HX6.out.fz 0
    have g1 := HK6.out.1.fz 1
    have q1 := HX6.out.fz 1
    have g2 := HK6.out.1.fz 2
    have q2 := HX6.out.fz 2
    have g3 := HK6.out.1.fz 3
    have q3 := HX6.out.fz 3
    have g4 := HK6.out.1.fz 4
    have q4 := HX6.out.fz 4
    go_wp2_with fail
    exact Kept.ends (R := RB) (X := XB) (HK6.out.set 4 _) rfl 1 rr 0 0 z (by omega) HZ.out
  · go_wp2_with fail
    exact Kept.ends (R := RB) (X := XB) ((HK.out.set 1 _).set 2 _) rfl 2 rr aa 0 0 (by omega) (by omega)
  · go_wp2_with fail
    have K5 := (HK.out.set 1 (.int .i64 rr))
    refine (below_any p 6 _ K5.2.2.1).mono ?_
    rintro e w6 ⟨z, rfl, z0, z1, z2, f6, c6⟩
    have hz : -9223372036854775808 ≤ z ∧ z ≤ 9223372036854775807 := by have := z1 (by omega); omega
    clear z0 z1 z2
    have HZ : Hid (-9223372036854775808 ≤ z ∧ z ≤ 9223372036854775807) := hz
    clear hz
    have HK6 : Hid (Kept p w RB XB w6) := K5.draw f6 c6
    have HX6 : Hid (SBx w6 XB 3 rr 0 0 0) := f6.heap (HXX.out.putD rr) (by omega)
    clear K5 f6 c6 k0 k1 k2 k3 k4 x0 x1 x2 x3 x4 g0 g1 g2 g3 g4 q0 q1 q2 q3 q4
    obtain ⟨k0, k1, k2, k3, k4⟩ := HK6.out.1.cells
    obtain ⟨x0, x1, x2, x3, x4⟩ := HX6.out.cells
    have g0 := HK6.out.1.fz 0
    have q0 := HX6.out.fz 0
    have g1 := HK6.out.1.fz 1
    have q1 := HX6.out.fz 1
    have g2 := HK6.out.1.fz 2
    have q2 := HX6.out.fz 2
    have g3 := HK6.out.1.fz 3
    have q3 := HX6.out.fz 3
    have g4 := HK6.out.1.fz 4
    have q4 := HX6.out.fz 4
    go_wp2_with fail
    exact Kept.ends (R := RB) (X := XB) (HK6.out.set 4 _) rfl 3 rr 0 0 z (by omega) HZ.out
  · go_wp2_with fail
    have K5 := (HK.out.set 2 (.int .i64 aa))
    refine (below_any p 6 _ K5.2.2.1).mono ?_
    rintro e w6 ⟨z, rfl, z0, z1, z2, f6, c6⟩
    have hz : -9223372036854775808 ≤ z ∧ z ≤ 9223372036854775807 := by have := z1 (by omega); omega
    clear z0 z1 z2
    have HZ : Hid (-9223372036854775808 ≤ z ∧ z ≤ 9223372036854775807) := hz
    clear hz
    have HK6 : Hid (Kept p w RB XB w6) := K5.draw f6 c6
    have HX6 : Hid (SBx w6 XB 4 0 aa 0 0) := f6.heap ((HXX.out).putA aa) (by omega)
    clear K5 f6 c6 k0 k1 k2 k3 k4 x0 x1 x2 x3 x4 g0 g1 g2 g3 g4 q0 q1 q2 q3 q4
    obtain ⟨k0, k1, k2, k3, k4⟩ := HK6.out.1.cells
    obtain ⟨x0, x1, x2, x3, x4⟩ := HX6.out.cells
    have g0 := HK6.out.1.fz 0
    have q0 := HX6.out.fz 0
    have g1 := HK6.out.1.fz 1
    have q1 := HX6.out.fz 1
    have g2 := HK6.out.1.fz 2
    have q2 := HX6.out.fz 2
    have g3 := HK6.out.1.fz 3
    have q3 := HX6.out.fz 3
    have g4 := HK6.out.1.fz 4
    have q4 := HX6.out.fz 4
    go_wp2_with fail
    exact Kept.ends (R := RB) (X := XB) (HK6.out.set 4 _) rfl 4 0 aa 0 z (by omega) HZ.out
  · go_wp2_with fail
    exact Kept.ends (R := RB) (X := XB) ((HK.out.set 1 _).set 2 _) rfl 5 rr aa 0 0 (by omega) (by omega)
  · go_wp2_with fail
    exact Kept.ends (R := RB) (X := XB) ((HK.out.set 2 _).set 3 _) rfl 6 0 aa bb 0 (by omega) (by omega)
  · go_wp2_with fail
    exact Kept.ends (R := RB) (X := XB) (HK.out.set 2 _) rfl 7 0 aa 0 0 (by omega) (by omega)
  · go_wp2_with fail
    exact Kept.ends (R := RB) (X := XB) (HK.out.set 1 _) rfl 8 rr 0 0 0 (by omega) (by omega)
  · go_wp2_with fail
    have K5 := HK.out
    refine (below_any p nn _ K5.2.2.1).mono ?_
    rintro e w6 ⟨z, rfl, z0, z1, z2, f6, c6⟩
    have hz : -9223372036854775808 ≤ z ∧ z ≤ 9223372036854775807 := by
      by_cases h9 : nn ≤ 0
      · have := z2 h9; omega
      · have := z1 (by omega); omega
    clear z0 z1 z2
    have HZ : Hid (-9223372036854775808 ≤ z ∧ z ≤ 9223372036854775807) := hz
    clear hz
    have HK6 : Hid (Kept p w RB XB w6) := K5.draw f6 c6
    have HX6 : Hid (SBx w6 XB 9 0 0 0 0) := f6.heap (HXX.out) (by omega)
    clear K5 f6 c6 k0 k1 k2 k3 k4 x0 x1 x2 x3 x4 g0 g1 g2 g3 g4 q0 q1 q2 q3 q4
    obtain ⟨k0, k1, k2, k3, k4⟩ := HK6.out.1.cells
    obtain ⟨x0, x1, x2, x3, x4⟩ := HX6.out.cells
    have g0 := HK6.out.1.fz 0
    have q0 := HX6.out.fz 0
    have g1 := HK6.out.1.fz 1
    have q1 := HX6.out.fz 1
    have g2 := HK6.out.1.fz 2
    have q2 := HX6.out.fz 2
    have g3 := HK6.out.1.fz 3
    have q3 := HX6.out.fz 3
    have g4 := HK6.out.1.fz 4
    have q4 := HX6.out.fz 4
    go_wp2_with fail
    exact Kept.ends (R := RB) (X := XB) (HK6.out.set 4 _) rfl 9 0 0 0 z (by omega) HZ.out
  · go_wp2_with fail
    have K5 := (HK.out.set 2 (.int .i64 aa))
    refine (below_any p nn _ K5.2.2.1).mono ?_
    rintro e w6 ⟨z, rfl, z0, z1, z2, f6, c6⟩
    have hz : -9223372036854775808 ≤ z ∧ z ≤ 9223372036854775807 := by
      by_cases h9 : nn ≤ 0
      · have := z2 h9; omega
      · have := z1 (by omega); omega
    clear z0 z1 z2
    have HZ : Hid (-9223372036854775808 ≤ z ∧ z ≤ 9223372036854775807) := hz
    clear hz
    have HK6 : Hid (Kept p w RB XB w6) := K5.draw f6 c6
    have HX6 : Hid (SBx w6 XB 10 0 aa 0 0) := f6.heap ((HXX.out).putA aa) (by omega)
    clear K5 f6 c6 k0 k1 k2 k3 k4 x0 x1 x2 x3 x4 g0 g1 g2 g3 g4 q0 q1 q2 q3 q4
    obtain ⟨k0, k1, k2, k3, k4⟩ := HK6.out.1.cells
    obtain ⟨x0, x1, x2, x3, x4⟩ := HX6.out.cells
    have g0 := HK6.out.1.fz 0
    have q0 := HX6.out.fz 0
    have g1 := HK6.out.1.fz 1
    have q1 := HX6.out.fz 1
    have g2 := HK6.out.1.fz 2
    have q2 := HX6.out.fz 2
    have g3 := HK6.out.1.fz 3
    have q3 := HX6.out.fz 3
    have g4 := HK6.out.1.fz 4
    have q4 := HX6.out.fz 4
    go_wp2_with fail
    exact Kept.ends (R := RB) (X := XB) (HK6.out.set 4 _) rfl 10 0 aa 0 z (by omega) HZ.out
  · go_wp2_with fail
    exact Kept.ends (R := RB) (X := XB) (HK.out.set 2 _) rfl 11 0 aa 0 0 (by omega) (by omega)
  · have HH : Hid (12 ≤ y ∧ y ≤ 21) := h5
    have e1 : (y == 1) = false := by simp; omega
    have e2 : (y == 2) = false := by simp; omega
    have e3 : (y == 3) = false := by simp; omega
    have e4 : (y == 4) = false := by simp; omega
    have e5 : (y == 5) = false := by simp; omega
    have e6 : (y == 6) = false := by simp; omega
    have e7 : (y == 7) = false := by simp; omega
    have e8 : (y == 8) = false := by simp; omega
    have e9 : (y == 9) = false := by simp; omega
    have e10 : (y == 10) = false := by simp; omega
    have e11 : (y == 11) = false := by simp; omega
    clear h5
    go_wp2_with fail
    exact Kept.ends (R := RB) (X := XB) (((HK.out.set 1 _).set 2 _).set 3 _) rfl y rr aa bb 0 (by omega) (by omega)
  · omega
end Go.Proofs.YtebcocehdjoafaaDoor
