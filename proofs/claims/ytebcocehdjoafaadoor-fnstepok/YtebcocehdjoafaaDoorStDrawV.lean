/- A drawn step, as the law about StepOk takes it. -/
import Derived.Test.YtebcocehdjoafaaDoorStDraw
import Derived.Laws.ResultCell
import Derived.Handy
namespace Go.Proofs.YtebcocehdjoafaaDoor
open Go.ChangeShapes Go.WideShapes Go.ChangeAt Go.RowKit
set_option linter.unusedVariables false

theorem big_anyS (a : Option Addr) (len cap : Nat) (w : World) : Calls Tryd.prog 8 #[.slice a len cap] w fun e w' => ∃ b : Bool, e = .returned (.bool b) ∧ w' = w := by
  go_enter Tryd.func8, Tryd.ntmps8
  go_wp2
  go_ret
  exact ⟨_, rfl, rfl⟩
theorem IsRow.afterS {k : IntKind} {w w' : World} {a : Option Addr} {len cap : Nat} {zs : List Int} (h : IsRow k w a len cap zs) (hb : Below w.heap.size w w') : IsRow k w' a len cap zs := by
  rcases h with h | ⟨x, h1, h2, h3, h4, h5, h6⟩
  · exact .inl h
  · exact .inr ⟨x, h1, h2, h3, h4, fun i hi => Bel.keeps hb (h5 i hi), h6⟩

theorem SBx.put {w : World} {X : Nat} {op d a b n : Int} (h : SBx w X op d a b n) (v : Int) :
    SBx (w.setCell ⟨X, 0, none⟩ (.int .i64 v)) X v d a b n ∧ SBx (w.setCell ⟨X, 1, none⟩ (.int .i64 v)) X op v a b n ∧ SBx (w.setCell ⟨X, 3, none⟩ (.int .i64 v)) X op d a v n ∧ SBx (w.setCell ⟨X, 4, none⟩ (.int .i64 v)) X op d a b v := by
  unfold SBx at *
  refine ⟨?_, ?_, ?_, ?_⟩ <;> simp [World.setCell, Array.getElem?_modify, h]
/-- What the walk keeps. -/
def KeptV (w : World) (p R X : Nat) (op d a b n : Int) (v : World) : Prop := SBx v R 0 0 0 0 0 ∧ SBx v X op d a b n ∧ Cur v p ∧ Below w.heap.size w v ∧ (w.heap.size ≤ R ∧ R < p ∧ p < X)
theorem KeptV.draw {w v v' : World} {p R X : Nat} {op d a b n : Int} (h : KeptV w p R X op d a b n v) (hf : Fr p v v') (hc : Cur v' p) : KeptV w p R X op d a b n v' := by
  obtain ⟨h1, h2, h3, h4, h5⟩ := h
  exact ⟨hf.heap h1 (by omega), hf.heap h2 (by omega), hc, h4.trans (hf.below (by omega) h4.size), h5⟩
/-- The answer: a step, and 9. -/
def GivesV (w : World) (e : Ending) (w' : World) : Prop := ∃ op d a b n : Int, e = .returned (.tuple #[.agg #[.int .i64 op, .int .i64 d, .int .i64 a, .int .i64 b, .int .i64 n], .int .i64 9]) ∧ (-9223372036854775808 ≤ op ∧ op ≤ 9223372036854775807) ∧ Below w.heap.size w w'
theorem stepEndsV {w v : World} {R : Nat} (h1 : SBx v R 0 0 0 0 0) (h4 : Below w.heap.size w v) (hR : w.heap.size ≤ R) {tmps : Array Value} (ht : tmps.getD 2 undef = .pointer (some ⟨R, 0, none⟩)) (h9 : tmps.getD 3 undef = .int .i64 9) (op d a b n : Int) (ho : -9223372036854775808 ≤ op ∧ op ≤ 9223372036854775807) :
    bodyPost Tryd.prog Tryd.f9 (fun e w' => GivesV w e w') .ret { tmps := tmps, defers := [] } (((((v.setCell ⟨R, 0, none⟩ (.int .i64 op)).setCell ⟨R, 1, none⟩ (.int .i64 d)).setCell ⟨R, 2, none⟩ (.int .i64 a)).setCell ⟨R, 3, none⟩ (.int .i64 b)).setCell ⟨R, 4, none⟩ (.int .i64 n)) := by
  have hb := h1.put5 op d a b n
  have hbel := Below.setCell (Below.setCell (Below.setCell (Below.setCell (Below.setCell h4 (p := ⟨R, 0, none⟩) hR (.int .i64 op)) (p := ⟨R, 1, none⟩) hR (.int .i64 d)) (p := ⟨R, 2, none⟩) hR (.int .i64 a)) (p := ⟨R, 3, none⟩) hR (.int .i64 b)) (p := ⟨R, 4, none⟩) hR (.int .i64 n)
  generalize (((((v.setCell ⟨R, 0, none⟩ (.int .i64 op)).setCell ⟨R, 1, none⟩ (.int .i64 d)).setCell ⟨R, 2, none⟩ (.int .i64 a)).setCell ⟨R, 3, none⟩ (.int .i64 b)).setCell ⟨R, 4, none⟩ (.int .i64 n)) = u at hb hbel ⊢
  have hl := run_loadVar_mid (P := Tryd.prog) u R 0 25 [.int .i64 op, .int .i64 d, .int .i64 a, .int .i64 b, .int .i64 n] _ (range_of_row hb) Tryd.underlying25 rfl (by kernel_rfl)
  refine bodyPost_ret (v := .tuple #[.agg #[.int .i64 op, .int .i64 d, .int .i64 a, .int .i64 b, .int .i64 n], .int .i64 9]) ?_ rfl ⟨op, d, a, b, n, rfl, ho, hbel⟩
  rw [results_cell_tmp rfl, ht, h9]
  simp [asAddr, Result.andThen, hl]

set_option maxRecDepth 100000 in
set_option maxHeartbeats 8000000 in
theorem drawStepOk_any (sa : Option Addr) (len cap : Nat) (zs : List Int) (w : World) (hr : IsRow .u8 w sa len cap zs) :
    Calls Tryd.prog 9 #[.slice sa len cap] w fun e w' => GivesV w e w' := by
  have HR : Hid (IsRow .u8 w sa len cap zs) := hr
  clear hr
  go_enter Tryd.func9, Tryd.ntmps9
  go_wp2_with fail
  refine (new_any sa len cap zs _ (HR.out.afterS (Bel.alloc w _))).mono ?_
  rintro e w1 ⟨rfl, b1, c1, z1⟩
  have hsz : (w.alloc (.cells #[.int .i64 0, .int .i64 0, .int .i64 0, .int .i64 0, .int .i64 0] 25)).heap.size = w.heap.size + 1 := Array.size_push _
  rw [hsz] at b1 c1 z1 ⊢
  have hR1 : SBx w1 w.heap.size 0 0 0 0 0 := (b1.block w.heap.size (by omega)).trans (World.alloc_heap_new w (.cells #[.int .i64 0, .int .i64 0, .int .i64 0, .int .i64 0, .int .i64 0] 25))
  have B1 : Below w.heap.size w w1 := (Bel.alloc w _).trans (b1.mono (by omega))
  obtain ⟨p, HP⟩ : ∃ q, Hid (w.heap.size + 1 = q) := ⟨_, rfl⟩
  rw [HP.out] at c1 ⊢
  have hpw : w.heap.size < p := by have := HP.out; omega
  clear b1 hsz z1
  go_wp2_with fail
  refine (drawStep_any p 9 (by omega) _ c1).mono ?_
  rintro e w2 ⟨op, d, a, b, n, rfl, ho, f2, c2, _⟩
  have hR2 : SBx w2 w.heap.size 0 0 0 0 0 := f2.heap hR1 (by omega)
  have B2 : Below w.heap.size w w2 := B1.trans (f2.below (by omega) B1.size)
  have hp2 : p < w2.heap.size := c2.lt
  have hr2 : w.heap.size < w2.heap.size := (Array.getElem?_eq_some_iff.1 hR2).1
  clear f2 c1 hR1 B1
  have K0 : KeptV w p w.heap.size w2.heap.size op d a b n (w2.alloc (.cells #[.int .i64 op, .int .i64 d, .int .i64 a, .int .i64 b, .int .i64 n] 25)) :=
    ⟨(Below.heap_alloc _ _ _ hr2).trans hR2, World.alloc_heap_new w2 _, c2.later (Bel.alloc _ _), B2.trans ((Bel.alloc _ _).mono (by omega)), by omega⟩
  clear hR2 B2 c2
  obtain ⟨RB, HRB⟩ : ∃ q, Hid (w.heap.size = q) := ⟨_, rfl⟩
  obtain ⟨XB, HXB⟩ : ∃ q, Hid (w2.heap.size = q) := ⟨_, rfl⟩
  go_wp2_with fail
  refine (below_any p 6 _ K0.2.2.1).mono ?_
  rintro e w3 ⟨x, rfl, hx0, hx1, _, f3, c3⟩
  have K3 := K0.draw f3 c3
  rw [HRB.out, HXB.out] at K3
  rw [HXB.out, HRB.out]
  have HK : Hid (KeptV w p RB XB op d a b n w3) := K3
  have hRw : w.heap.size ≤ RB := K3.2.2.2.2.1
  have hRp : RB < p := K3.2.2.2.2.2.1
  have hpX : p < XB := K3.2.2.2.2.2.2
  have hx6 := hx1 (by omega)
  have HO : Hid (1 ≤ op ∧ op ≤ 21) := ho
  clear K0 f3 c3 hx1 hr2 hp2 ho K3 hpw
  obtain ⟨k0, k1, k2, k3, k4⟩ := HK.out.1.cells
  obtain ⟨x0, x1, x2, x3, x4⟩ := HK.out.2.1.cells
  have g0 := HK.out.1.fz 0
  have q0 := HK.out.2.1.fz 0
  have g1 := HK.out.1.fz 1
  have q1 := HK.out.2.1.fz 1
  have g2 := HK.out.1.fz 2
  have q2 := HK.out.2.1.fz 2
  have g3 := HK.out.1.fz 3
  have q3 := HK.out.2.1.fz 3
  have g4 := HK.out.1.fz 4
  have q4 := HK.out.2.1.fz 4
  have hRX : ¬ RB = XB := by omega
  have hXR : ¬ XB = RB := by omega
  have h5 : x = 0 ∨ x = 1 ∨ x = 2 ∨ x = 3 ∨ (4 ≤ x) := by omega
  rcases h5 with rfl | rfl | rfl | rfl | h5
  · go_wp2_with fail
    refine (below_any p 10 _ HK.out.2.2.1).mono ?_
    rintro e w4 ⟨z, rfl, hz0, hz1, _, f4, c4⟩
    have hz := hz1 (by omega)
    have HK4 : Hid (KeptV w p RB XB op d a b n w4) := HK.out.draw f4 c4
    clear hz1
    clear f4 c4 k0 k1 k2 k3 k4 x0 x1 x2 x3 x4 g0 g1 g2 g3 g4 q0 q1 q2 q3 q4
    obtain ⟨k0, k1, k2, k3, k4⟩ := HK4.out.1.cells
    obtain ⟨x0, x1, x2, x3, x4⟩ := HK4.out.2.1.cells
    have g0 := HK4.out.1.fz 0
    have q0 := HK4.out.2.1.fz 0
    have g1 := HK4.out.1.fz 1
    have q1 := HK4.out.2.1.fz 1
    have g2 := HK4.out.1.fz 2
    have q2 := HK4.out.2.1.fz 2
    have g3 := HK4.out.1.fz 3
    have q3 := HK4.out.2.1.fz 3
    have g4 := HK4.out.1.fz 4
    have q4 := HK4.out.2.1.fz 4
    go_wp2_with fail
    exact stepEndsV (R := RB) (HK4.out.1.other hRX) (Below.setCell HK4.out.2.2.2.1 (Nat.le_trans hRw (by simp; omega)) _) hRw rfl rfl op (z - 1) a b n (by have := HO.out; omega)
  · go_wp2_with fail
    have hlt : p < w3.heap.size := HK.out.2.2.1.lt
    refine (pickintS_any p w3.heap.size [-1, 0, 8, 9, 39, 40] 6 _ (HK.out.2.2.1.later (Bel.alloc _ _)) (by omega) rfl (by omega) (by omega) (by intro j hj; have h6 : j = 0 ∨ j = 1 ∨ j = 2 ∨ j = 3 ∨ j = 4 ∨ j = 5 := (by omega); rcases h6 with rfl | rfl | rfl | rfl | rfl | rfl <;> simp)).mono ?_
    rintro e w4 ⟨z, rfl, _, f4, c4⟩
    have HK4 : Hid (KeptV w p RB XB op d a b n w4) := HK.out.draw ((Fr.ofBelow (Bel.alloc _ _)).trans f4) c4
    clear f4 c4 k0 k1 k2 k3 k4 x0 x1 x2 x3 x4 g0 g1 g2 g3 g4 q0 q1 q2 q3 q4
    obtain ⟨k0, k1, k2, k3, k4⟩ := HK4.out.1.cells
    obtain ⟨x0, x1, x2, x3, x4⟩ := HK4.out.2.1.cells
    have g0 := HK4.out.1.fz 0
    have q0 := HK4.out.2.1.fz 0
    have g1 := HK4.out.1.fz 1
    have q1 := HK4.out.2.1.fz 1
    have g2 := HK4.out.1.fz 2
    have q2 := HK4.out.2.1.fz 2
    have g3 := HK4.out.1.fz 3
    have q3 := HK4.out.2.1.fz 3
    have g4 := HK4.out.1.fz 4
    have q4 := HK4.out.2.1.fz 4
    go_wp2_with fail
    exact stepEndsV (R := RB) (HK4.out.1.other hRX) (Below.setCell HK4.out.2.2.2.1 (Nat.le_trans hRw (by simp; omega)) _) hRw rfl rfl op d a b z (by have := HO.out; omega)
  · go_wp2_with fail
    refine (below_any p 24 _ HK.out.2.2.1).mono ?_
    rintro e w4 ⟨z, rfl, hz0, hz1, _, f4, c4⟩
    have hz := hz1 (by omega)
    have HK4 : Hid (KeptV w p RB XB op d a b n w4) := HK.out.draw f4 c4
    clear hz1
    clear f4 c4 k0 k1 k2 k3 k4 x0 x1 x2 x3 x4 g0 g1 g2 g3 g4 q0 q1 q2 q3 q4
    obtain ⟨k0, k1, k2, k3, k4⟩ := HK4.out.1.cells
    obtain ⟨x0, x1, x2, x3, x4⟩ := HK4.out.2.1.cells
    have g0 := HK4.out.1.fz 0
    have q0 := HK4.out.2.1.fz 0
    have g1 := HK4.out.1.fz 1
    have q1 := HK4.out.2.1.fz 1
    have g2 := HK4.out.1.fz 2
    have q2 := HK4.out.2.1.fz 2
    have g3 := HK4.out.1.fz 3
    have q3 := HK4.out.2.1.fz 3
    have g4 := HK4.out.1.fz 4
    have q4 := HK4.out.2.1.fz 4
    go_wp2_with fail
    exact stepEndsV (R := RB) (HK4.out.1.other hRX) (Below.setCell HK4.out.2.2.2.1 (Nat.le_trans hRw (by simp; omega)) _) hRw rfl rfl (z - 1) d a b n (by have := HO.out; omega)
  · go_wp2_with fail
    refine (below_any p 9 _ HK.out.2.2.1).mono ?_
    rintro e w4 ⟨z, rfl, hz0, hz1, _, f4, c4⟩
    have hz := hz1 (by omega)
    have HK4 : Hid (KeptV w p RB XB op d a b n w4) := HK.out.draw f4 c4
    clear hz1
    clear f4 c4 k0 k1 k2 k3 k4 x0 x1 x2 x3 x4 g0 g1 g2 g3 g4 q0 q1 q2 q3 q4
    obtain ⟨k0, k1, k2, k3, k4⟩ := HK4.out.1.cells
    obtain ⟨x0, x1, x2, x3, x4⟩ := HK4.out.2.1.cells
    have g0 := HK4.out.1.fz 0
    have q0 := HK4.out.2.1.fz 0
    have g1 := HK4.out.1.fz 1
    have q1 := HK4.out.2.1.fz 1
    have g2 := HK4.out.1.fz 2
    have q2 := HK4.out.2.1.fz 2
    have g3 := HK4.out.1.fz 3
    have q3 := HK4.out.2.1.fz 3
    have g4 := HK4.out.1.fz 4
    have q4 := HK4.out.2.1.fz 4
    go_wp2_with fail
    exact stepEndsV (R := RB) (HK4.out.1.other hRX) (Below.setCell HK4.out.2.2.2.1 (Nat.le_trans hRw (by simp; omega)) _) hRw rfl rfl op d a z n (by have := HO.out; omega)
  · have e0 : (x == 0) = false := by simp; omega
    have e1 : (x == 1) = false := by simp; omega
    have e2 : (x == 2) = false := by simp; omega
    have e3 : (x == 3) = false := by simp; omega
    go_wp2_with fail
    exact stepEndsV (R := RB) HK.out.1 HK.out.2.2.2.1 hRw rfl rfl op d a b n (by have := HO.out; omega)
end Go.Proofs.YtebcocehdjoafaaDoor
