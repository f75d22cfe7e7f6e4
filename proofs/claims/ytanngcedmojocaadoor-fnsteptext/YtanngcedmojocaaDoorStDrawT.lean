/- Drawn steps, as the laws about lines and idle steps take them. -/
import Derived.Test.YtanngcedmojocaaDoorStDraw
import Derived.Test.YtanngcedmojocaaDoorCks
import Derived.Laws.ResultCell
import Derived.Handy
import Derived.Deep.DeepCutAuto
namespace Go.Proofs.YtanngcedmojocaaDoor
open Go.ChangeShapes Go.WideShapes Go.ChangeAt Go.RowKit
set_option linter.unusedVariables false

theorem big_anyT (a : Option Addr) (len cap : Nat) (w : World) : Calls Tryd.prog 6 #[.slice a len cap] w fun e w' => ∃ b : Bool, e = .returned (.bool b) ∧ w' = w := by
  go_enter Tryd.func6, Tryd.ntmps6
  go_wp2
  go_ret
  exact ⟨_, rfl, rfl⟩
theorem IsRow.afterT {k : IntKind} {w w' : World} {a : Option Addr} {len cap : Nat} {zs : List Int} (h : IsRow k w a len cap zs) (hb : Below w.heap.size w w') : IsRow k w' a len cap zs := by
  rcases h with h | ⟨x, h1, h2, h3, h4, h5, h6⟩
  · exact .inl h
  · exact .inr ⟨x, h1, h2, h3, h4, fun i hi => Bel.keeps hb (h5 i hi), h6⟩

theorem SBx.putT {w : World} {X : Nat} {op d a b n : Int} (h : SBx w X op d a b n) (v : Int) :
    SBx (w.setCell ⟨X, 0, none⟩ (.int .i64 v)) X v d a b n ∧ SBx (w.setCell ⟨X, 1, none⟩ (.int .i64 v)) X op v a b n ∧ SBx (w.setCell ⟨X, 3, none⟩ (.int .i64 v)) X op d a v n ∧ SBx (w.setCell ⟨X, 4, none⟩ (.int .i64 v)) X op d a b v := by
  unfold SBx at *
  refine ⟨?_, ?_, ?_, ?_⟩ <;> simp [World.setCell, Array.getElem?_modify, h]
/-- What the walk keeps. -/
def KeptT (w : World) (p R X : Nat) (op d a b n : Int) (v : World) : Prop := SBx v R 0 0 0 0 0 ∧ SBx v X op d a b n ∧ Cur v p ∧ Below w.heap.size w v ∧ (w.heap.size ≤ R ∧ R < p ∧ p < X)
theorem KeptT.draw {w v v' : World} {p R X : Nat} {op d a b n : Int} (h : KeptT w p R X op d a b n v) (hf : Fr p v v') (hc : Cur v' p) : KeptT w p R X op d a b n v' := by
  obtain ⟨h1, h2, h3, h4, h5⟩ := h
  exact ⟨hf.heap h1 (by omega), hf.heap h2 (by omega), hc, h4.trans (hf.below (by omega) h4.size), h5⟩
theorem KeptT.put5 {w v : World} {p R X : Nat} {op d a b n : Int} (h : KeptT w p R X op d a b n v) (op' d' a' b' n' : Int) : KeptT w p R X op' d' a' b' n' (((((v.setCell ⟨X, 0, none⟩ (.int .i64 op')).setCell ⟨X, 1, none⟩ (.int .i64 d')).setCell ⟨X, 2, none⟩ (.int .i64 a')).setCell ⟨X, 3, none⟩ (.int .i64 b')).setCell ⟨X, 4, none⟩ (.int .i64 n')) := by
  obtain ⟨h1, h2, h3, h4, h5⟩ := h
  have hn : R ≠ X := by omega
  have hw : w.heap.size ≤ X := by omega
  refine ⟨(((((h1.other hn).other hn).other hn).other hn).other hn), h2.put5 op' d' a' b' n', ?_, ?_, h5⟩
  · exact h3.below h5.2.2 (Below.setCell (Below.setCell (Below.setCell (Below.setCell (Below.setCell (Below.refl _ _) (Nat.le_refl X) _) (Nat.le_refl X) _) (Nat.le_refl X) _) (Nat.le_refl X) _) (Nat.le_refl X) _)
  · exact Below.setCell (Below.setCell (Below.setCell (Below.setCell (Below.setCell h4 (p := ⟨X, 0, none⟩) hw _) (p := ⟨X, 1, none⟩) hw _) (p := ⟨X, 2, none⟩) hw _) (p := ⟨X, 3, none⟩) hw _) (p := ⟨X, 4, none⟩) hw _
/-- A step is given, its numbers of 64 bits. -/
def GivesT (w : World) (e : Ending) (w' : World) : Prop := ∃ op d a b n : Int, e = .returned (.agg #[.int .i64 op, .int .i64 d, .int .i64 a, .int .i64 b, .int .i64 n]) ∧ (1 ≤ op ∧ op ≤ 21) ∧ (-9223372036854775808 ≤ n ∧ n ≤ 9223372036854775807) ∧ Below w.heap.size w w'
theorem stepEndsT {w v : World} {R : Nat} (h1 : SBx v R 0 0 0 0 0) (h4 : Below w.heap.size w v) (hR : w.heap.size ≤ R) {tmps : Array Value} (ht : tmps.getD 2 undef = .pointer (some ⟨R, 0, none⟩)) (op d a b n : Int) (ho : 1 ≤ op ∧ op ≤ 21) (hn : -9223372036854775808 ≤ n ∧ n ≤ 9223372036854775807) :
    bodyPost Tryd.prog Tryd.f7 (fun e w' => GivesT w e w') .ret { tmps := tmps, defers := [] } (((((v.setCell ⟨R, 0, none⟩ (.int .i64 op)).setCell ⟨R, 1, none⟩ (.int .i64 d)).setCell ⟨R, 2, none⟩ (.int .i64 a)).setCell ⟨R, 3, none⟩ (.int .i64 b)).setCell ⟨R, 4, none⟩ (.int .i64 n)) := by
  have hb := h1.put5 op d a b n
  have hbel := Below.setCell (Below.setCell (Below.setCell (Below.setCell (Below.setCell h4 (p := ⟨R, 0, none⟩) hR (.int .i64 op)) (p := ⟨R, 1, none⟩) hR (.int .i64 d)) (p := ⟨R, 2, none⟩) hR (.int .i64 a)) (p := ⟨R, 3, none⟩) hR (.int .i64 b)) (p := ⟨R, 4, none⟩) hR (.int .i64 n)
  refine bodyPost_ret (v := .agg #[.int .i64 op, .int .i64 d, .int .i64 a, .int .i64 b, .int .i64 n]) (row_results rfl ht hb Tryd.underlying25 rfl (by kernel_rfl)) rfl ⟨op, d, a, b, n, rfl, ho, hn, hbel⟩

set_option maxRecDepth 100000 in
set_option maxHeartbeats 8000000 in
theorem drawStepText_any (sa : Option Addr) (len cap : Nat) (zs : List Int) (w : World) (hr : IsRow .u8 w sa len cap zs) :
    Calls Tryd.prog 7 #[.slice sa len cap] w fun e w' => GivesT w e w' := by
  have HR : Hid (IsRow .u8 w sa len cap zs) := hr
  clear hr
  go_enter Tryd.func7, Tryd.ntmps7
  go_wp2_with fail
  refine (new_any sa len cap zs _ (HR.out.afterT (Bel.alloc w _))).mono ?_
  rintro e w1 ⟨rfl, b1, c1, z1⟩
  have hsz : (w.alloc (.cells #[.int .i64 0, .int .i64 0, .int .i64 0, .int .i64 0, .int .i64 0] 25)).heap.size = w.heap.size + 1 := Array.size_push _
  rw [hsz] at b1 c1 z1 ⊢
  have hR1 : SBx w1 w.heap.size 0 0 0 0 0 := (b1.block w.heap.size (by omega)).trans (World.alloc_heap_new w (.cells #[.int .i64 0, .int .i64 0, .int .i64 0, .int .i64 0, .int .i64 0] 25))
  have B1 : Below w.heap.size w w1 := (Bel.alloc w _).trans (b1.mono (by omega))
  obtain ⟨p, HP⟩ : ∃ q, Hid (w.heap.size + 1 = q) := ⟨_, rfl⟩
  rw [HP.out] at c1 ⊢
  have hpw : w.heap.size < p := by have := HP.out; omega
  clear b1 hsz z1
  go_wp2_with fail
  refine (drawStep_any p 9 (by omega) _ c1).mono ?_
  rintro e w2 ⟨op, d, a, b, n, rfl, ho, f2, c2, hnb⟩
  have HO : Hid (1 ≤ op ∧ op ≤ 21) := ho
  have HN : Hid (-9223372036854775808 ≤ n ∧ n ≤ 9223372036854775807) := hnb
  have hR2 : SBx w2 w.heap.size 0 0 0 0 0 := f2.heap hR1 (by omega)
  have B2 : Below w.heap.size w w2 := B1.trans (f2.below (by omega) B1.size)
  have hp2 : p < w2.heap.size := c2.lt
  have hr2 : w.heap.size < w2.heap.size := (Array.getElem?_eq_some_iff.1 hR2).1
  clear f2 c1 hR1 B1 ho hnb
  have K0 : KeptT w p w.heap.size w2.heap.size op d a b n (w2.alloc (.cells #[.int .i64 op, .int .i64 d, .int .i64 a, .int .i64 b, .int .i64 n] 25)) :=
    ⟨(Below.heap_alloc _ _ _ hr2).trans hR2, World.alloc_heap_new w2 _, c2.later (Bel.alloc _ _), B2.trans ((Bel.alloc _ _).mono (by omega)), by omega⟩
  clear hR2 B2 c2
  obtain ⟨RB, HRB⟩ : ∃ q, Hid (w.heap.size = q) := ⟨_, rfl⟩
  obtain ⟨XB, HXB⟩ : ∃ q, Hid (w2.heap.size = q) := ⟨_, rfl⟩
  go_wp2_with fail
  refine (once_any p 6 _ K0.2.2.1).mono ?_
  rintro e w3 ⟨q, rfl, f3, c3⟩
  have K3 := K0.draw f3 c3
  rw [HRB.out, HXB.out] at K3
  rw [HXB.out, HRB.out]
  have HK : Hid (KeptT w p RB XB op d a b n w3) := K3
  have hRw : w.heap.size ≤ RB := K3.2.2.2.2.1
  have hRp : RB < p := K3.2.2.2.2.2.1
  have hpX : p < XB := K3.2.2.2.2.2.2
  clear K0 K3 f3 c3
  obtain ⟨k0, k1, k2, k3, k4⟩ := HK.out.1.cells
  obtain ⟨x0, x1, x2, x3, x4⟩ := HK.out.2.1.cells
  have g0 := HK.out.1.fz 0
  have q0 := HK.out.2.1.fz 0
  have g1 := HK.out.1.fz 1
  have q1 := HK.out.2.1.fz 1
  have g2 := HK.out.1.fz 2
  have q2 := HK.out.2.1.fz 2
  have g3 := HK.out.1.fz 3
  have q3 := HK.out.2.1.fz 3
  have g4 := HK.out.1.fz 4
  have q4 := HK.out.2.1.fz 4
  have hRX : ¬ RB = XB := by omega
  have hXR : ¬ XB = RB := by omega
  cases q with
  | false =>
    go_wp2_with fail
    exact stepEndsT (R := RB) HK.out.1 HK.out.2.2.2.1 hRw rfl op d a b n HO.out HN.out
  | true =>
    go_wp2_with fail
    have hlt : p < w3.heap.size := HK.out.2.2.1.lt
    refine (pickintS_any p w3.heap.size [-1, 39, 40, 899, 900, -9223372036854775808] 6 _ (HK.out.2.2.1.later (Bel.alloc _ _)) (by omega) rfl (by omega) (by omega) (by intro j hj; have h6 : j = 0 ∨ j = 1 ∨ j = 2 ∨ j = 3 ∨ j = 4 ∨ j = 5 := (by omega); rcases h6 with rfl | rfl | rfl | rfl | rfl | rfl <;> simp)).mono ?_
    rintro e w4 ⟨z, rfl, hz, f4, c4⟩
    have HZ : Hid (-9223372036854775808 ≤ z ∧ z ≤ 9223372036854775807) := by show _ ∧ _; simp at hz; omega
    have HK4 : Hid (KeptT w p RB XB op d a b n w4) := HK.out.draw ((Fr.ofBelow (Bel.alloc _ _)).trans f4) c4
    clear f4 c4 hz k0 k1 k2 k3 k4 x0 x1 x2 x3 x4 g0 g1 g2 g3 g4 q0 q1 q2 q3 q4
    obtain ⟨k0, k1, k2, k3, k4⟩ := HK4.out.1.cells
    obtain ⟨x0, x1, x2, x3, x4⟩ := HK4.out.2.1.cells
    have g0 := HK4.out.1.fz 0
    have q0 := HK4.out.2.1.fz 0
    have g1 := HK4.out.1.fz 1
    have q1 := HK4.out.2.1.fz 1
    have g2 := HK4.out.1.fz 2
    have q2 := HK4.out.2.1.fz 2
    have g3 := HK4.out.1.fz 3
    have q3 := HK4.out.2.1.fz 3
    have g4 := HK4.out.1.fz 4
    have q4 := HK4.out.2.1.fz 4
    go_wp2_with fail
    exact stepEndsT (R := RB) (HK4.out.1.other hRX) (Below.setCell HK4.out.2.2.2.1 (Nat.le_trans hRw (by simp; omega)) _) hRw rfl op d a b z HO.out HZ.out

theorem wp_skipsT {P : Program} {Q : Exit → Act → World → Prop} {o : Oper} {a : Act} {w w' : World} {K : Act → World → Prop} (h : (execOp a.eval o).run P w = .ok .skip w') (hk : K (a.put o.dst undef) w') : o.wp P a w K Q := by
  unfold Oper.wp
  simp only [h]
  exact hk
/-- A step and a place are given. -/
def GivesTP (w : World) (e : Ending) (w' : World) : Prop := ∃ op d a b n z : Int, e = .returned (.tuple #[.agg #[.int .i64 op, .int .i64 d, .int .i64 a, .int .i64 b, .int .i64 n], .int .i64 z]) ∧ (1 ≤ op ∧ op ≤ 21) ∧ (-9223372036854775808 ≤ n ∧ n ≤ 9223372036854775807) ∧ (0 ≤ z ∧ z < 9) ∧ Below w.heap.size w w'
theorem stepEndsTP {w v : World} {R : Nat} (h1 : SBx v R 0 0 0 0 0) (h4 : Below w.heap.size w v) (hR : w.heap.size ≤ R) {tmps : Array Value} {z : Int} (ht : tmps.getD 2 undef = .pointer (some ⟨R, 0, none⟩)) (h9 : tmps.getD 3 undef = .int .i64 z) (hz : 0 ≤ z ∧ z < 9) (op d a b n : Int) (ho : 1 ≤ op ∧ op ≤ 21) (hn : -9223372036854775808 ≤ n ∧ n ≤ 9223372036854775807) :
    bodyPost Tryd.prog Tryd.f10 (fun e w' => GivesTP w e w') .ret { tmps := tmps, defers := [] } (((((v.setCell ⟨R, 0, none⟩ (.int .i64 op)).setCell ⟨R, 1, none⟩ (.int .i64 d)).setCell ⟨R, 2, none⟩ (.int .i64 a)).setCell ⟨R, 3, none⟩ (.int .i64 b)).setCell ⟨R, 4, none⟩ (.int .i64 n)) := by
  have hb := h1.put5 op d a b n
  have hbel := Below.setCell (Below.setCell (Below.setCell (Below.setCell (Below.setCell h4 (p := ⟨R, 0, none⟩) hR (.int .i64 op)) (p := ⟨R, 1, none⟩) hR (.int .i64 d)) (p := ⟨R, 2, none⟩) hR (.int .i64 a)) (p := ⟨R, 3, none⟩) hR (.int .i64 b)) (p := ⟨R, 4, none⟩) hR (.int .i64 n)
  generalize (((((v.setCell ⟨R, 0, none⟩ (.int .i64 op)).setCell ⟨R, 1, none⟩ (.int .i64 d)).setCell ⟨R, 2, none⟩ (.int .i64 a)).setCell ⟨R, 3, none⟩ (.int .i64 b)).setCell ⟨R, 4, none⟩ (.int .i64 n)) = u at hb hbel ⊢
  have hl := run_loadVar_mid (P := Tryd.prog) u R 0 25 [.int .i64 op, .int .i64 d, .int .i64 a, .int .i64 b, .int .i64 n] _ (range_of_row hb) Tryd.underlying25 rfl (by kernel_rfl)
  refine bodyPost_ret (v := .tuple #[.agg #[.int .i64 op, .int .i64 d, .int .i64 a, .int .i64 b, .int .i64 n], .int .i64 z]) ?_ rfl ⟨op, d, a, b, n, z, rfl, ho, hn, hz, hbel⟩
  rw [results_cell_tmp rfl, ht, h9]
  simp [asAddr, Result.andThen, hl]

set_option maxRecDepth 100000 in
set_option maxHeartbeats 8000000 in
theorem drawIdle_any (sa : Option Addr) (len cap : Nat) (zs : List Int) (w : World) (hr : IsRow .u8 w sa len cap zs) :
    Calls Tryd.prog 10 #[.slice sa len cap] w fun e w' => GivesTP w e w' := by
  have HR : Hid (IsRow .u8 w sa len cap zs) := hr
  clear hr
  go_enter Tryd.func10, Tryd.ntmps10
  go_wp2_with fail
  refine (new_any sa len cap zs _ (HR.out.afterT (Bel.alloc w _))).mono ?_
  rintro e w1 ⟨rfl, b1, c1, z1⟩
  have hsz : (w.alloc (.cells #[.int .i64 0, .int .i64 0, .int .i64 0, .int .i64 0, .int .i64 0] 25)).heap.size = w.heap.size + 1 := Array.size_push _
  rw [hsz] at b1 c1 z1 ⊢
  have hR1 : SBx w1 w.heap.size 0 0 0 0 0 := (b1.block w.heap.size (by omega)).trans (World.alloc_heap_new w (.cells #[.int .i64 0, .int .i64 0, .int .i64 0, .int .i64 0, .int .i64 0] 25))
  have B1 : Below w.heap.size w w1 := (Bel.alloc w _).trans (b1.mono (by omega))
  obtain ⟨p, HP⟩ : ∃ q, Hid (w.heap.size + 1 = q) := ⟨_, rfl⟩
  rw [HP.out] at c1 ⊢
  have hpw : w.heap.size < p := by have := HP.out; omega
  clear b1 hsz z1
  go_wp2_with fail
  refine (drawStep_any p 9 (by omega) _ c1).mono ?_
  rintro e w2 ⟨op, d, a, b, n, rfl, ho, f2, c2, hnb⟩
  have HO : Hid (1 ≤ op ∧ op ≤ 21) := ho
  have HN : Hid (-9223372036854775808 ≤ n ∧ n ≤ 9223372036854775807) := hnb
  have hR2 : SBx w2 w.heap.size 0 0 0 0 0 := f2.heap hR1 (by omega)
  have B2 : Below w.heap.size w w2 := B1.trans (f2.below (by omega) B1.size)
  have hp2 : p < w2.heap.size := c2.lt
  have hr2 : w.heap.size < w2.heap.size := (Array.getElem?_eq_some_iff.1 hR2).1
  clear f2 c1 hR1 B1 ho hnb
  have K0 : KeptT w p w.heap.size w2.heap.size op d a b n (w2.alloc (.cells #[.int .i64 op, .int .i64 d, .int .i64 a, .int .i64 b, .int .i64 n] 25)) :=
    ⟨(Below.heap_alloc _ _ _ hr2).trans hR2, World.alloc_heap_new w2 _, c2.later (Bel.alloc _ _), B2.trans ((Bel.alloc _ _).mono (by omega)), by omega⟩
  clear hR2 B2 c2
  obtain ⟨RB, HRB⟩ : ∃ q, Hid (w.heap.size = q) := ⟨_, rfl⟩
  obtain ⟨XB, HXB⟩ : ∃ q, Hid (w2.heap.size = q) := ⟨_, rfl⟩
  go_wp2_with fail
  refine (once_any p 3 _ K0.2.2.1).mono ?_
  rintro e w3 ⟨q, rfl, f3, c3⟩
  have K3 := K0.draw f3 c3
  rw [HRB.out, HXB.out] at K3
  rw [HXB.out, HRB.out]
  have HK : Hid (KeptT w p RB XB op d a b n w3) := K3
  have hRw : w.heap.size ≤ RB := K3.2.2.2.2.1
  have hRp : RB < p := K3.2.2.2.2.2.1
  have hpX : p < XB := K3.2.2.2.2.2.2
  clear K0 K3 f3 c3
  obtain ⟨k0, k1, k2, k3, k4⟩ := HK.out.1.cells
  obtain ⟨x0, x1, x2, x3, x4⟩ := HK.out.2.1.cells
  have g0 := HK.out.1.fz 0
  have q0 := HK.out.2.1.fz 0
  have g1 := HK.out.1.fz 1
  have q1 := HK.out.2.1.fz 1
  have g2 := HK.out.1.fz 2
  have q2 := HK.out.2.1.fz 2
  have g3 := HK.out.1.fz 3
  have q3 := HK.out.2.1.fz 3
  have g4 := HK.out.1.fz 4
  have q4 := HK.out.2.1.fz 4
  have hRX : ¬ RB = XB := by omega
  have hXR : ¬ XB = RB := by omega
  go_upto_if 11 with fail
  go_cut [] (fun wx => ∃ op d a b n : Int, KeptT w p RB XB op d a b n wx ∧ (1 ≤ op ∧ op ≤ 21) ∧ (-9223372036854775808 ≤ n ∧ n ≤ 9223372036854775807))
  case first =>
    cases q with
    | false =>
      go_wp2_with fail
      go_meet
      exact ⟨op, d, a, b, n, HK.out, HO.out, HN.out⟩
    | true =>
      go_wp2_with fail
      refine (below_any p 4 _ HK.out.2.2.1).mono ?_
      rintro e w4 ⟨z, rfl, hz0, hz1, _, f4, c4⟩
      have HK4 : Hid (KeptT w p RB XB op d a b n w4) := HK.out.draw f4 c4
      clear f4 c4 hz1 k0 k1 k2 k3 k4 x0 x1 x2 x3 x4 g0 g1 g2 g3 g4 q0 q1 q2 q3 q4
      obtain ⟨k0, k1, k2, k3, k4⟩ := HK4.out.1.cells
      obtain ⟨x0, x1, x2, x3, x4⟩ := HK4.out.2.1.cells
      have g0 := HK4.out.1.fz 0
      have q0 := HK4.out.2.1.fz 0
      have g1 := HK4.out.1.fz 1
      have q1 := HK4.out.2.1.fz 1
      have g2 := HK4.out.1.fz 2
      have q2 := HK4.out.2.1.fz 2
      have g3 := HK4.out.1.fz 3
      have q3 := HK4.out.2.1.fz 3
      have g4 := HK4.out.1.fz 4
      have q4 := HK4.out.2.1.fz 4
      go_wp2_with fail
      go_meet
      exact ⟨2, 2, z, 0, 0, HK4.out.put5 2 2 z 0 0, by omega, by omega⟩
  case rest =>
    obtain ⟨op, d, a, b, n, hk, ho, hn⟩ := hcut
    have HKC : Hid (KeptT w p RB XB op d a b n wc) := hk
    have HOC : Hid (1 ≤ op ∧ op ≤ 21) := ho
    have HNC : Hid (-9223372036854775808 ≤ n ∧ n ≤ 9223372036854775807) := hn
    clear hk ho hn k0 k1 k2 k3 k4 x0 x1 x2 x3 x4 g0 g1 g2 g3 g4 q0 q1 q2 q3 q4
    go_wp2_with fail
    obtain ⟨y0, y1, y2, y3, y4⟩ := HKC.out.2.1.cells
    refine wp_region_held_drew (S := fun w' => w'.cell? ⟨XB, 0, none⟩ = some (.int .i64 op) ∧ w'.cell? ⟨XB, 1, none⟩ = some (.int .i64 d) ∧ w'.cell? ⟨XB, 2, none⟩ = some (.int .i64 a) ∧ w'.cell? ⟨XB, 3, none⟩ = some (.int .i64 b) ∧ w'.cell? ⟨XB, 4, none⟩ = some (.int .i64 n)) (by kernel_rfl) ⟨y0, y1, y2, y3, y4⟩ (fun hHeld => ?_)
    have HKD : Hid (KeptT w p RB XB op d a b n wc.drew) := ⟨HKC.out.1, HKC.out.2.1, HKC.out.2.2.1.later (Below.refl _ _).drew, HKC.out.2.2.2.1.drew, HKC.out.2.2.2.2⟩
    obtain ⟨u1, hu1⟩ : ∃ W, wc.drew = W := ⟨_, rfl⟩
    rw [hu1] at hHeld HKD ⊢
    clear hu1 y0 y1 y2 y3 y4
    refine wpAnyH_take (i := 0) (oi := { dst := some 15, op := Go.Op.load 25 (Go.Operand.tmp 5), type := 25, pos := "l16_trim.go:49", after := #[], guard := none }) (v := ?_) rfl (by kernel_rfl) (by kernel_rfl) (by kernel_rfl) (fun _ _ _ h => h) (Or.inl ⟨by rfl, ?_⟩) (by assumption) ?_
    rotate_left
    · intro w hSw
      (try dsimp only at hSw)
      go_simp
      (try with_reducible rfl)
    try simp only [Act.put, List.setIfInBounds_toArray, List.set_cons_zero, List.set_cons_succ]
    refine wpAnyH_take (i := 1) (oi := { dst := some 16, op := Go.Op.move (Go.Operand.tmp 4), type := 41, pos := "l16_trim.go:49", after := #[], guard := none }) (v := ?_) rfl (by kernel_rfl) (by kernel_rfl) (by kernel_rfl) (fun _ _ _ h => h) (Or.inl ⟨by rfl, ?_⟩) (by assumption) ?_
    rotate_left
    · intro w hSw
      (try dsimp only at hSw)
      go_simp
      (try with_reducible rfl)
    try simp only [Act.put, List.setIfInBounds_toArray, List.set_cons_zero, List.set_cons_succ]
    refine ckAnyH_oneK (i := 2) (o := { dst := some 17, op := Go.Op.call { callee := Go.Callee.value (Go.Operand.func 30), args := #[Go.Operand.tmp 16, Go.Operand.const (Go.Value.int Go.IntKind.i64 9)], argTypes := #[41, 3] }, type := 3, pos := "l16_trim.go:49", after := #[{ on := 1, ground := Go.Ground.data }], guard := none }) rfl rfl (by kernel_rfl) (fun K9 hK9 => ?_)
    refine wp_call_of (f := 30) (args := #[.pointer (some ⟨p, 0, none⟩), .int .i64 9]) (by go_simp) (below_any p 9 _ HKD.out.2.2.1) ?_
    rintro e u2 ⟨z, rfl, hz0, hz1, _, f5, c5⟩
    have HK5 : Hid (KeptT w p RB XB op d a b n u2) := HKD.out.draw f5 c5
    have HZ : Hid (0 ≤ z ∧ z < 9) := ⟨hz0, hz1 (by omega)⟩
    refine ⟨_, rfl, hK9 _ _ ⟨HK5.out.2.1.cells, ?_⟩⟩
    (try simp only [Act.put, List.setIfInBounds_toArray, List.set_cons_zero, List.set_cons_succ])
    clear hK9 hHeld f5 c5 hz0 hz1
    have hHeld := HK5.out.2.1.cells
    refine ckAnyH_oneK (i := 3) (o := { dst := none, op := Go.Op.store 25 (Go.Operand.tmp 2) (Go.Operand.tmp 15), type := 0, pos := "l16_trim.go:49", after := #[{ on := 0, ground := Go.Ground.data }, { on := 2, ground := Go.Ground.chain }, { on := 0, ground := Go.Ground.phase }, { on := 1, ground := Go.Ground.textOnly Go.Departure.lateStores }, { on := 2, ground := Go.Ground.textOnly Go.Departure.lateStoresUnsure }], guard := none }) rfl rfl (by kernel_rfl) (fun K9 hK9 => ?_)
    obtain ⟨k0, k1, k2, k3, k4⟩ := HK5.out.1.cells
    have g0 := HK5.out.1.fz 0
    have g1 := HK5.out.1.fz 1
    have g2 := HK5.out.1.fz 2
    have g3 := HK5.out.1.fz 3
    have g4 := HK5.out.1.fz 4
    refine wp_skipsT (w' := (((((u2.setCell ⟨RB, 0, none⟩ (.int .i64 op)).setCell ⟨RB, 1, none⟩ (.int .i64 d)).setCell ⟨RB, 2, none⟩ (.int .i64 a)).setCell ⟨RB, 3, none⟩ (.int .i64 b)).setCell ⟨RB, 4, none⟩ (.int .i64 n))) (by simp [execOp, go_sem, k0, k1, k2, k3, k4, g0, g1, g2, g3, g4]) (hK9 _ _ ⟨?_, ?_⟩)
    · have hn : XB ≠ RB := by omega
      exact ((((((HK5.out.2.1.other hn).other hn).other hn).other hn).other hn)).cells
    (try simp only [Act.put])
    clear hK9
    have hHeld2 := ((((((HK5.out.2.1.other (v := .int .i64 op) (o := 0) (show XB ≠ RB by omega)).other (v := .int .i64 d) (o := 1) (show XB ≠ RB by omega)).other (v := .int .i64 a) (o := 2) (show XB ≠ RB by omega)).other (v := .int .i64 b) (o := 3) (show XB ≠ RB by omega)).other (v := .int .i64 n) (o := 4) (show XB ≠ RB by omega))).cells
    refine wpAnyH_take (i := 4) (oi := { dst := some 3, op := Go.Op.assign (Go.Operand.tmp 17), type := 3, pos := "l16_trim.go:49", after := #[{ on := 2, ground := Go.Ground.data }, { on := 3, ground := Go.Ground.chain }, { on := 0, ground := Go.Ground.phase }, { on := 1, ground := Go.Ground.phase }, { on := 2, ground := Go.Ground.phase }, { on := 3, ground := Go.Ground.phase }], guard := none }) (v := ?_) rfl (by kernel_rfl) (by kernel_rfl) (by kernel_rfl) (fun _ _ _ h => h) (Or.inl ⟨by rfl, ?_⟩) (by assumption) ?_
    rotate_left
    · intro w hSw
      (try dsimp only at hSw)
      go_simp
      (try with_reducible rfl)
    try simp only [Act.put, List.setIfInBounds_toArray, List.set_cons_zero, List.set_cons_succ]
    refine wpAnyH_done (by kernel_rfl) ?_ _
    go_wp2
    exact stepEndsTP (R := RB) HK5.out.1 HK5.out.2.2.2.1 hRw rfl rfl HZ.out op d a b n HOC.out HNC.out
end Go.Proofs.YtanngcedmojocaaDoor
