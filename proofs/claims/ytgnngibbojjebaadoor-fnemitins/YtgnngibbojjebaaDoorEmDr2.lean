/- The model's drawn places for code: DrawEmitIns. -/
import Derived.Test.YtgnngibbojjebaaDoorEmDr
import Derived.Test.YtgnngibbojjebaaDoorOwn
namespace Go.Proofs.YtgnngibbojjebaaDoor
open Go.ChangeShapes Go.WideShapes Go.ChangeAt Go.RowKit
set_option linter.unusedVariables false

theorem IsRow.afterE {k : IntKind} {w w' : World} {a : Option Addr} {len cap : Nat} {zs : List Int} (h : IsRow k w a len cap zs) (hb : Below w.heap.size w w') : IsRow k w' a len cap zs := by
  rcases h with h | ⟨x, h1, h2, h3, h4, h5, h6⟩
  · exact .inl h
  · exact .inr ⟨x, h1, h2, h3, h4, fun i hi => Bel.keeps hb (h5 i hi), h6⟩
theorem KeptE.setA {w v : World} {p R X : Nat} {op d a b n : Int} (h : KeptE w p R X op d a b n v) (x : Int) : KeptE w p R X op d x b n (v.setCell ⟨X, 2, none⟩ (.int .i64 x)) := by
  refine ⟨?_, ?_, h.cur.below (lo := X) h.ord.2.2 (Below.setCell (Below.refl _ _) (p := ⟨X, 2, none⟩) (Nat.le_refl _) _), h.bel.setCell (p := ⟨X, 2, none⟩) (by have := h.ord; show w.heap.size ≤ X; omega) _, h.ord⟩
  · exact (Below.heap_setCell _ _ _ R (by have := h.ord; show R ≠ X; omega)).trans h.res
  · have hb := h.box
    unfold IBx at hb ⊢
    simp [World.setCell, Array.getElem?_modify, hb]
theorem KeptE.setD {w v : World} {p R X : Nat} {op d a b n : Int} (h : KeptE w p R X op d a b n v) (x : Int) : KeptE w p R X op x a b n (v.setCell ⟨X, 1, none⟩ (.int .i64 x)) := by
  refine ⟨?_, ?_, h.cur.below (lo := X) h.ord.2.2 (Below.setCell (Below.refl _ _) (p := ⟨X, 1, none⟩) (Nat.le_refl _) _), h.bel.setCell (p := ⟨X, 1, none⟩) (by have := h.ord; show w.heap.size ≤ X; omega) _, h.ord⟩
  · exact (Below.heap_setCell _ _ _ R (by have := h.ord; show R ≠ X; omega)).trans h.res
  · have hb := h.box
    unfold IBx at hb ⊢
    simp [World.setCell, Array.getElem?_modify, hb]
theorem IBx.put5 {w : World} {X : Nat} {o0 o1 o2 o3 o4 : Int} (h : IBx w X o0 o1 o2 o3 o4) (k0 k1 k2 k3 k4 : Int) : IBx (((((w.setCell ⟨X, 0, none⟩ (.int .i64 k0)).setCell ⟨X, 1, none⟩ (.int .i64 k1)).setCell ⟨X, 2, none⟩ (.int .i64 k2)).setCell ⟨X, 3, none⟩ (.int .i64 k3)).setCell ⟨X, 4, none⟩ (.int .i64 k4)) X k0 k1 k2 k3 k4 := by
  unfold IBx at h ⊢
  simp [World.setCell, Array.getElem?_modify, h]
theorem results_ins {fn : Func} {t : Tmp} (h : fn.results = #[.cell t 25]) (tmps : Array Value) (w : World) {B : Nat} {x0 x1 x2 x3 x4 : Int} (hp : tmps.getD t undef = .pointer (some ⟨B, 0, none⟩)) (hb : IBx w B x0 x1 x2 x3 x4) : (results fn tmps).run Tryd.prog w = .ok (.agg #[.int .i64 x0, .int .i64 x1, .int .i64 x2, .int .i64 x3, .int .i64 x4]) w := by
  have hp' : tmps[t]?.getD undef = .pointer (some ⟨B, 0, none⟩) := by simpa using hp
  obtain ⟨r0, r1, r2, r3, r4⟩ := hb.cells
  simp [results, h, hp', go_sem, r0, r1, r2, r3, r4]
theorem below_fiveE {w0 w : World} {b B : Nat} (h : Below b w0 w) (hB : b ≤ B) (k0 k1 k2 k3 k4 : Value) : Below b w0 (((((w.setCell ⟨B, 0, none⟩ k0).setCell ⟨B, 1, none⟩ k1).setCell ⟨B, 2, none⟩ k2).setCell ⟨B, 3, none⟩ k3).setCell ⟨B, 4, none⟩ k4) :=
  ((((h.setCell (p := ⟨B, 0, none⟩) hB _).setCell (p := ⟨B, 1, none⟩) hB _).setCell (p := ⟨B, 2, none⟩) hB _).setCell (p := ⟨B, 3, none⟩) hB _).setCell (p := ⟨B, 4, none⟩) hB _
theorem picks (v : World) (zs : List Int) (hz : zs = [-1, 39, 40]) (j : Nat) (hj : j < 3) : (v.alloc (.cells #[.int .i64 (-1), .int .i64 39, .int .i64 40] 3)).cell? ⟨v.heap.size, j, none⟩ = some (.int .i64 (zs.getD j 0)) := by
  subst hz
  rw [World.cell?_alloc_new]
  have h5 : j = 0 ∨ j = 1 ∨ j = 2 := by omega
  rcases h5 with rfl | rfl | rfl <;> rfl

set_option maxRecDepth 100000 in
set_option maxHeartbeats 4000000 in
theorem drawEmitIns_any (sa : Option Addr) (len cap : Nat) (zs : List Int) (w : World) (hr : IsRow .u8 w sa len cap zs) :
    Calls Tryd.prog 8 #[.slice sa len cap] w fun e w' => GivesPl w e w' := by
  have HR : Hid (IsRow .u8 w sa len cap zs) := hr
  clear hr
  go_enter Tryd.func8, Tryd.ntmps8
  go_wp2_with fail
  refine (new_any sa len cap zs _ (HR.out.afterE (Bel.alloc w _))).mono ?_
  rintro e w1 ⟨rfl, b1, c1, z1⟩
  have hsz : (w.alloc (.cells #[.int .i64 0, .int .i64 0, .int .i64 0, .int .i64 0, .int .i64 0] 25)).heap.size = w.heap.size + 1 := Array.size_push _
  rw [hsz] at b1 c1 z1 ⊢
  have hR1 : IBx w1 w.heap.size 0 0 0 0 0 := (b1.block w.heap.size (by omega)).trans (World.alloc_heap_new w (.cells #[.int .i64 0, .int .i64 0, .int .i64 0, .int .i64 0, .int .i64 0] 25))
  have B1 : Below w.heap.size w w1 := (Bel.alloc w _).trans (b1.mono (by omega))
  obtain ⟨p, HP⟩ : ∃ q, Hid (w.heap.size + 1 = q) := ⟨_, rfl⟩
  rw [HP.out] at c1 ⊢
  have hpw : w.heap.size < p := by have := HP.out; omega
  have HR1 : Hid (IBx w1 w.heap.size 0 0 0 0 0) := hR1
  have HB1 : Hid (Below w.heap.size w w1) := B1
  clear b1 hsz z1 hR1 B1
  go_wp2_with fail
  refine (drawInsC_any p _ c1).mono ?_
  rintro e w2 ⟨op, d, a, b, n, rfl, f2, c2⟩
  have hp1 := c1.lt
  have C2 := c2 hp1
  have hp2 := C2.lt
  have K2 : Hid (KeptE w p w.heap.size w2.heap.size op d a b n (w2.alloc (.cells #[.int .i64 op, .int .i64 d, .int .i64 a, .int .i64 b, .int .i64 n] 25))) := by
    have hB2 : Below w.heap.size w w2 := HB1.out.trans (f2.below (by omega) HB1.out.size)
    have hR2 : IBx w2 w.heap.size 0 0 0 0 0 := HR1.out.fr f2 (by omega)
    exact ⟨((Bel.alloc w2 _).block _ (Array.getElem?_eq_some_iff.1 hR2).1).trans hR2, World.alloc_heap_new _ _, C2.later (Bel.alloc _ _), Bel.after hB2 (Bel.alloc _ _), ⟨Nat.le_refl _, hpw, hp2⟩⟩
  clear f2 c2 C2 c1
  go_wp2_with fail
  obtain ⟨v1, hv1⟩ : ∃ W, w2.alloc (.cells #[.int .i64 op, .int .i64 d, .int .i64 a, .int .i64 b, .int .i64 n] 25) = W := ⟨_, rfl⟩
  obtain ⟨X, HX⟩ : ∃ X, Hid (w2.heap.size = X) := ⟨_, rfl⟩
  rw [hv1, HX.out] at K2
  try rw [hv1]
  rw [HX.out]
  clear hv1 HX hp1 hp2
  refine (once_any p 8 _ K2.out.cur).mono ?_
  rintro e v2 ⟨t2, rfl, f2, c2⟩
  have K3 : Hid (KeptE w p w.heap.size X op d a b n v2) := K2.out.draw f2 c2
  clear f2 c2
  cases t2 with
  | false =>
    go_wp2_with fail
    refine (once_any p 12 _ K3.out.cur).mono ?_
    rintro e v3 ⟨t3, rfl, f3, c3⟩
    have K4 : Hid (KeptE w p w.heap.size X op d a b n v3) := K3.out.draw f3 c3
    clear f3 c3
    cases t3 with
    | false =>
      obtain ⟨q0, q1, q2, q3, q4⟩ := K4.out.box.cells
      obtain ⟨r0, r1, r2, r3, r4⟩ := K4.out.res.cells
      have g0 := K4.out.res.fz 0
      have g1 := K4.out.res.fz 1
      have g2 := K4.out.res.fz 2
      have g3 := K4.out.res.fz 3
      have g4 := K4.out.res.fz 4
      go_wp2
      refine bodyPost_ret (results_ins rfl _ _ rfl (K4.out.res.put5 op d a b n)) rfl ?_
      exact ⟨op, d, a, b, n, rfl, below_fiveE K4.out.bel (Nat.le_refl _) _ _ _ _ _⟩
    | true =>
      have hpv := K4.out.cur.lt
      have KP : Hid (KeptE w p w.heap.size X op d a b n (v3.alloc (.cells #[.int .i64 (-1), .int .i64 39, .int .i64 40] 3))) := K4.out.grow (Bel.alloc _ _)
      go_wp2_with fail
      refine (pickint_any p v3.heap.size [-1, 39, 40] 3 _ KP.out.cur (by omega) rfl (by omega) (by omega) (fun j hj => picks v3 _ rfl j hj)).mono ?_
      rintro e v8 ⟨z, rfl, _, f8, c8⟩
      have K8 : Hid (KeptE w p w.heap.size X op d a b n v8) := KP.out.draw f8 c8
      have K9 : Hid (KeptE w p w.heap.size X op z a b n (v8.setCell ⟨X, 1, none⟩ (.int .i64 z))) := K8.out.setD z
      obtain ⟨v9, hv9⟩ : ∃ W, v8.setCell ⟨X, 1, none⟩ (.int .i64 z) = W := ⟨_, rfl⟩
      rw [hv9] at K9
      obtain ⟨s0, s1, s2, s3, s4⟩ := K8.out.box.cells
      have h1 := K8.out.box.fz 1
      obtain ⟨q0, q1, q2, q3, q4⟩ := K9.out.box.cells
      obtain ⟨r0, r1, r2, r3, r4⟩ := K9.out.res.cells
      have g0 := K9.out.res.fz 0
      have g1 := K9.out.res.fz 1
      have g2 := K9.out.res.fz 2
      have g3 := K9.out.res.fz 3
      have g4 := K9.out.res.fz 4
      clear f8 c8 KP K8 K4
      go_wp2
      try rw [hv9]
      refine bodyPost_ret (results_ins rfl _ _ rfl (K9.out.res.put5 op z a b n)) rfl ?_
      exact ⟨op, z, a, b, n, rfl, below_fiveE K9.out.bel (Nat.le_refl _) _ _ _ _ _⟩
  | true =>
    have hpv := K3.out.cur.lt
    have KP : Hid (KeptE w p w.heap.size X op d a b n (v2.alloc (.cells #[.int .i64 (-1), .int .i64 39, .int .i64 40] 3))) := K3.out.grow (Bel.alloc _ _)
    go_wp2_with fail
    refine (pickint_any p v2.heap.size [-1, 39, 40] 3 _ KP.out.cur (by omega) rfl (by omega) (by omega) (fun j hj => picks v2 _ rfl j hj)).mono ?_
    rintro e v3 ⟨y, rfl, _, f3, c3⟩
    have K4 : Hid (KeptE w p w.heap.size X op d a b n v3) := KP.out.draw f3 c3
    obtain ⟨q0, q1, q2, q3, q4⟩ := K4.out.box.cells
    have g2 := K4.out.box.fz 2
    have K5 : Hid (KeptE w p w.heap.size X op d y b n (v3.setCell ⟨X, 2, none⟩ (.int .i64 y))) := K4.out.setA y
    clear f3 c3
    go_wp2_with fail
    obtain ⟨v4, hv4⟩ : ∃ W, v3.setCell ⟨X, 2, none⟩ (.int .i64 y) = W := ⟨_, rfl⟩
    rw [hv4] at K5 ⊢
    clear hv4 q0 q1 q2 q3 q4 g2 K4
    refine (once_any p 12 _ K5.out.cur).mono ?_
    rintro e v5 ⟨t3, rfl, f3, c3⟩
    have K4 : Hid (KeptE w p w.heap.size X op d y b n v5) := K5.out.draw f3 c3
    clear f3 c3
    cases t3 with
    | false =>
      obtain ⟨q0, q1, q2, q3, q4⟩ := K4.out.box.cells
      obtain ⟨r0, r1, r2, r3, r4⟩ := K4.out.res.cells
      have g0 := K4.out.res.fz 0
      have g1 := K4.out.res.fz 1
      have g2 := K4.out.res.fz 2
      have g3 := K4.out.res.fz 3
      have g4 := K4.out.res.fz 4
      go_wp2
      refine bodyPost_ret (results_ins rfl _ _ rfl (K4.out.res.put5 op d y b n)) rfl ?_
      exact ⟨op, d, y, b, n, rfl, below_fiveE K4.out.bel (Nat.le_refl _) _ _ _ _ _⟩
    | true =>
      have hpv := K4.out.cur.lt
      have KP : Hid (KeptE w p w.heap.size X op d y b n (v5.alloc (.cells #[.int .i64 (-1), .int .i64 39, .int .i64 40] 3))) := K4.out.grow (Bel.alloc _ _)
      go_wp2_with fail
      refine (pickint_any p v5.heap.size [-1, 39, 40] 3 _ KP.out.cur (by omega) rfl (by omega) (by omega) (fun j hj => picks v5 _ rfl j hj)).mono ?_
      rintro e v8 ⟨z, rfl, _, f8, c8⟩
      have K8 : Hid (KeptE w p w.heap.size X op d y b n v8) := KP.out.draw f8 c8
      have K9 : Hid (KeptE w p w.heap.size X op z y b n (v8.setCell ⟨X, 1, none⟩ (.int .i64 z))) := K8.out.setD z
      obtain ⟨v9, hv9⟩ : ∃ W, v8.setCell ⟨X, 1, none⟩ (.int .i64 z) = W := ⟨_, rfl⟩
      rw [hv9] at K9
      obtain ⟨s0, s1, s2, s3, s4⟩ := K8.out.box.cells
      have h1 := K8.out.box.fz 1
      obtain ⟨q0, q1, q2, q3, q4⟩ := K9.out.box.cells
      obtain ⟨r0, r1, r2, r3, r4⟩ := K9.out.res.cells
      have g0 := K9.out.res.fz 0
      have g1 := K9.out.res.fz 1
      have g2 := K9.out.res.fz 2
      have g3 := K9.out.res.fz 3
      have g4 := K9.out.res.fz 4
      clear f8 c8 KP K8 K4
      go_wp2
      try rw [hv9]
      refine bodyPost_ret (results_ins rfl _ _ rfl (K9.out.res.put5 op z y b n)) rfl ?_
      exact ⟨op, z, y, b, n, rfl, below_fiveE K9.out.bel (Nat.le_refl _) _ _ _ _ _⟩
end Go.Proofs.YtgnngibbojjebaaDoor
