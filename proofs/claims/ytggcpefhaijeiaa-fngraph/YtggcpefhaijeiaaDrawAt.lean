/- The draw: a program and a block. -/
import Derived.Test.YtggcpefhaijeiaaGen12
namespace Go.Proofs.Ytggcpefhaijeiaa
open Go.ChangeShapes Go.WideShapes Go.ChangeAt Go.RowKit
set_option linter.unusedVariables false

/-- A drawn program and a number are given. -/
def GivesAt (w : World) (e : Ending) (w' : World) : Prop := ∃ (v : Value) (F : FnD) (b : Int), e = .returned (.tuple #[v, .int .i64 b]) ∧ FnAtLo w.heap.size w' v F ∧ 0 < F.blocks.length ∧ F.blocks.length ≤ 900 ∧ -1 ≤ b ∧ b ≤ F.blocks.length ∧ Below w.heap.size w w'
theorem Keeps.fr {w w' : World} {C : Nat} (h : Fr C w w') : Keeps (C + 1) w w' := fun p v hp hc => by
  rw [h.cell (World.block_lt_of_cell? w _ hc) (by omega)]
  exact hc
theorem FnAtLo.fr {w w' : World} {C : Nat} {v : Value} {F : FnD} (h : FnAtLo (C + 1) w v F) (hf : Fr C w w') : FnAtLo (C + 1) w' v F := h.keep (Keeps.fr hf)
theorem FnAtLo.out {lo : Nat} {w : World} {v : Value} {F : FnD} (h : FnAtLo lo w v F) {n : Nat} (hn : F.blocks.length = n) : ∃ ba bcap vals, v = .agg #[.slice ba n bcap, .int .i64 vals] := by
  obtain ⟨bv, rfl, a, cap, rfl, _⟩ := h
  exact ⟨a, cap, F.values, by rw [hn]⟩

set_option maxRecDepth 100000 in
set_option maxHeartbeats 16000000 in
theorem drawAt_any (a : Option Addr) (len cap : Nat) (zs : List Int) (w : World) (hr : IsRow .u8 w a len cap zs) :
    Calls Try.prog 33 #[.slice a len cap] w fun e w' => GivesAt w e w' := by
  have HR : Hid (IsRow .u8 w a len cap zs) := hr
  clear hr
  go_enter Try.func33, Try.ntmps33
  go_wp2_with fail
  obtain ⟨wA, hwA⟩ : ∃ W, w.alloc (.cells #[.slice none 0 0, .int .i64 0] 26) = W := ⟨_, rfl⟩
  have bA : Below w.heap.size w wA := by rw [← hwA]; exact Bel.alloc _ _
  have xA : wA.heap[w.heap.size]? = some (.cells #[.slice none 0 0, .int .i64 0] 26 (0, 0)) := by rw [← hwA]; exact World.alloc_heap_new _ _
  have sA : wA.heap.size = w.heap.size + 1 := by rw [← hwA]; simp
  try rw [hwA]
  clear hwA
  refine (new_any a len cap zs _ (HR.out.keep (p := w.heap.size) (fun x e c => Nat.ne_of_lt (HR.out.lt x e c)) (Fr.ofBelow bA))).mono ?_
  rintro e w1 ⟨rfl, b1, hc1, _⟩
  obtain ⟨C, hC⟩ : ∃ x, wA.heap.size = x := ⟨_, rfl⟩
  rw [hC] at hc1 b1 ⊢
  have hRC : w.heap.size < C := by omega
  have X1 : Hid (w1.heap[w.heap.size]? = some (.cells #[.slice none 0 0, .int .i64 0] 26 (0, 0))) := (b1.block _ hRC).trans xA
  have B1 : Hid (Below w.heap.size w w1) := bA.trans (b1.mono (by omega))
  have C1 : Hid (Cur w1 C) := hc1
  clear b1 hc1 bA xA sA hC
  go_wp2_with fail
  refine (draw_any C _ C1.out).mono ?_
  rintro e w2 ⟨v, F, rfl, hF, hn0, hn9, b2, hc2⟩
  obtain ⟨n, hn⟩ : ∃ n, F.blocks.length = n := ⟨_, rfl⟩
  have HN : Hid (F.blocks.length = n) := hn
  obtain ⟨ba, bcap, vals, rfl⟩ := hF.out hn
  rw [hn] at hn0 hn9
  have X2 : w2.heap[w.heap.size]? = some (.cells #[.slice none 0 0, .int .i64 0] 26 (0, 0)) := (b2.block _ hRC).trans X1.out
  have B2 : Below w.heap.size w w2 := B1.out.trans (b2.mono (by omega))
  obtain ⟨w3, hw3⟩ : ∃ W, w2.alloc (.cells #[.slice ba n bcap, .int .i64 vals] 26) = W := ⟨_, rfl⟩
  have b3 : Below w2.heap.size w2 w3 := by rw [← hw3]; exact Bel.alloc _ _
  have x3 : w3.heap[w2.heap.size]? = some (.cells #[.slice ba n bcap, .int .i64 vals] 26 (0, 0)) := by rw [← hw3]; exact World.alloc_heap_new _ _
  have hC2 : C < w2.heap.size := hc2.lt
  have HF3 : Hid (FnAtLo (C + 1) w3 (.agg #[.slice ba n bcap, .int .i64 vals]) F) := hF.keep (Keeps.of_below b3 _)
  have X3 : Hid (w3.heap[w.heap.size]? = some (.cells #[.slice none 0 0, .int .i64 0] 26 (0, 0))) := (b3.block _ (by omega)).trans X2
  have B3 : Hid (Below w.heap.size w w3) := B2.trans (b3.mono (by omega))
  have C3 : Hid (Cur w3 C) := hc2.later b3
  clear hn hF b2 hc2 X1 B1 C1 X2 B2
  go_wp2_with fail
  try rw [hw3]
  clear hw3
  obtain ⟨FB, hFB⟩ : ∃ x, w2.heap.size = x := ⟨_, rfl⟩
  rw [hFB] at b3 x3 hC2
  try rw [hFB]
  clear hFB b3
  have FB3 : Hid (w3.heap[FB]? = some (.cells #[.slice ba n bcap, .int .i64 vals] 26 (0, 0))) := x3
  have hF3 : FB < w3.heap.size := (Array.getElem?_eq_some_iff.1 x3).1
  have hR3 : w.heap.size < w3.heap.size := (Array.getElem?_eq_some_iff.1 X3.out).1
  have c30 : w3.cell? ⟨FB, 0, none⟩ = some (.slice ba n bcap) := by simp [World.cell?, x3]
  have c31 : w3.cell? ⟨FB, 1, none⟩ = some (.int .i64 vals) := by simp [World.cell?, x3]
  have hFC : FB ≠ C := by omega
  have hRC' : w.heap.size ≠ C := by omega
  have hRF : w.heap.size ≠ FB := by omega
  clear x3
  go_region_held3 (fun w' => w'.cell? ⟨FB, 0, none⟩ = some (.slice ba n bcap) ∧ w'.cell? ⟨FB, 1, none⟩ = some (.int .i64 vals)) (first | exact ⟨(World.cell?_setCell_far _ _ _ _ hRF).trans ((World.cell?_setCell_far _ _ _ _ hRF).trans c50), (World.cell?_setCell_far _ _ _ _ hRF).trans ((World.cell?_setCell_far _ _ _ _ hRF).trans c51)⟩ | exact ⟨c50, c51⟩ | exact ⟨c40, c41⟩ | exact ⟨c30, c31⟩ | go_keep)
    (first
      | (go_at_call 53; refine (below_any C 20 _ C4.out).mono ?_; rintro e w5 ⟨z2, rfl, hz0, hz1, _, hf, hc⟩; have hz2 := hz1 (by omega); have C5 : Hid (Cur w5 C) := hc; have F5 : Hid (Fr C w3 w5) := F4.out.trans ⟨hf.os, hf.tape, hf.output, hf.size, hf.block⟩; have c50 : w5.cell? ⟨FB, 0, none⟩ = some (.slice ba n bcap) := (F5.out.cell (x := ⟨FB, 0, none⟩) hF3 hFC).trans c30; have c51 : w5.cell? ⟨FB, 1, none⟩ = some (.int .i64 vals) := (F5.out.cell (x := ⟨FB, 1, none⟩) hF3 hFC).trans c31; have y0 : w5.cell? ⟨w.heap.size, 0, none⟩ = some (.slice none 0 0) := (F5.out.cell (x := ⟨w.heap.size, 0, none⟩) hR3 hRC').trans (by simp [World.cell?, X3.out]); have y1 : w5.cell? ⟨w.heap.size, 1, none⟩ = some (.int .i64 0) := (F5.out.cell (x := ⟨w.heap.size, 1, none⟩) hR3 hRC').trans (by simp [World.cell?, X3.out]); have u0 : w5.frozen? ⟨w.heap.size, 0, none⟩ = false := (F5.out.frozen (x := ⟨w.heap.size, 0, none⟩) hR3 hRC').trans (by simp [World.frozen?, X3.out]); have u1 : w5.frozen? ⟨w.heap.size, 1, none⟩ = false := (F5.out.frozen (x := ⟨w.heap.size, 1, none⟩) hR3 hRC').trans (by simp [World.frozen?, X3.out]); clear hf hc)
      | (go_at_call 53; refine (below_any C _ _ (by exact C3.out)).mono ?_; rintro e w4 ⟨z, rfl, hx0, hx1, _, hf, hc⟩; have C4 : Hid (Cur w4 C) := hc; have F4 : Hid (Fr C w3 w4) := ⟨hf.os, hf.tape, hf.output, hf.size, hf.block⟩; have c40 : w4.cell? ⟨FB, 0, none⟩ = some (.slice ba n bcap) := (F4.out.cell (x := ⟨FB, 0, none⟩) hF3 hFC).trans c30; have c41 : w4.cell? ⟨FB, 1, none⟩ = some (.int .i64 vals) := (F4.out.cell (x := ⟨FB, 1, none⟩) hF3 hFC).trans c31; clear hf hc))
  have ew : IntKind.i64.wrap ((n : Int) + 1) = (n : Int) + 1 := by rw [IntKind.wrap_i64]; omega
  rw [ew] at hx1
  have hwn : z < (n : Int) + 1 := hx1 (by omega)
  have ht0 : 0 ≤ z2.tdiv 19 ∧ z2.tdiv 19 ≤ 1 := by rw [Int.tdiv_eq_ediv_of_nonneg hz0]; omega
  have ed : IntKind.i64.wrap (z2.tdiv 19) = z2.tdiv 19 := by rw [IntKind.wrap_i64]; omega
  obtain ⟨t, ht⟩ : ∃ t, z2.tdiv 19 = t := ⟨_, rfl⟩
  rw [ht] at ht0 ed
  have ez : IntKind.i64.wrap (z - t) = z - t := by rw [IntKind.wrap_i64]; omega
  rw [ht, ed, ez]
  have HZ : Hid (-1 ≤ z - t ∧ z - t ≤ (n : Int)) := ⟨by omega, by omega⟩
  obtain ⟨y, hy⟩ : ∃ y, z - t = y := ⟨_, rfl⟩
  rw [hy] at HZ ⊢
  clear hy ez ed ht ht0 hwn hx1 ew
  have F6 : Hid (FnAtLo (C + 1) w5 (.agg #[.slice ba n bcap, .int .i64 vals]) F) := HF3.out.fr F5.out
  have HB6 : Hid (Below w.heap.size w w5) := B3.out.trans (F5.out.below (by omega) (by omega))
  obtain ⟨W', hW'⟩ : ∃ W, (w5.setCell ⟨w.heap.size, 0, none⟩ (.slice ba n bcap)).setCell ⟨w.heap.size, 1, none⟩ (.int .i64 vals) = W := ⟨_, rfl⟩
  have r0 : W'.cell? ⟨w.heap.size, 0, none⟩ = some (.slice ba n bcap) := by
    rw [← hW', World.cell?_setCell_other _ _ _ _ (by simp)]
    exact World.cell?_setCell_same _ _ _ y0
  have r1 : W'.cell? ⟨w.heap.size, 1, none⟩ = some (.int .i64 vals) := by
    rw [← hW']
    exact World.cell?_setCell_same _ _ _ ((World.cell?_setCell_other _ _ _ _ (by simp)).trans y1)
  have bl : Below w.heap.size w5 W' := by
    rw [← hW']
    exact ((Below.refl _ _).setCell (p := ⟨w.heap.size, 0, none⟩) (Nat.le_refl _) _).setCell (p := ⟨w.heap.size, 1, none⟩) (Nat.le_refl _) _
  have kp : Keeps (C + 1) w5 W' := by
    rw [← hW']
    exact (Keeps.setCell _ _ _ _ _ (by omega)).trans (Keeps.setCell _ _ _ _ _ (by omega))
  have F7 : Hid (FnAtLo w.heap.size W' (.agg #[.slice ba n bcap, .int .i64 vals]) F) := FnAtLo.low (by omega) (F6.out.keep kp)
  have B7 : Hid (Below w.heap.size w W') := HB6.out.trans bl
  rw [hW']
  clear hW' bl kp c50 c51 c40 c41 c30 c31 y0 y1 u0 u1
  simp only [Exit.then]
  go_at_K
  go_wp2_with fail
  refine bodyPost_ret (v := .tuple #[.agg #[.slice ba n bcap, .int .i64 vals], .int .i64 y]) (by simp [results, Try.results33, go_sem, r0, r1]) rfl ?_
  exact ⟨_, F, y, rfl, F7.out, by rw [HN.out]; exact hn0, by rw [HN.out]; exact hn9, HZ.out.1, by rw [HN.out]; exact HZ.out.2, B7.out⟩
end Go.Proofs.Ytggcpefhaijeiaa
