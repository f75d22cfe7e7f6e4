/- Proved: of a drawn program who dominates one that dominates a third dominates it; ahead of it, the draws of a program and a block. -/
import Derived.Test.YtkolfddajcmnaaaGen12
import Derived.Test.YtkolfddajcmnaaaOwn
import Derived.WalkKit
import Derived.Test.YtkolfddajcmnaaaDom
import Derived.Test.YtkolfddajcmnaaaImplAbove
import Derived.Test.YtkolfddajcmnaaaRows
import Derived.Test.YtkolfddajcmnaaaImplDom
import Derived.Test.YtkolfddajcmnaaaSpecDom
import Derived.Test.YtkolfddajcmnaaaSpecAbove
import Derived.ProofKit
import Derived.OpenShut
import Derived.ShutString
import Derived.ChangeOld
import Derived.Below
namespace Go.Proofs.Ytkolfddajcmnaaa
open Go.ChangeShapes Go.WideShapes Go.ChangeAt Go.RowKit
set_option linter.unusedVariables false

/-- A drawn program and a number are given. -/
def GivesAt (w : World) (e : Ending) (w' : World) : Prop := ∃ (v : Value) (F : FnD) (b : Int), e = .returned (.tuple #[v, .int .i64 b]) ∧ FnAtLo w.heap.size w' v F ∧ 0 < F.blocks.length ∧ F.blocks.length ≤ 900 ∧ -1 ≤ b ∧ b ≤ F.blocks.length ∧ Below w.heap.size w w'
theorem Keeps.fr {w w' : World} {C : Nat} (h : Fr C w w') : Keeps (C + 1) w w' := fun p v hp hc => by
  rw [h.cell (World.block_lt_of_cell? w _ hc) (by omega)]
  exact hc
theorem FnAtLo.fr {w w' : World} {C : Nat} {v : Value} {F : FnD} (h : FnAtLo (C + 1) w v F) (hf : Fr C w w') : FnAtLo (C + 1) w' v F := h.keep (Keeps.fr hf)
theorem FnAtLo.out {lo : Nat} {w : World} {v : Value} {F : FnD} (h : FnAtLo lo w v F) {n : Nat} (hn : F.blocks.length = n) : ∃ ba bcap vals, v = .agg #[.slice ba n bcap, .int .i64 vals] := by
  obtain ⟨bv, rfl, a, cap, rfl, _⟩ := h
  exact ⟨a, cap, F.values, by rw [hn]⟩

set_option maxRecDepth 100000 in
set_option maxHeartbeats 16000000 in
theorem drawAt_any (a : Option Addr) (len cap : Nat) (zs : List Int) (w : World) (hr : IsRow .u8 w a len cap zs) :
    Calls Try.prog 57 #[.slice a len cap] w fun e w' => GivesAt w e w' := by
  have HR : Hid (IsRow .u8 w a len cap zs) := hr
  clear hr
  go_enter Try.func57, Try.ntmps57
  go_wp2_with fail
  obtain ⟨wA, hwA⟩ : ∃ W, w.alloc (.cells #[.slice none 0 0, .int .i64 0] 30) = W := ⟨_, rfl⟩
  have bA : Below w.heap.size w wA := by rw [← hwA]; exact Bel.alloc _ _
  have xA : wA.heap[w.heap.size]? = some (.cells #[.slice none 0 0, .int .i64 0] 30 (0, 0)) := by rw [← hwA]; exact World.alloc_heap_new _ _
  have sA : wA.heap.size = w.heap.size + 1 := by rw [← hwA]; simp
  try rw [hwA]
  clear hwA
  refine (new_any a len cap zs _ (HR.out.keep (p := w.heap.size) (fun x e c => Nat.ne_of_lt (HR.out.lt x e c)) (Fr.ofBelow bA))).mono ?_
  rintro e w1 ⟨rfl, b1, hc1, _⟩
  obtain ⟨C, hC⟩ : ∃ x, wA.heap.size = x := ⟨_, rfl⟩
  rw [hC] at hc1 b1 ⊢
  have hRC : w.heap.size < C := by omega
  have X1 : Hid (w1.heap[w.heap.size]? = some (.cells #[.slice none 0 0, .int .i64 0] 30 (0, 0))) := (b1.block _ hRC).trans xA
  have B1 : Hid (Below w.heap.size w w1) := bA.trans (b1.mono (by omega))
  have C1 : Hid (Cur w1 C) := hc1
  clear b1 hc1 bA xA sA hC
  go_wp2_with fail
  refine (draw_any C _ C1.out).mono ?_
  rintro e w2 ⟨v, F, rfl, hF, hn0, hn9, b2, hc2⟩
  obtain ⟨n, hn⟩ : ∃ n, F.blocks.length = n := ⟨_, rfl⟩
  have HN : Hid (F.blocks.length = n) := hn
  obtain ⟨ba, bcap, vals, rfl⟩ := hF.out hn
  rw [hn] at hn0 hn9
  have X2 : w2.heap[w.heap.size]? = some (.cells #[.slice none 0 0, .int .i64 0] 30 (0, 0)) := (b2.block _ hRC).trans X1.out
  have B2 : Below w.heap.size w w2 := B1.out.trans (b2.mono (by omega))
  obtain ⟨w3, hw3⟩ : ∃ W, w2.alloc (.cells #[.slice ba n bcap, .int .i64 vals] 30) = W := ⟨_, rfl⟩
  have b3 : Below w2.heap.size w2 w3 := by rw [← hw3]; exact Bel.alloc _ _
  have x3 : w3.heap[w2.heap.size]? = some (.cells #[.slice ba n bcap, .int .i64 vals] 30 (0, 0)) := by rw [← hw3]; exact World.alloc_heap_new _ _
  have hC2 : C < w2.heap.size := hc2.lt
  have HF3 : Hid (FnAtLo (C + 1) w3 (.agg #[.slice ba n bcap, .int .i64 vals]) F) := hF.keep (Keeps.of_below b3 _)
  have X3 : Hid (w3.heap[w.heap.size]? = some (.cells #[.slice none 0 0, .int .i64 0] 30 (0, 0))) := (b3.block _ (by omega)).trans X2
  have B3 : Hid (Below w.heap.size w w3) := B2.trans (b3.mono (by omega))
  have C3 : Hid (Cur w3 C) := hc2.later b3
  clear hn hF b2 hc2 X1 B1 C1 X2 B2
  go_wp2_with fail
  try rw [hw3]
  clear hw3
  obtain ⟨FB, hFB⟩ : ∃ x, w2.heap.size = x := ⟨_, rfl⟩
  rw [hFB] at b3 x3 hC2
  try rw [hFB]
  clear hFB b3
  have FB3 : Hid (w3.heap[FB]? = some (.cells #[.slice ba n bcap, .int .i64 vals] 30 (0, 0))) := x3
  have hF3 : FB < w3.heap.size := (Array.getElem?_eq_some_iff.1 x3).1
  have hR3 : w.heap.size < w3.heap.size := (Array.getElem?_eq_some_iff.1 X3.out).1
  have c30 : w3.cell? ⟨FB, 0, none⟩ = some (.slice ba n bcap) := by simp [World.cell?, x3]
  have c31 : w3.cell? ⟨FB, 1, none⟩ = some (.int .i64 vals) := by simp [World.cell?, x3]
  have hFC : FB ≠ C := by omega
  have hRC' : w.heap.size ≠ C := by omega
  have hRF : w.heap.size ≠ FB := by omega
  clear x3
  go_region_held3 (fun w' => w'.cell? ⟨FB, 0, none⟩ = some (.slice ba n bcap) ∧ w'.cell? ⟨FB, 1, none⟩ = some (.int .i64 vals)) (first | exact ⟨(World.cell?_setCell_far _ _ _ _ hRF).trans ((World.cell?_setCell_far _ _ _ _ hRF).trans c50), (World.cell?_setCell_far _ _ _ _ hRF).trans ((World.cell?_setCell_far _ _ _ _ hRF).trans c51)⟩ | exact ⟨c50, c51⟩ | exact ⟨c40, c41⟩ | exact ⟨c30, c31⟩ | go_keep)
    (first
      | (go_at_call 58; refine (below_any C 20 _ C4.out).mono ?_; rintro e w5 ⟨z2, rfl, hz0, hz1, _, hf, hc⟩; have hz2 := hz1 (by omega); have C5 : Hid (Cur w5 C) := hc; have F5 : Hid (Fr C w3 w5) := F4.out.trans ⟨hf.os, hf.tape, hf.output, hf.size, hf.block⟩; have c50 : w5.cell? ⟨FB, 0, none⟩ = some (.slice ba n bcap) := (F5.out.cell (x := ⟨FB, 0, none⟩) hF3 hFC).trans c30; have c51 : w5.cell? ⟨FB, 1, none⟩ = some (.int .i64 vals) := (F5.out.cell (x := ⟨FB, 1, none⟩) hF3 hFC).trans c31; have y0 : w5.cell? ⟨w.heap.size, 0, none⟩ = some (.slice none 0 0) := (F5.out.cell (x := ⟨w.heap.size, 0, none⟩) hR3 hRC').trans (by simp [World.cell?, X3.out]); have y1 : w5.cell? ⟨w.heap.size, 1, none⟩ = some (.int .i64 0) := (F5.out.cell (x := ⟨w.heap.size, 1, none⟩) hR3 hRC').trans (by simp [World.cell?, X3.out]); have u0 : w5.frozen? ⟨w.heap.size, 0, none⟩ = false := (F5.out.frozen (x := ⟨w.heap.size, 0, none⟩) hR3 hRC').trans (by simp [World.frozen?, X3.out]); have u1 : w5.frozen? ⟨w.heap.size, 1, none⟩ = false := (F5.out.frozen (x := ⟨w.heap.size, 1, none⟩) hR3 hRC').trans (by simp [World.frozen?, X3.out]); clear hf hc)
      | (go_at_call 58; refine (below_any C _ _ (by exact C3.out)).mono ?_; rintro e w4 ⟨z, rfl, hx0, hx1, _, hf, hc⟩; have C4 : Hid (Cur w4 C) := hc; have F4 : Hid (Fr C w3 w4) := ⟨hf.os, hf.tape, hf.output, hf.size, hf.block⟩; have c40 : w4.cell? ⟨FB, 0, none⟩ = some (.slice ba n bcap) := (F4.out.cell (x := ⟨FB, 0, none⟩) hF3 hFC).trans c30; have c41 : w4.cell? ⟨FB, 1, none⟩ = some (.int .i64 vals) := (F4.out.cell (x := ⟨FB, 1, none⟩) hF3 hFC).trans c31; clear hf hc))
  have ew : IntKind.i64.wrap ((n : Int) + 1) = (n : Int) + 1 := by rw [IntKind.wrap_i64]; omega
  rw [ew] at hx1
  have hwn : z < (n : Int) + 1 := hx1 (by omega)
  have ht0 : 0 ≤ z2.tdiv 19 ∧ z2.tdiv 19 ≤ 1 := by rw [Int.tdiv_eq_ediv_of_nonneg hz0]; omega
  have ed : IntKind.i64.wrap (z2.tdiv 19) = z2.tdiv 19 := by rw [IntKind.wrap_i64]; omega
  obtain ⟨t, ht⟩ : ∃ t, z2.tdiv 19 = t := ⟨_, rfl⟩
  rw [ht] at ht0 ed
  have ez : IntKind.i64.wrap (z - t) = z - t := by rw [IntKind.wrap_i64]; omega
  rw [ht, ed, ez]
  have HZ : Hid (-1 ≤ z - t ∧ z - t ≤ (n : Int)) := ⟨by omega, by omega⟩
  obtain ⟨y, hy⟩ : ∃ y, z - t = y := ⟨_, rfl⟩
  rw [hy] at HZ ⊢
  clear hy ez ed ht ht0 hwn hx1 ew
  have F6 : Hid (FnAtLo (C + 1) w5 (.agg #[.slice ba n bcap, .int .i64 vals]) F) := HF3.out.fr F5.out
  have HB6 : Hid (Below w.heap.size w w5) := B3.out.trans (F5.out.below (by omega) (by omega))
  obtain ⟨W', hW'⟩ : ∃ W, (w5.setCell ⟨w.heap.size, 0, none⟩ (.slice ba n bcap)).setCell ⟨w.heap.size, 1, none⟩ (.int .i64 vals) = W := ⟨_, rfl⟩
  have r0 : W'.cell? ⟨w.heap.size, 0, none⟩ = some (.slice ba n bcap) := by
    rw [← hW', World.cell?_setCell_other _ _ _ _ (by simp)]
    exact World.cell?_setCell_same _ _ _ y0
  have r1 : W'.cell? ⟨w.heap.size, 1, none⟩ = some (.int .i64 vals) := by
    rw [← hW']
    exact World.cell?_setCell_same _ _ _ ((World.cell?_setCell_other _ _ _ _ (by simp)).trans y1)
  have bl : Below w.heap.size w5 W' := by
    rw [← hW']
    exact ((Below.refl _ _).setCell (p := ⟨w.heap.size, 0, none⟩) (Nat.le_refl _) _).setCell (p := ⟨w.heap.size, 1, none⟩) (Nat.le_refl _) _
  have kp : Keeps (C + 1) w5 W' := by
    rw [← hW']
    exact (Keeps.setCell _ _ _ _ _ (by omega)).trans (Keeps.setCell _ _ _ _ _ (by omega))
  have F7 : Hid (FnAtLo w.heap.size W' (.agg #[.slice ba n bcap, .int .i64 vals]) F) := FnAtLo.low (by omega) (F6.out.keep kp)
  have B7 : Hid (Below w.heap.size w W') := HB6.out.trans bl
  rw [hW']
  clear hW' bl kp c50 c51 c40 c41 c30 c31 y0 y1 u0 u1
  simp only [Exit.then]
  go_at_K
  go_wp2_with fail
  refine bodyPost_ret (v := .tuple #[.agg #[.slice ba n bcap, .int .i64 vals], .int .i64 y]) (by simp [results, Try.results57, go_sem, r0, r1]) rfl ?_
  exact ⟨_, F, y, rfl, F7.out, by rw [HN.out]; exact hn0, by rw [HN.out]; exact hn9, HZ.out.1, by rw [HN.out]; exact HZ.out.2, B7.out⟩
end Go.Proofs.Ytkolfddajcmnaaa

namespace Go.Proofs.Ytkolfddajcmnaaa
open Go.ChangeShapes Go.WideShapes Go.ChangeAt Go.RowKit
set_option linter.unusedVariables false

/-- A drawn program and two numbers are given. -/
def GivesAt2 (w : World) (e : Ending) (w' : World) : Prop := ∃ (v : Value) (F : FnD) (a b : Int), e = .returned (.tuple #[v, .int .i64 a, .int .i64 b]) ∧ FnAtLo w.heap.size w' v F ∧ 0 < F.blocks.length ∧ F.blocks.length ≤ 900 ∧ 0 ≤ a ∧ a < F.blocks.length ∧ -1 ≤ b ∧ b ≤ F.blocks.length ∧ Below w.heap.size w w'
/-- A drawn program is given. -/
def GivesOne (w : World) (e : Ending) (w' : World) : Prop := ∃ (v : Value) (F : FnD), e = .returned v ∧ FnAtLo w.heap.size w' v F ∧ 0 < F.blocks.length ∧ F.blocks.length ≤ 900 ∧ Below w.heap.size w w'
/-- What the two stores into the box of the result leave. -/
theorem box_end {w w5 : World} {R : Nat} {ba : Option Addr} {n bcap : Nat} {vals : Int} {F : FnD} (hR : R = w.heap.size) (x : w5.heap[R]? = some (.cells #[.slice none 0 0, .int .i64 0] 30 (0, 0))) (hF : FnAtLo (R + 1) w5 (.agg #[.slice ba n bcap, .int .i64 vals]) F) (hB : Below w.heap.size w w5) :
    ((w5.setCell ⟨R, 0, none⟩ (.slice ba n bcap)).setCell ⟨R, 1, none⟩ (.int .i64 vals)).cell? ⟨R, 0, none⟩ = some (.slice ba n bcap) ∧ ((w5.setCell ⟨R, 0, none⟩ (.slice ba n bcap)).setCell ⟨R, 1, none⟩ (.int .i64 vals)).cell? ⟨R, 1, none⟩ = some (.int .i64 vals) ∧
    FnAtLo w.heap.size ((w5.setCell ⟨R, 0, none⟩ (.slice ba n bcap)).setCell ⟨R, 1, none⟩ (.int .i64 vals)) (.agg #[.slice ba n bcap, .int .i64 vals]) F ∧ Below w.heap.size w ((w5.setCell ⟨R, 0, none⟩ (.slice ba n bcap)).setCell ⟨R, 1, none⟩ (.int .i64 vals)) := by
  have y0 : w5.cell? ⟨R, 0, none⟩ = some (.slice none 0 0) := by simp [World.cell?, x]
  have y1 : w5.cell? ⟨R, 1, none⟩ = some (.int .i64 0) := by simp [World.cell?, x]
  refine ⟨?_, World.cell?_setCell_same _ _ _ ((World.cell?_setCell_other _ _ _ _ (by simp)).trans y1), ?_, ?_⟩
  · rw [World.cell?_setCell_other _ _ _ _ (by simp)]
    exact World.cell?_setCell_same _ _ _ y0
  · exact FnAtLo.low (by omega) (hF.keep ((Keeps.setCell _ _ _ _ _ (by omega)).trans (Keeps.setCell _ _ _ _ _ (by omega))))
  · exact (hB.setCell (p := ⟨R, 0, none⟩) (by show w.heap.size ≤ R; omega) _).setCell (p := ⟨R, 1, none⟩) (by show w.heap.size ≤ R; omega) _

set_option maxRecDepth 100000 in
set_option maxHeartbeats 16000000 in
theorem drawSuccs_any (a : Option Addr) (len cap : Nat) (zs : List Int) (w : World) (hr : IsRow .u8 w a len cap zs) :
    Calls Try.prog 29 #[.slice a len cap] w fun e w' => GivesAt w e w' := by
  have HR : Hid (IsRow .u8 w a len cap zs) := hr
  clear hr
  go_enter Try.func29, Try.ntmps29
  go_wp2_with fail
  obtain ⟨wA, hwA⟩ : ∃ W, w.alloc (.cells #[.slice none 0 0, .int .i64 0] 30) = W := ⟨_, rfl⟩
  have bA : Below w.heap.size w wA := by rw [← hwA]; exact Bel.alloc _ _
  have xA : wA.heap[w.heap.size]? = some (.cells #[.slice none 0 0, .int .i64 0] 30 (0, 0)) := by rw [← hwA]; exact World.alloc_heap_new _ _
  have sA : wA.heap.size = w.heap.size + 1 := by rw [← hwA]; simp
  try rw [hwA]
  clear hwA
  obtain ⟨R, hR⟩ : ∃ x, w.heap.size = x := ⟨_, rfl⟩
  rw [hR] at xA sA ⊢
  refine (drawAt_any a len cap zs _ (HR.out.keep (p := w.heap.size) (fun x e c => Nat.ne_of_lt (HR.out.lt x e c)) (Fr.ofBelow bA))).mono ?_
  rintro e w2 ⟨v, F, b, rfl, hF, hn0, hn9, hb0, hb1, b2⟩
  obtain ⟨n, hn⟩ : ∃ n, F.blocks.length = n := ⟨_, rfl⟩
  have HN : Hid (F.blocks.length = n) := hn
  obtain ⟨ba, bcap, vals, rfl⟩ := hF.out hn
  rw [hn] at hn0 hn9 hb1
  rw [sA] at hF
  have X2 : w2.heap[R]? = some (.cells #[.slice none 0 0, .int .i64 0] 30 (0, 0)) := (b2.block _ (by omega)).trans xA
  have B2 : Below w.heap.size w w2 := bA.trans (b2.mono (by omega))
  obtain ⟨w3, hw3⟩ : ∃ W, w2.alloc (.cells #[.slice ba n bcap, .int .i64 vals] 30) = W := ⟨_, rfl⟩
  have b3 : Below w2.heap.size w2 w3 := by rw [← hw3]; exact Bel.alloc _ _
  have x3 : w3.heap[w2.heap.size]? = some (.cells #[.slice ba n bcap, .int .i64 vals] 30 (0, 0)) := by rw [← hw3]; exact World.alloc_heap_new _ _
  have hR2 : R < w2.heap.size := (Array.getElem?_eq_some_iff.1 X2).1
  have HF3 : Hid (FnAtLo (R + 1) w3 (.agg #[.slice ba n bcap, .int .i64 vals]) F) := hF.keep (Keeps.of_below b3 _)
  have x3R : w3.heap[R]? = some (.cells #[.slice none 0 0, .int .i64 0] 30 (0, 0)) := (b3.block _ hR2).trans X2
  have X3 : Hid (w3.heap[R]? = some (.cells #[.slice none 0 0, .int .i64 0] 30 (0, 0))) := x3R
  have B3 : Hid (Below w.heap.size w w3) := B2.trans (b3.mono (by omega))
  have c30 : w3.cell? ⟨w2.heap.size, 0, none⟩ = some (.slice ba n bcap) := by simp [World.cell?, x3]
  have c31 : w3.cell? ⟨w2.heap.size, 1, none⟩ = some (.int .i64 vals) := by simp [World.cell?, x3]
  have y0 : w3.cell? ⟨R, 0, none⟩ = some (.slice none 0 0) := by simp [World.cell?, x3R]
  have y1 : w3.cell? ⟨R, 1, none⟩ = some (.int .i64 0) := by simp [World.cell?, x3R]
  have u0 : w3.frozen? ⟨R, 0, none⟩ = false := by simp [World.frozen?, x3R]
  have u1 : w3.frozen? ⟨R, 1, none⟩ = false := by simp [World.frozen?, x3R]
  clear hn hF b2 X2 B2 x3 x3R bA xA
  go_wp2_with fail
  try rw [hw3]
  clear hw3
  obtain ⟨r0, r1, hF4, hB4⟩ := box_end hR.symm X3.out HF3.out B3.out
  go_wp2_with fail
  refine bodyPost_ret (v := .tuple #[.agg #[.slice ba n bcap, .int .i64 vals], .int .i64 b]) (by simp [results, Try.results29, go_sem, r0, r1]) rfl ?_
  exact ⟨_, F, b, rfl, hF4, by rw [HN.out]; exact hn0, by rw [HN.out]; exact hn9, hb0, by rw [HN.out]; exact hb1, hB4⟩

set_option maxRecDepth 100000 in
set_option maxHeartbeats 16000000 in
theorem drawPreds_any (a : Option Addr) (len cap : Nat) (zs : List Int) (w : World) (hr : IsRow .u8 w a len cap zs) :
    Calls Try.prog 33 #[.slice a len cap] w fun e w' => GivesAt w e w' := by
  have HR : Hid (IsRow .u8 w a len cap zs) := hr
  clear hr
  go_enter Try.func33, Try.ntmps33
  go_wp2_with fail
  obtain ⟨wA, hwA⟩ : ∃ W, w.alloc (.cells #[.slice none 0 0, .int .i64 0] 30) = W := ⟨_, rfl⟩
  have bA : Below w.heap.size w wA := by rw [← hwA]; exact Bel.alloc _ _
  have xA : wA.heap[w.heap.size]? = some (.cells #[.slice none 0 0, .int .i64 0] 30 (0, 0)) := by rw [← hwA]; exact World.alloc_heap_new _ _
  have sA : wA.heap.size = w.heap.size + 1 := by rw [← hwA]; simp
  try rw [hwA]
  clear hwA
  obtain ⟨R, hR⟩ : ∃ x, w.heap.size = x := ⟨_, rfl⟩
  rw [hR] at xA sA ⊢
  refine (drawAt_any a len cap zs _ (HR.out.keep (p := w.heap.size) (fun x e c => Nat.ne_of_lt (HR.out.lt x e c)) (Fr.ofBelow bA))).mono ?_
  rintro e w2 ⟨v, F, b, rfl, hF, hn0, hn9, hb0, hb1, b2⟩
  obtain ⟨n, hn⟩ : ∃ n, F.blocks.length = n := ⟨_, rfl⟩
  have HN : Hid (F.blocks.length = n) := hn
  obtain ⟨ba, bcap, vals, rfl⟩ := hF.out hn
  rw [hn] at hn0 hn9 hb1
  rw [sA] at hF
  have X2 : w2.heap[R]? = some (.cells #[.slice none 0 0, .int .i64 0] 30 (0, 0)) := (b2.block _ (by omega)).trans xA
  have B2 : Below w.heap.size w w2 := bA.trans (b2.mono (by omega))
  obtain ⟨w3, hw3⟩ : ∃ W, w2.alloc (.cells #[.slice ba n bcap, .int .i64 vals] 30) = W := ⟨_, rfl⟩
  have b3 : Below w2.heap.size w2 w3 := by rw [← hw3]; exact Bel.alloc _ _
  have x3 : w3.heap[w2.heap.size]? = some (.cells #[.slice ba n bcap, .int .i64 vals] 30 (0, 0)) := by rw [← hw3]; exact World.alloc_heap_new _ _
  have hR2 : R < w2.heap.size := (Array.getElem?_eq_some_iff.1 X2).1
  have HF3 : Hid (FnAtLo (R + 1) w3 (.agg #[.slice ba n bcap, .int .i64 vals]) F) := hF.keep (Keeps.of_below b3 _)
  have x3R : w3.heap[R]? = some (.cells #[.slice none 0 0, .int .i64 0] 30 (0, 0)) := (b3.block _ hR2).trans X2
  have X3 : Hid (w3.heap[R]? = some (.cells #[.slice none 0 0, .int .i64 0] 30 (0, 0))) := x3R
  have B3 : Hid (Below w.heap.size w w3) := B2.trans (b3.mono (by omega))
  have c30 : w3.cell? ⟨w2.heap.size, 0, none⟩ = some (.slice ba n bcap) := by simp [World.cell?, x3]
  have c31 : w3.cell? ⟨w2.heap.size, 1, none⟩ = some (.int .i64 vals) := by simp [World.cell?, x3]
  have y0 : w3.cell? ⟨R, 0, none⟩ = some (.slice none 0 0) := by simp [World.cell?, x3R]
  have y1 : w3.cell? ⟨R, 1, none⟩ = some (.int .i64 0) := by simp [World.cell?, x3R]
  have u0 : w3.frozen? ⟨R, 0, none⟩ = false := by simp [World.frozen?, x3R]
  have u1 : w3.frozen? ⟨R, 1, none⟩ = false := by simp [World.frozen?, x3R]
  clear hn hF b2 X2 B2 x3 x3R bA xA
  go_wp2_with fail
  try rw [hw3]
  clear hw3
  obtain ⟨r0, r1, hF4, hB4⟩ := box_end hR.symm X3.out HF3.out B3.out
  go_wp2_with fail
  refine bodyPost_ret (v := .tuple #[.agg #[.slice ba n bcap, .int .i64 vals], .int .i64 b]) (by simp [results, Try.results33, go_sem, r0, r1]) rfl ?_
  exact ⟨_, F, b, rfl, hF4, by rw [HN.out]; exact hn0, by rw [HN.out]; exact hn9, hb0, by rw [HN.out]; exact hb1, hB4⟩

set_option maxRecDepth 100000 in
set_option maxHeartbeats 16000000 in
theorem drawAbove_any (a : Option Addr) (len cap : Nat) (zs : List Int) (w : World) (hr : IsRow .u8 w a len cap zs) :
    Calls Try.prog 28 #[.slice a len cap] w fun e w' => GivesAt w e w' := by
  have HR : Hid (IsRow .u8 w a len cap zs) := hr
  clear hr
  go_enter Try.func28, Try.ntmps28
  go_wp2_with fail
  obtain ⟨wA, hwA⟩ : ∃ W, w.alloc (.cells #[.slice none 0 0, .int .i64 0] 30) = W := ⟨_, rfl⟩
  have bA : Below w.heap.size w wA := by rw [← hwA]; exact Bel.alloc _ _
  have xA : wA.heap[w.heap.size]? = some (.cells #[.slice none 0 0, .int .i64 0] 30 (0, 0)) := by rw [← hwA]; exact World.alloc_heap_new _ _
  have sA : wA.heap.size = w.heap.size + 1 := by rw [← hwA]; simp
  try rw [hwA]
  clear hwA
  obtain ⟨R, hR⟩ : ∃ x, w.heap.size = x := ⟨_, rfl⟩
  rw [hR] at xA sA ⊢
  refine (drawAt_any a len cap zs _ (HR.out.keep (p := w.heap.size) (fun x e c => Nat.ne_of_lt (HR.out.lt x e c)) (Fr.ofBelow bA))).mono ?_
  rintro e w2 ⟨v, F, b, rfl, hF, hn0, hn9, hb0, hb1, b2⟩
  obtain ⟨n, hn⟩ : ∃ n, F.blocks.length = n := ⟨_, rfl⟩
  have HN : Hid (F.blocks.length = n) := hn
  obtain ⟨ba, bcap, vals, rfl⟩ := hF.out hn
  rw [hn] at hn0 hn9 hb1
  rw [sA] at hF
  have X2 : w2.heap[R]? = some (.cells #[.slice none 0 0, .int .i64 0] 30 (0, 0)) := (b2.block _ (by omega)).trans xA
  have B2 : Below w.heap.size w w2 := bA.trans (b2.mono (by omega))
  obtain ⟨w3, hw3⟩ : ∃ W, w2.alloc (.cells #[.slice ba n bcap, .int .i64 vals] 30) = W := ⟨_, rfl⟩
  have b3 : Below w2.heap.size w2 w3 := by rw [← hw3]; exact Bel.alloc _ _
  have x3 : w3.heap[w2.heap.size]? = some (.cells #[.slice ba n bcap, .int .i64 vals] 30 (0, 0)) := by rw [← hw3]; exact World.alloc_heap_new _ _
  have hR2 : R < w2.heap.size := (Array.getElem?_eq_some_iff.1 X2).1
  have HF3 : Hid (FnAtLo (R + 1) w3 (.agg #[.slice ba n bcap, .int .i64 vals]) F) := hF.keep (Keeps.of_below b3 _)
  have x3R : w3.heap[R]? = some (.cells #[.slice none 0 0, .int .i64 0] 30 (0, 0)) := (b3.block _ hR2).trans X2
  have X3 : Hid (w3.heap[R]? = some (.cells #[.slice none 0 0, .int .i64 0] 30 (0, 0))) := x3R
  have B3 : Hid (Below w.heap.size w w3) := B2.trans (b3.mono (by omega))
  have c30 : w3.cell? ⟨w2.heap.size, 0, none⟩ = some (.slice ba n bcap) := by simp [World.cell?, x3]
  have c31 : w3.cell? ⟨w2.heap.size, 1, none⟩ = some (.int .i64 vals) := by simp [World.cell?, x3]
  have y0 : w3.cell? ⟨R, 0, none⟩ = some (.slice none 0 0) := by simp [World.cell?, x3R]
  have y1 : w3.cell? ⟨R, 1, none⟩ = some (.int .i64 0) := by simp [World.cell?, x3R]
  have u0 : w3.frozen? ⟨R, 0, none⟩ = false := by simp [World.frozen?, x3R]
  have u1 : w3.frozen? ⟨R, 1, none⟩ = false := by simp [World.frozen?, x3R]
  clear hn hF b2 X2 B2 x3 x3R bA xA
  go_wp2_with fail
  try rw [hw3]
  clear hw3
  obtain ⟨r0, r1, hF4, hB4⟩ := box_end hR.symm X3.out HF3.out B3.out
  go_wp2_with fail
  refine bodyPost_ret (v := .tuple #[.agg #[.slice ba n bcap, .int .i64 vals], .int .i64 b]) (by simp [results, Try.results28, go_sem, r0, r1]) rfl ?_
  exact ⟨_, F, b, rfl, hF4, by rw [HN.out]; exact hn0, by rw [HN.out]; exact hn9, hb0, by rw [HN.out]; exact hb1, hB4⟩

set_option maxRecDepth 100000 in
set_option maxHeartbeats 16000000 in
theorem drawDominates_any (a : Option Addr) (len cap : Nat) (zs : List Int) (w : World) (hr : IsRow .u8 w a len cap zs) :
    Calls Try.prog 27 #[.slice a len cap] w fun e w' => GivesAt2 w e w' := by
  have HR : Hid (IsRow .u8 w a len cap zs) := hr
  clear hr
  go_enter Try.func27, Try.ntmps27
  go_wp2_with fail
  obtain ⟨wA, hwA⟩ : ∃ W, w.alloc (.cells #[.slice none 0 0, .int .i64 0] 30) = W := ⟨_, rfl⟩
  have bA : Below w.heap.size w wA := by rw [← hwA]; exact Bel.alloc _ _
  have xA : wA.heap[w.heap.size]? = some (.cells #[.slice none 0 0, .int .i64 0] 30 (0, 0)) := by rw [← hwA]; exact World.alloc_heap_new _ _
  have sA : wA.heap.size = w.heap.size + 1 := by rw [← hwA]; simp
  try rw [hwA]
  clear hwA
  obtain ⟨R, hR⟩ : ∃ x, w.heap.size = x := ⟨_, rfl⟩
  rw [hR] at xA sA ⊢
  have HRA : Hid (IsRow .u8 wA a len cap zs) := HR.out.keep (p := w.heap.size) (fun x e c => Nat.ne_of_lt (HR.out.lt x e c)) (Fr.ofBelow bA)
  refine (drawAt_any a len cap zs _ HRA.out).mono ?_
  rintro e w2 ⟨v, F, b, rfl, hF, hn0, hn9, hb0, hb1, b2⟩
  obtain ⟨n, hn⟩ : ∃ n, F.blocks.length = n := ⟨_, rfl⟩
  have HN : Hid (F.blocks.length = n) := hn
  obtain ⟨ba, bcap, vals, rfl⟩ := hF.out hn
  rw [hn] at hn0 hn9 hb1
  rw [sA] at hF
  have X2 : w2.heap[R]? = some (.cells #[.slice none 0 0, .int .i64 0] 30 (0, 0)) := (b2.block _ (by omega)).trans xA
  have B2 : Below w.heap.size w w2 := bA.trans (b2.mono (by omega))
  obtain ⟨w3, hw3⟩ : ∃ W, w2.alloc (.cells #[.slice ba n bcap, .int .i64 vals] 30) = W := ⟨_, rfl⟩
  have b3 : Below w2.heap.size w2 w3 := by rw [← hw3]; exact Bel.alloc _ _
  have x3 : w3.heap[w2.heap.size]? = some (.cells #[.slice ba n bcap, .int .i64 vals] 30 (0, 0)) := by rw [← hw3]; exact World.alloc_heap_new _ _
  have hR2 : R < w2.heap.size := (Array.getElem?_eq_some_iff.1 X2).1
  have HF3 : Hid (FnAtLo (R + 1) w3 (.agg #[.slice ba n bcap, .int .i64 vals]) F) := hF.keep (Keeps.of_below b3 _)
  have x3R : w3.heap[R]? = some (.cells #[.slice none 0 0, .int .i64 0] 30 (0, 0)) := (b3.block _ hR2).trans X2
  have X3 : Hid (w3.heap[R]? = some (.cells #[.slice none 0 0, .int .i64 0] 30 (0, 0))) := x3R
  have B3 : Hid (Below w.heap.size w w3) := B2.trans (b3.mono (by omega))
  have c30 : w3.cell? ⟨w2.heap.size, 0, none⟩ = some (.slice ba n bcap) := by simp [World.cell?, x3]
  have c31 : w3.cell? ⟨w2.heap.size, 1, none⟩ = some (.int .i64 vals) := by simp [World.cell?, x3]
  have y0 : w3.cell? ⟨R, 0, none⟩ = some (.slice none 0 0) := by simp [World.cell?, x3R]
  have y1 : w3.cell? ⟨R, 1, none⟩ = some (.int .i64 0) := by simp [World.cell?, x3R]
  have u0 : w3.frozen? ⟨R, 0, none⟩ = false := by simp [World.frozen?, x3R]
  have u1 : w3.frozen? ⟨R, 1, none⟩ = false := by simp [World.frozen?, x3R]
  have R3 : Hid (IsRow .u8 w3 a len cap zs) := HRA.out.keep (p := wA.heap.size) (fun x e c => Nat.ne_of_lt (HRA.out.lt x e c)) (Fr.ofBelow (b2.trans (b3.mono b2.size)))
  have hF3 : w2.heap.size < w3.heap.size := (Array.getElem?_eq_some_iff.1 x3).1
  clear hn hF b2 X2 B2 x3 x3R bA xA
  go_wp2_with fail
  try rw [hw3]
  clear hw3 b3
  obtain ⟨FB, hFB⟩ : ∃ x, w2.heap.size = x := ⟨_, rfl⟩
  rw [hFB] at c30 c31 hR2 hF3
  try rw [hFB]
  clear hFB
  refine (new_any a len cap zs _ R3.out).mono ?_
  rintro e w4 ⟨rfl, b4, hc4, hs4⟩
  obtain ⟨C, hC⟩ : ∃ x, w3.heap.size = x := ⟨_, rfl⟩
  have x4R : w4.heap[R]? = some (.cells #[.slice none 0 0, .int .i64 0] 30 (0, 0)) := (b4.block _ (by omega)).trans X3.out
  have X4 : Hid (w4.heap[R]? = some (.cells #[.slice none 0 0, .int .i64 0] 30 (0, 0))) := x4R
  have HF4 : Hid (FnAtLo (R + 1) w4 (.agg #[.slice ba n bcap, .int .i64 vals]) F) := HF3.out.keep (Keeps.of_below b4 _)
  have B4 : Hid (Below w.heap.size w w4) := B3.out.trans (b4.mono (by omega))
  have c40 : w4.cell? ⟨FB, 0, none⟩ = some (.slice ba n bcap) := Bel.keeps b4 c30
  have c41 : w4.cell? ⟨FB, 1, none⟩ = some (.int .i64 vals) := Bel.keeps b4 c31
  have hR4 : R < w4.heap.size := (Array.getElem?_eq_some_iff.1 x4R).1
  have hF4 : FB < w4.heap.size := by have := b4.size; omega
  have B34 : Hid (Below w3.heap.size w3 w4) := b4
  have HC3 : Hid (w3.heap.size = C) := hC
  rw [hC] at hc4 hF3 ⊢
  have C4 : Hid (Cur w4 C) := hc4
  have hCR : R ≠ C := by omega
  have hCF : FB ≠ C := by omega
  have hRF : R ≠ FB := by omega
  have hC4 : C < w4.heap.size := hc4.lt
  clear b4 hc4 hs4 x4R hC
  go_wp2_with fail
  go_region_held3 (fun w' => w'.cell? ⟨FB, 0, none⟩ = some (.slice ba n bcap) ∧ w'.cell? ⟨FB, 1, none⟩ = some (.int .i64 vals)) (first | exact ⟨(World.cell?_setCell_far _ _ _ _ hRF).trans ((World.cell?_setCell_far _ _ _ _ hRF).trans c50), (World.cell?_setCell_far _ _ _ _ hRF).trans ((World.cell?_setCell_far _ _ _ _ hRF).trans c51)⟩ | exact ⟨c50, c51⟩ | exact ⟨c40, c41⟩ | go_keep)
    (first
      | (go_at_call 58; refine (below_any C (n : Int) _ (by exact C4.out)).mono ?_; rintro e w5 ⟨z, rfl, hx0, hx1, _, hf, hc⟩; have hz := hx1 (by omega); have F5 : Hid (Fr C w4 w5) := ⟨hf.os, hf.tape, hf.output, hf.size, hf.block⟩; have c50 : w5.cell? ⟨FB, 0, none⟩ = some (.slice ba n bcap) := (F5.out.cell (x := ⟨FB, 0, none⟩) hF4 hCF).trans c40; have c51 : w5.cell? ⟨FB, 1, none⟩ = some (.int .i64 vals) := (F5.out.cell (x := ⟨FB, 1, none⟩) hF4 hCF).trans c41; have y50 : w5.cell? ⟨R, 0, none⟩ = some (.slice none 0 0) := (F5.out.cell (x := ⟨R, 0, none⟩) hR4 hCR).trans (by simp [World.cell?, X4.out]); have y51 : w5.cell? ⟨R, 1, none⟩ = some (.int .i64 0) := (F5.out.cell (x := ⟨R, 1, none⟩) hR4 hCR).trans (by simp [World.cell?, X4.out]); have u50 : w5.frozen? ⟨R, 0, none⟩ = false := (F5.out.frozen (x := ⟨R, 0, none⟩) hR4 hCR).trans (by simp [World.frozen?, X4.out]); have u51 : w5.frozen? ⟨R, 1, none⟩ = false := (F5.out.frozen (x := ⟨R, 1, none⟩) hR4 hCR).trans (by simp [World.frozen?, X4.out]); clear hf hc))
  have b35 : Below w3.heap.size w3 w5 := B34.out.trans (by rw [HC3.out]; exact F5.out.belowAt (Nat.le_of_lt hC4))
  have HF5 : Hid (FnAtLo (R + 1) w5 (.agg #[.slice ba n bcap, .int .i64 vals]) F) := HF3.out.keep (Keeps.of_below b35 _)
  have B5 : Hid (Below w.heap.size w w5) := B3.out.trans (b35.mono (by rw [HC3.out]; omega))
  have X5 : Hid (w5.heap[R]? = some (.cells #[.slice none 0 0, .int .i64 0] 30 (0, 0))) := (F5.out.block R hR4 hCR).trans X4.out
  obtain ⟨r0, r1, hF6, hB6⟩ := box_end hR.symm X5.out HF5.out B5.out
  have HF6 : Hid (FnAtLo w.heap.size ((w5.setCell ⟨R, 0, none⟩ (.slice ba n bcap)).setCell ⟨R, 1, none⟩ (.int .i64 vals)) (.agg #[.slice ba n bcap, .int .i64 vals]) F) := hF6
  have HB6 : Hid (Below w.heap.size w ((w5.setCell ⟨R, 0, none⟩ (.slice ba n bcap)).setCell ⟨R, 1, none⟩ (.int .i64 vals))) := hB6
  clear hF6 hB6 b35 c50 c51 c40 c41 c30 c31
  simp only [Exit.then]
  go_at_K
  go_wp2_with fail
  refine bodyPost_ret (v := .tuple #[.agg #[.slice ba n bcap, .int .i64 vals], .int .i64 z, .int .i64 b]) (by simp [results, Try.results27, go_sem, r0, r1]) rfl ?_
  exact ⟨_, F, z, b, rfl, HF6.out, by rw [HN.out]; exact hn0, by rw [HN.out]; exact hn9, hx0, by rw [HN.out]; exact hz, hb0, by rw [HN.out]; exact hb1, HB6.out⟩

set_option maxRecDepth 100000 in
set_option maxHeartbeats 16000000 in
theorem drawDoms_any (a : Option Addr) (len cap : Nat) (zs : List Int) (w : World) (hr : IsRow .u8 w a len cap zs) :
    Calls Try.prog 23 #[.slice a len cap] w fun e w' => GivesOne w e w' := by
  have HR : Hid (IsRow .u8 w a len cap zs) := hr
  clear hr
  go_enter Try.func23, Try.ntmps23
  go_wp2_with fail
  obtain ⟨wA, hwA⟩ : ∃ W, w.alloc (.cells #[.slice none 0 0, .int .i64 0] 30) = W := ⟨_, rfl⟩
  have bA : Below w.heap.size w wA := by rw [← hwA]; exact Bel.alloc _ _
  have xA : wA.heap[w.heap.size]? = some (.cells #[.slice none 0 0, .int .i64 0] 30 (0, 0)) := by rw [← hwA]; exact World.alloc_heap_new _ _
  have sA : wA.heap.size = w.heap.size + 1 := by rw [← hwA]; simp
  try rw [hwA]
  clear hwA
  obtain ⟨R, hR⟩ : ∃ x, w.heap.size = x := ⟨_, rfl⟩
  rw [hR] at xA sA ⊢
  refine (new_any a len cap zs _ (HR.out.keep (p := w.heap.size) (fun x e c => Nat.ne_of_lt (HR.out.lt x e c)) (Fr.ofBelow bA))).mono ?_
  rintro e w1 ⟨rfl, b1, hc1, _⟩
  rw [sA] at b1 hc1 ⊢
  have x1 : w1.heap[R]? = some (.cells #[.slice none 0 0, .int .i64 0] 30 (0, 0)) := (b1.block _ (by omega)).trans xA
  have X1 : Hid (w1.heap[R]? = some (.cells #[.slice none 0 0, .int .i64 0] 30 (0, 0))) := x1
  have B1 : Hid (Below w.heap.size w w1) := bA.trans (b1.mono (by omega))
  have C1 : Hid (Cur w1 (R + 1)) := hc1
  clear b1 hc1 x1 xA bA
  go_wp2_with fail
  refine (draw_any (R + 1) _ C1.out).mono ?_
  rintro e w2 ⟨v, F, rfl, hF, hn0, hn9, b2, _⟩
  obtain ⟨n, hn⟩ : ∃ n, F.blocks.length = n := ⟨_, rfl⟩
  have HN : Hid (F.blocks.length = n) := hn
  obtain ⟨ba, bcap, vals, rfl⟩ := hF.out hn
  rw [hn] at hn0 hn9
  have x2 : w2.heap[R]? = some (.cells #[.slice none 0 0, .int .i64 0] 30 (0, 0)) := (b2.block _ (by omega)).trans X1.out
  have B2 : Below w.heap.size w w2 := B1.out.trans (b2.mono (by omega))
  have y0 : w2.cell? ⟨R, 0, none⟩ = some (.slice none 0 0) := by simp [World.cell?, x2]
  have y1 : w2.cell? ⟨R, 1, none⟩ = some (.int .i64 0) := by simp [World.cell?, x2]
  have u0 : w2.frozen? ⟨R, 0, none⟩ = false := by simp [World.frozen?, x2]
  have u1 : w2.frozen? ⟨R, 1, none⟩ = false := by simp [World.frozen?, x2]
  obtain ⟨r0, r1, hF6, hB6⟩ := box_end hR.symm x2 (FnAtLo.low (by omega) hF) B2
  have HF6 : Hid (FnAtLo w.heap.size ((w2.setCell ⟨R, 0, none⟩ (.slice ba n bcap)).setCell ⟨R, 1, none⟩ (.int .i64 vals)) (.agg #[.slice ba n bcap, .int .i64 vals]) F) := hF6
  have HB6 : Hid (Below w.heap.size w ((w2.setCell ⟨R, 0, none⟩ (.slice ba n bcap)).setCell ⟨R, 1, none⟩ (.int .i64 vals))) := hB6
  clear hF6 hB6 hF x2 B2 b2 hn
  go_wp2_with fail
  refine bodyPost_ret (v := .agg #[.slice ba n bcap, .int .i64 vals]) (by simp [results, Try.results23, go_sem, r0, r1]) rfl ?_
  exact ⟨_, F, rfl, HF6.out, by rw [HN.out]; exact hn0, by rw [HN.out]; exact hn9, HB6.out⟩

end Go.Proofs.Ytkolfddajcmnaaa

namespace Go.Proofs.Ytkolfddajcmnaaa
open Go.ChangeShapes Go.WideShapes Go.ChangeAt Go.RowKit
set_option linter.unusedVariables false

theorem big_any (a : Option Addr) (len cap : Nat) (w : World) : Calls Try.prog 22 #[.slice a len cap] w fun e w' => ∃ b : Bool, e = .returned (.bool b) ∧ w' = w := by
  go_enter Try.func22, Try.ntmps22
  go_wp2
  go_ret
  exact ⟨_, rfl, rfl⟩
end Go.Proofs.Ytkolfddajcmnaaa

namespace Go.Proofs.Ytkolfddajcmnaaa
set_option linter.unusedVariables false

theorem dominatesOf_iff {F : FnD} {a b : Int} : dominatesOf F a b = true ↔ FnShape F ∧ 0 ≤ a ∧ 0 ≤ b ∧ b < F.blocks.length ∧ Dom F a.toNat b.toNat := by simp [dominatesOf]
theorem dominates_trans {F : FnD} {x a b : Int} (h : dominatesOf F a b = true) (h2 : dominatesOf F x a = true) : dominatesOf F x b = true := by
  rw [dominatesOf_iff] at *
  exact ⟨h.1, h2.2.1, h.2.2.1, h.2.2.2.1, dom_trans h2.2.2.2.2 h.2.2.2.2⟩
theorem dominates_zero {F : FnD} {a b : Int} (h : dominatesOf F a b = true) : dominatesOf F 0 b = true := by
  rw [dominatesOf_iff] at *
  exact ⟨h.1, by omega, h.2.2.1, h.2.2.2.1, dom_zero h.1 h.2.2.2.2.2.1⟩
theorem dominates_refl {F : FnD} {a b : Int} (h : dominatesOf F a b = true) : dominatesOf F b b = true := by
  rw [dominatesOf_iff] at *
  exact ⟨h.1, h.2.2.1, h.2.2.1, h.2.2.2.1, dom_refl h.2.2.2.2.2.1⟩
/-- The one just above. -/
theorem above_law {F : FnD} {c : Int} (h : 0 ≤ aboveOf F c) : dominatesOf F (aboveOf F c) c = true ∧ aboveOf F c ≠ c ∧ ∀ x : Int, x ≠ c → dominatesOf F x c = dominatesOf F x (aboveOf F c) := by
  have hp : FnShape F ∧ 0 ≤ c ∧ c < F.blocks.length := by
    refine Classical.byContradiction fun hn => ?_
    unfold aboveOf at h
    rw [if_neg hn] at h
    omega
  obtain ⟨a, ha⟩ : ∃ a, (List.range F.blocks.length).find? (aboveS F c.toNat) = some a := by
    cases e : (List.range F.blocks.length).find? (aboveS F c.toNat) with
    | some a => exact ⟨a, rfl⟩
    | none =>
      unfold aboveOf at h
      rw [if_pos hp, e] at h
      exact absurd h (by decide)
  have hu : aboveOf F c = (a : Int) := by
    unfold aboveOf
    rw [if_pos hp, ha]
  have hs := List.find?_some ha
  rw [← above_same hp.1] at hs
  unfold aboveP at hs
  simp only [Bool.and_eq_true, decide_eq_true_eq] at hs
  obtain ⟨⟨hd, hne⟩, hall⟩ := hs
  have hD := domB_iff.1 hd
  have hal := (dom_lt hp.1 hD).1
  have h16 : F.blocks.length ≤ 16 := by have := hp.1.2.1; omega
  rw [hu]
  refine ⟨dominatesOf_iff.2 ⟨hp.1, by omega, hp.2.1, hp.2.2, by simpa using hD⟩, by omega, fun x hx => ?_⟩
  have key : 0 ≤ x → (Dom F x.toNat c.toNat ↔ Dom F x.toNat a) := by
    intro hx0
    by_cases hl : x.toNat < 16
    · have e := hall x.toNat hl
      have hxc : x.toNat ≠ c.toNat := by omega
      simp only [hxc, ne_eq, not_false_eq_true, decide_true, Bool.and_true] at e
      rw [← domB_iff, ← domB_iff, e]
    · constructor
      · intro hh
        have := (dom_lt hp.1 hh).1
        omega
      · intro hh
        have := (dom_lt hp.1 hh).1
        omega
  apply Bool.eq_iff_iff.2
  rw [dominatesOf_iff, dominatesOf_iff]
  constructor
  · rintro ⟨a1, a2, a3, a4, a5⟩
    exact ⟨a1, a2, by omega, by omega, by rw [Int.toNat_natCast]; exact (key a2).1 a5⟩
  · rintro ⟨a1, a2, a3, a4, a5⟩
    rw [Int.toNat_natCast] at a5
    exact ⟨a1, a2, hp.2.1, hp.2.2, (key a2).2 a5⟩
end Go.Proofs.Ytkolfddajcmnaaa

namespace Go.Proofs.Ytkolfddajcmnaaa
open Go.ChangeShapes Go.WideShapes Go.ChangeAt Go.RowKit Go.Shelf
set_option linter.unusedVariables false

section
variable {P : Program} {md : Region.Mode} {ops : Array Oper} {Q : Exit → Act → World → Prop} {m : Nat} {S : World → Prop}
theorem wpAnyM_oneG {i : Nat} {o : Oper} {fuel : Nat} {li : Array Bool} {a : Act} {w : World} (ho : ops[i]? = some o) (hw : Region.wanted o (yielded ops a.tmps) = true) (hr : Region.ready md ops li = [i])
    (h : o.wp P a w (fun a' w' => (i ≠ m → S w') ∧ wpAnyM P md ops Q m S fuel (li.setIfInBounds i true) a' w') Q) : wpAnyM P md ops Q m S (fuel + 1) li a w := by
  refine ⟨fun h0 => (by rw [hr] at h0; simp at h0), fun j hj => ?_⟩
  rw [hr] at hj
  have : j = i := by simpa using hj
  subst this
  unfold wpOp
  simp only [ho]
  rw [if_pos hw]
  exact .inl h
end
theorem run_call3 {P : Program} {o : Oper} {a : Act} {f : FuncId} {x y z : Operand} {ts : Array TypeId} (ho : o.op = Op.call { callee := Callee.value (Operand.func f), args := #[x, y, z], argTypes := ts }) {u v t : Value} (hx : a.eval x = u) (hy : a.eval y = v) (hz : a.eval z = t) (he : ∀ args w, (callFunc f args).run P w = .ok (.enter f args) w) (w : World) : (execOp a.eval o).run P w = .ok (.enter f #[u, v, t]) w := by
  simp [execOp, ho, resolve, invoke, Act.eval, go_sem, he]
  simp [Act.eval] at hx hy hz
  simp [hx, hy, hz]
theorem run_geq0 (x : Int) (b : Bool) (h : decide (0 ≤ x) = b) (W : World) : (binOp .geq 3 (.int .i64 x) (.int .i64 0)).run Try.prog W = .ok (.bool b) W := by
  subst h
  simp [binOp, go_sem]
theorem run_neqI (x y : Int) (b : Bool) (h : (x != y) = b) (W : World) : (binOp .neq 3 (.int .i64 x) (.int .i64 y)).run Try.prog W = .ok (.bool b) W := by
  subst h
  simp [binOp, go_sem]
theorem run_neqB (x y : Bool) (b : Bool) (h : (x != y) = b) (W : World) : (binOp .neq 4 (.bool x) (.bool y)).run Try.prog W = .ok (.bool b) W := by
  subst h
  cases x <;> cases y <;> kernel_rfl
theorem run_loadAt_fn {W : World} {GB m gcap : Nat} {ga : Option Addr} {vals2 : Int} (h : W.cell? ⟨GB, 0, none⟩ = some (.slice ga m gcap) ∧ W.cell? ⟨GB, 1, none⟩ = some (.int .i64 vals2)) : (Instr.loadAt 30 (.pointer (some ⟨GB, 0, none⟩))).run Try.prog W = .ok (.agg #[.slice ga m gcap, .int .i64 vals2]) W := by
  simp [Instr.loadAt, Instr.sureAddr, go_sem, h.1, h.2]

def opsD : Array Oper := #[{ dst := some 85, op := Op.move (Operand.tmp 9), type := 3, pos := "laws.go:689", after := #[], guard := none }, { dst := some 86, op := Op.binOp BinOp.geq 3 (Operand.tmp 85) (Operand.const (Value.int IntKind.i64 0)) 3, type := 4, pos := "laws.go:689", after := #[{ on := 0, ground := Ground.data }], guard := none }, { dst := some 87, op := Op.move (Operand.tmp 86), type := 4, pos := "laws.go:689", after := #[{ on := 1, ground := Ground.data }], guard := none }, { dst := some 88, op := Op.move (Operand.tmp 11), type := 3, pos := "laws.go:689", after := #[{ on := 2, ground := Ground.guard }], guard := some (2, true) }, { dst := some 89, op := Op.move (Operand.tmp 8), type := 3, pos := "laws.go:689", after := #[{ on := 2, ground := Ground.guard }], guard := some (2, true) }, { dst := some 90, op := Op.binOp BinOp.neq 3 (Operand.tmp 88) (Operand.tmp 89) 3, type := 4, pos := "laws.go:689", after := #[{ on := 3, ground := Ground.data }, { on := 4, ground := Ground.data }, { on := 2, ground := Ground.guard }], guard := some (2, true) }, { dst := some 91, op := Op.pick (Operand.tmp 87) (Operand.tmp 90) (Operand.const (Value.bool false)), type := 4, pos := "laws.go:689", after := #[{ on := 2, ground := Ground.data }, { on := 5, ground := Ground.data }], guard := none }, { dst := some 92, op := Op.move (Operand.tmp 91), type := 4, pos := "laws.go:689", after := #[{ on := 6, ground := Ground.data }, { on := 2, ground := Ground.chain }], guard := none }, { dst := some 93, op := Op.load 30 (Operand.tmp 7), type := 30, pos := "laws.go:689", after := #[{ on := 7, ground := Ground.guard }], guard := some (7, true) }, { dst := some 94, op := Op.move (Operand.tmp 11), type := 3, pos := "laws.go:689", after := #[{ on := 7, ground := Ground.guard }], guard := some (7, true) }, { dst := some 95, op := Op.move (Operand.tmp 8), type := 3, pos := "laws.go:689", after := #[{ on := 7, ground := Ground.guard }], guard := some (7, true) }, { dst := some 96, op := Op.call { callee := Callee.value (Operand.func 19), args := #[Operand.tmp 93, Operand.tmp 94, Operand.tmp 95], argTypes := #[30, 3, 3] }, type := 4, pos := "laws.go:689", after := #[{ on := 8, ground := Ground.data }, { on := 9, ground := Ground.data }, { on := 10, ground := Ground.data }, { on := 7, ground := Ground.chain }, { on := 7, ground := Ground.guard }], guard := some (7, true) }, { dst := some 97, op := Op.load 30 (Operand.tmp 7), type := 30, pos := "laws.go:689", after := #[{ on := 7, ground := Ground.guard }], guard := some (7, true) }, { dst := some 98, op := Op.move (Operand.tmp 11), type := 3, pos := "laws.go:689", after := #[{ on := 7, ground := Ground.guard }], guard := some (7, true) }, { dst := some 99, op := Op.move (Operand.tmp 9), type := 3, pos := "laws.go:689", after := #[{ on := 7, ground := Ground.guard }], guard := some (7, true) }, { dst := some 100, op := Op.call { callee := Callee.value (Operand.func 19), args := #[Operand.tmp 97, Operand.tmp 98, Operand.tmp 99], argTypes := #[30, 3, 3] }, type := 4, pos := "laws.go:689", after := #[{ on := 12, ground := Ground.data }, { on := 13, ground := Ground.data }, { on := 14, ground := Ground.data }, { on := 11, ground := Ground.chain }, { on := 7, ground := Ground.guard }], guard := some (7, true) }, { dst := some 101, op := Op.binOp BinOp.neq 4 (Operand.tmp 96) (Operand.tmp 100) 4, type := 4, pos := "laws.go:689", after := #[{ on := 11, ground := Ground.data }, { on := 15, ground := Ground.data }, { on := 7, ground := Ground.guard }], guard := some (7, true) }, { dst := some 102, op := Op.pick (Operand.tmp 92) (Operand.tmp 101) (Operand.const (Value.bool false)), type := 4, pos := "laws.go:689", after := #[{ on := 7, ground := Ground.data }, { on := 16, ground := Ground.data }], guard := none }]

set_option maxRecDepth 100000 in
set_option maxHeartbeats 4000000 in
theorem domRegL (GB m gcap : Nat) (ga : Option Addr) (vals2 : Int) (G : FnD) (up c k : Int) (hup : up < 0) (a : Act) (hsz : a.tmps.size = 116) (h7 : a.eval (.tmp 7) = .pointer (some ⟨GB, 0, none⟩)) (h8 : a.eval (.tmp 8) = .int .i64 c) (h9 : a.eval (.tmp 9) = .int .i64 up) (h11 : a.eval (.tmp 11) = .int .i64 k) (w : World) (hG : FnAt w (.agg #[.slice ga m gcap, .int .i64 vals2]) G)
    (hS : w.cell? ⟨GB, 0, none⟩ = some (.slice ga m gcap) ∧ w.cell? ⟨GB, 1, none⟩ = some (.int .i64 vals2)) (Q : Exit → Act → World → Prop) (hQp : ∀ c a w, ¬ Q (.panic c) a w)
    (hQ : ∀ W', Below w.heap.size w W' → Q .normal ((((((((((((((((((a.put (some 85) (.int .i64 up)).put (some 86) (.bool false)).put (some 87) (.bool false)).put (some 88) (undef)).put (some 89) (undef)).put (some 90) (undef)).put (some 91) (.bool false)).put (some 92) (.bool false)).put (some 93) (undef)).put (some 94) (undef)).put (some 95) (undef)).put (some 96) (undef)).put (some 97) (undef)).put (some 98) (undef)).put (some 99) (undef)).put (some 100) (undef)).put (some 101) (undef)).put (some 102) (.bool false)) W') :
    wpAnyM Try.prog .any opsD Q 100 (fun W => W.cell? ⟨GB, 0, none⟩ = some (.slice ga m gcap) ∧ W.cell? ⟨GB, 1, none⟩ = some (.int .i64 vals2)) 18 (Array.replicate 18 false) a w := by
  have hp : ∀ (o : Option Tmp) (v : Value) c a w, Q (.panic c) (a.put o v) w → Q (.panic c) a w := fun o v c a w h => absurd h (hQp _ _ _)
  refine wpAnyM_take (i := 0) (v := .int .i64 up) rfl (by kernel_rfl) (by kernel_rfl) (by kernel_rfl) (by kernel_rfl) (hp _ _) (yields_move rfl rfl h9) hS ?_
  obtain ⟨a1, e1⟩ : ∃ x, a.put opsD[0].dst (.int .i64 up) = x := ⟨_, rfl⟩
  have z1 : a1.tmps.size = 116 := by rw [← e1]; exact put_size.trans hsz
  have g1_7 : a1.eval (.tmp 7) = .pointer (some ⟨GB, 0, none⟩) := by rw [← e1]; exact (put_ne (by decide)).trans h7
  have g1_8 : a1.eval (.tmp 8) = .int .i64 c := by rw [← e1]; exact (put_ne (by decide)).trans h8
  have g1_9 : a1.eval (.tmp 9) = .int .i64 up := by rw [← e1]; exact (put_ne (by decide)).trans h9
  have g1_11 : a1.eval (.tmp 11) = .int .i64 k := by rw [← e1]; exact (put_ne (by decide)).trans h11
  have g1_85 : a1.eval (.tmp 85) = .int .i64 up := by rw [← e1]; exact put_eq (by rw [hsz]; decide)
  rw [e1]
  replace hQ : ∀ W', Below w.heap.size w W' → Q .normal (((((((((((((((((a1.put (some 86) (.bool false)).put (some 87) (.bool false)).put (some 88) (undef)).put (some 89) (undef)).put (some 90) (undef)).put (some 91) (.bool false)).put (some 92) (.bool false)).put (some 93) (undef)).put (some 94) (undef)).put (some 95) (undef)).put (some 96) (undef)).put (some 97) (undef)).put (some 98) (undef)).put (some 99) (undef)).put (some 100) (undef)).put (some 101) (undef)).put (some 102) (.bool false)) W' := by rw [← e1]; exact hQ
  clear e1 hsz h7 h8 h9 h11
  refine wpAnyM_take (i := 1) (v := .bool false) rfl (by kernel_rfl) (by kernel_rfl) (by kernel_rfl) (by kernel_rfl) (hp _ _) (yieldsG_bin rfl rfl g1_85 rfl (fun W => rfl) (fun W => run_geq0 up false (by simp; omega) W)) hS ?_
  obtain ⟨a2, e2⟩ : ∃ x, a1.put opsD[1].dst (.bool false) = x := ⟨_, rfl⟩
  have z2 : a2.tmps.size = 116 := by rw [← e2]; exact put_size.trans z1
  have g2_7 : a2.eval (.tmp 7) = .pointer (some ⟨GB, 0, none⟩) := by rw [← e2]; exact (put_ne (by decide)).trans g1_7
  have g2_8 : a2.eval (.tmp 8) = .int .i64 c := by rw [← e2]; exact (put_ne (by decide)).trans g1_8
  have g2_9 : a2.eval (.tmp 9) = .int .i64 up := by rw [← e2]; exact (put_ne (by decide)).trans g1_9
  have g2_11 : a2.eval (.tmp 11) = .int .i64 k := by rw [← e2]; exact (put_ne (by decide)).trans g1_11
  have g2_85 : a2.eval (.tmp 85) = .int .i64 up := by rw [← e2]; exact (put_ne (by decide)).trans g1_85
  have g2_86 : a2.eval (.tmp 86) = .bool false := by rw [← e2]; exact put_eq (by rw [z1]; decide)
  rw [e2]
  replace hQ : ∀ W', Below w.heap.size w W' → Q .normal ((((((((((((((((a2.put (some 87) (.bool false)).put (some 88) (undef)).put (some 89) (undef)).put (some 90) (undef)).put (some 91) (.bool false)).put (some 92) (.bool false)).put (some 93) (undef)).put (some 94) (undef)).put (some 95) (undef)).put (some 96) (undef)).put (some 97) (undef)).put (some 98) (undef)).put (some 99) (undef)).put (some 100) (undef)).put (some 101) (undef)).put (some 102) (.bool false)) W' := by rw [← e2]; exact hQ
  clear e2 z1 g1_7 g1_8 g1_9 g1_11 g1_85
  refine wpAnyM_take (i := 2) (v := .bool false) rfl (by kernel_rfl) (by kernel_rfl) (by kernel_rfl) (by kernel_rfl) (hp _ _) (yields_move rfl rfl g2_86) hS ?_
  obtain ⟨a3, e3⟩ : ∃ x, a2.put opsD[2].dst (.bool false) = x := ⟨_, rfl⟩
  have z3 : a3.tmps.size = 116 := by rw [← e3]; exact put_size.trans z2
  have g3_7 : a3.eval (.tmp 7) = .pointer (some ⟨GB, 0, none⟩) := by rw [← e3]; exact (put_ne (by decide)).trans g2_7
  have g3_8 : a3.eval (.tmp 8) = .int .i64 c := by rw [← e3]; exact (put_ne (by decide)).trans g2_8
  have g3_9 : a3.eval (.tmp 9) = .int .i64 up := by rw [← e3]; exact (put_ne (by decide)).trans g2_9
  have g3_11 : a3.eval (.tmp 11) = .int .i64 k := by rw [← e3]; exact (put_ne (by decide)).trans g2_11
  have g3_85 : a3.eval (.tmp 85) = .int .i64 up := by rw [← e3]; exact (put_ne (by decide)).trans g2_85
  have g3_86 : a3.eval (.tmp 86) = .bool false := by rw [← e3]; exact (put_ne (by decide)).trans g2_86
  have g3_87 : a3.eval (.tmp 87) = .bool false := by rw [← e3]; exact put_eq (by rw [z2]; decide)
  rw [e3]
  replace hQ : ∀ W', Below w.heap.size w W' → Q .normal (((((((((((((((a3.put (some 88) (undef)).put (some 89) (undef)).put (some 90) (undef)).put (some 91) (.bool false)).put (some 92) (.bool false)).put (some 93) (undef)).put (some 94) (undef)).put (some 95) (undef)).put (some 96) (undef)).put (some 97) (undef)).put (some 98) (undef)).put (some 99) (undef)).put (some 100) (undef)).put (some 101) (undef)).put (some 102) (.bool false)) W' := by rw [← e3]; exact hQ
  clear e3 z2 g2_7 g2_8 g2_9 g2_11 g2_85 g2_86
  refine wpAnyM_take (i := 3) (v := undef) rfl (by kernel_rfl) (by kernel_rfl) (by kernel_rfl) (by kernel_rfl) (hp _ _) (yieldsG_not ((wanted_at (ops := opsD) (b := true) rfl rfl g3_87).trans rfl)) hS ?_
  obtain ⟨a4, e4⟩ : ∃ x, a3.put opsD[3].dst (undef) = x := ⟨_, rfl⟩
  have z4 : a4.tmps.size = 116 := by rw [← e4]; exact put_size.trans z3
  have g4_7 : a4.eval (.tmp 7) = .pointer (some ⟨GB, 0, none⟩) := by rw [← e4]; exact (put_ne (by decide)).trans g3_7
  have g4_8 : a4.eval (.tmp 8) = .int .i64 c := by rw [← e4]; exact (put_ne (by decide)).trans g3_8
  have g4_9 : a4.eval (.tmp 9) = .int .i64 up := by rw [← e4]; exact (put_ne (by decide)).trans g3_9
  have g4_11 : a4.eval (.tmp 11) = .int .i64 k := by rw [← e4]; exact (put_ne (by decide)).trans g3_11
  have g4_85 : a4.eval (.tmp 85) = .int .i64 up := by rw [← e4]; exact (put_ne (by decide)).trans g3_85
  have g4_86 : a4.eval (.tmp 86) = .bool false := by rw [← e4]; exact (put_ne (by decide)).trans g3_86
  have g4_87 : a4.eval (.tmp 87) = .bool false := by rw [← e4]; exact (put_ne (by decide)).trans g3_87
  have g4_88 : a4.eval (.tmp 88) = undef := by rw [← e4]; exact put_eq (by rw [z3]; decide)
  rw [e4]
  replace hQ : ∀ W', Below w.heap.size w W' → Q .normal ((((((((((((((a4.put (some 89) (undef)).put (some 90) (undef)).put (some 91) (.bool false)).put (some 92) (.bool false)).put (some 93) (undef)).put (some 94) (undef)).put (some 95) (undef)).put (some 96) (undef)).put (some 97) (undef)).put (some 98) (undef)).put (some 99) (undef)).put (some 100) (undef)).put (some 101) (undef)).put (some 102) (.bool false)) W' := by rw [← e4]; exact hQ
  clear e4 z3 g3_7 g3_8 g3_9 g3_11 g3_85 g3_86 g3_87
  refine wpAnyM_take (i := 4) (v := undef) rfl (by kernel_rfl) (by kernel_rfl) (by kernel_rfl) (by kernel_rfl) (hp _ _) (yieldsG_not ((wanted_at (ops := opsD) (b := true) rfl rfl g4_87).trans rfl)) hS ?_
  obtain ⟨a5, e5⟩ : ∃ x, a4.put opsD[4].dst (undef) = x := ⟨_, rfl⟩
  have z5 : a5.tmps.size = 116 := by rw [← e5]; exact put_size.trans z4
  have g5_7 : a5.eval (.tmp 7) = .pointer (some ⟨GB, 0, none⟩) := by rw [← e5]; exact (put_ne (by decide)).trans g4_7
  have g5_8 : a5.eval (.tmp 8) = .int .i64 c := by rw [← e5]; exact (put_ne (by decide)).trans g4_8
  have g5_9 : a5.eval (.tmp 9) = .int .i64 up := by rw [← e5]; exact (put_ne (by decide)).trans g4_9
  have g5_11 : a5.eval (.tmp 11) = .int .i64 k := by rw [← e5]; exact (put_ne (by decide)).trans g4_11
  have g5_85 : a5.eval (.tmp 85) = .int .i64 up := by rw [← e5]; exact (put_ne (by decide)).trans g4_85
  have g5_86 : a5.eval (.tmp 86) = .bool false := by rw [← e5]; exact (put_ne (by decide)).trans g4_86
  have g5_87 : a5.eval (.tmp 87) = .bool false := by rw [← e5]; exact (put_ne (by decide)).trans g4_87
  have g5_88 : a5.eval (.tmp 88) = undef := by rw [← e5]; exact (put_ne (by decide)).trans g4_88
  have g5_89 : a5.eval (.tmp 89) = undef := by rw [← e5]; exact put_eq (by rw [z4]; decide)
  rw [e5]
  replace hQ : ∀ W', Below w.heap.size w W' → Q .normal (((((((((((((a5.put (some 90) (undef)).put (some 91) (.bool false)).put (some 92) (.bool false)).put (some 93) (undef)).put (some 94) (undef)).put (some 95) (undef)).put (some 96) (undef)).put (some 97) (undef)).put (some 98) (undef)).put (some 99) (undef)).put (some 100) (undef)).put (some 101) (undef)).put (some 102) (.bool false)) W' := by rw [← e5]; exact hQ
  clear e5 z4 g4_7 g4_8 g4_9 g4_11 g4_85 g4_86 g4_87 g4_88
  refine wpAnyM_take (i := 5) (v := undef) rfl (by kernel_rfl) (by kernel_rfl) (by kernel_rfl) (by kernel_rfl) (hp _ _) (yieldsG_not ((wanted_at (ops := opsD) (b := true) rfl rfl g5_87).trans rfl)) hS ?_
  obtain ⟨a6, e6⟩ : ∃ x, a5.put opsD[5].dst (undef) = x := ⟨_, rfl⟩
  have z6 : a6.tmps.size = 116 := by rw [← e6]; exact put_size.trans z5
  have g6_7 : a6.eval (.tmp 7) = .pointer (some ⟨GB, 0, none⟩) := by rw [← e6]; exact (put_ne (by decide)).trans g5_7
  have g6_8 : a6.eval (.tmp 8) = .int .i64 c := by rw [← e6]; exact (put_ne (by decide)).trans g5_8
  have g6_9 : a6.eval (.tmp 9) = .int .i64 up := by rw [← e6]; exact (put_ne (by decide)).trans g5_9
  have g6_11 : a6.eval (.tmp 11) = .int .i64 k := by rw [← e6]; exact (put_ne (by decide)).trans g5_11
  have g6_85 : a6.eval (.tmp 85) = .int .i64 up := by rw [← e6]; exact (put_ne (by decide)).trans g5_85
  have g6_86 : a6.eval (.tmp 86) = .bool false := by rw [← e6]; exact (put_ne (by decide)).trans g5_86
  have g6_87 : a6.eval (.tmp 87) = .bool false := by rw [← e6]; exact (put_ne (by decide)).trans g5_87
  have g6_88 : a6.eval (.tmp 88) = undef := by rw [← e6]; exact (put_ne (by decide)).trans g5_88
  have g6_89 : a6.eval (.tmp 89) = undef := by rw [← e6]; exact (put_ne (by decide)).trans g5_89
  have g6_90 : a6.eval (.tmp 90) = undef := by rw [← e6]; exact put_eq (by rw [z5]; decide)
  rw [e6]
  replace hQ : ∀ W', Below w.heap.size w W' → Q .normal ((((((((((((a6.put (some 91) (.bool false)).put (some 92) (.bool false)).put (some 93) (undef)).put (some 94) (undef)).put (some 95) (undef)).put (some 96) (undef)).put (some 97) (undef)).put (some 98) (undef)).put (some 99) (undef)).put (some 100) (undef)).put (some 101) (undef)).put (some 102) (.bool false)) W' := by rw [← e6]; exact hQ
  clear e6 z5 g5_7 g5_8 g5_9 g5_11 g5_85 g5_86 g5_87 g5_88 g5_89
  refine wpAnyM_take (i := 6) (v := .bool false) rfl (by kernel_rfl) (by kernel_rfl) (by kernel_rfl) (by kernel_rfl) (hp _ _) (yieldsG_pick rfl rfl g6_87 rfl) hS ?_
  obtain ⟨a7, e7⟩ : ∃ x, a6.put opsD[6].dst (.bool false) = x := ⟨_, rfl⟩
  have z7 : a7.tmps.size = 116 := by rw [← e7]; exact put_size.trans z6
  have g7_7 : a7.eval (.tmp 7) = .pointer (some ⟨GB, 0, none⟩) := by rw [← e7]; exact (put_ne (by decide)).trans g6_7
  have g7_8 : a7.eval (.tmp 8) = .int .i64 c := by rw [← e7]; exact (put_ne (by decide)).trans g6_8
  have g7_9 : a7.eval (.tmp 9) = .int .i64 up := by rw [← e7]; exact (put_ne (by decide)).trans g6_9
  have g7_11 : a7.eval (.tmp 11) = .int .i64 k := by rw [← e7]; exact (put_ne (by decide)).trans g6_11
  have g7_85 : a7.eval (.tmp 85) = .int .i64 up := by rw [← e7]; exact (put_ne (by decide)).trans g6_85
  have g7_86 : a7.eval (.tmp 86) = .bool false := by rw [← e7]; exact (put_ne (by decide)).trans g6_86
  have g7_87 : a7.eval (.tmp 87) = .bool false := by rw [← e7]; exact (put_ne (by decide)).trans g6_87
  have g7_88 : a7.eval (.tmp 88) = undef := by rw [← e7]; exact (put_ne (by decide)).trans g6_88
  have g7_89 : a7.eval (.tmp 89) = undef := by rw [← e7]; exact (put_ne (by decide)).trans g6_89
  have g7_90 : a7.eval (.tmp 90) = undef := by rw [← e7]; exact (put_ne (by decide)).trans g6_90
  have g7_91 : a7.eval (.tmp 91) = .bool false := by rw [← e7]; exact put_eq (by rw [z6]; decide)
  rw [e7]
  replace hQ : ∀ W', Below w.heap.size w W' → Q .normal (((((((((((a7.put (some 92) (.bool false)).put (some 93) (undef)).put (some 94) (undef)).put (some 95) (undef)).put (some 96) (undef)).put (some 97) (undef)).put (some 98) (undef)).put (some 99) (undef)).put (some 100) (undef)).put (some 101) (undef)).put (some 102) (.bool false)) W' := by rw [← e7]; exact hQ
  clear e7 z6 g6_7 g6_8 g6_9 g6_11 g6_85 g6_86 g6_87 g6_88 g6_89 g6_90
  refine wpAnyM_take (i := 7) (v := .bool false) rfl (by kernel_rfl) (by kernel_rfl) (by kernel_rfl) (by kernel_rfl) (hp _ _) (yields_move rfl rfl g7_91) hS ?_
  obtain ⟨a8, e8⟩ : ∃ x, a7.put opsD[7].dst (.bool false) = x := ⟨_, rfl⟩
  have z8 : a8.tmps.size = 116 := by rw [← e8]; exact put_size.trans z7
  have g8_7 : a8.eval (.tmp 7) = .pointer (some ⟨GB, 0, none⟩) := by rw [← e8]; exact (put_ne (by decide)).trans g7_7
  have g8_8 : a8.eval (.tmp 8) = .int .i64 c := by rw [← e8]; exact (put_ne (by decide)).trans g7_8
  have g8_9 : a8.eval (.tmp 9) = .int .i64 up := by rw [← e8]; exact (put_ne (by decide)).trans g7_9
  have g8_11 : a8.eval (.tmp 11) = .int .i64 k := by rw [← e8]; exact (put_ne (by decide)).trans g7_11
  have g8_85 : a8.eval (.tmp 85) = .int .i64 up := by rw [← e8]; exact (put_ne (by decide)).trans g7_85
  have g8_86 : a8.eval (.tmp 86) = .bool false := by rw [← e8]; exact (put_ne (by decide)).trans g7_86
  have g8_87 : a8.eval (.tmp 87) = .bool false := by rw [← e8]; exact (put_ne (by decide)).trans g7_87
  have g8_88 : a8.eval (.tmp 88) = undef := by rw [← e8]; exact (put_ne (by decide)).trans g7_88
  have g8_89 : a8.eval (.tmp 89) = undef := by rw [← e8]; exact (put_ne (by decide)).trans g7_89
  have g8_90 : a8.eval (.tmp 90) = undef := by rw [← e8]; exact (put_ne (by decide)).trans g7_90
  have g8_91 : a8.eval (.tmp 91) = .bool false := by rw [← e8]; exact (put_ne (by decide)).trans g7_91
  have g8_92 : a8.eval (.tmp 92) = .bool false := by rw [← e8]; exact put_eq (by rw [z7]; decide)
  rw [e8]
  replace hQ : ∀ W', Below w.heap.size w W' → Q .normal ((((((((((a8.put (some 93) (undef)).put (some 94) (undef)).put (some 95) (undef)).put (some 96) (undef)).put (some 97) (undef)).put (some 98) (undef)).put (some 99) (undef)).put (some 100) (undef)).put (some 101) (undef)).put (some 102) (.bool false)) W' := by rw [← e8]; exact hQ
  clear e8 z7 g7_7 g7_8 g7_9 g7_11 g7_85 g7_86 g7_87 g7_88 g7_89 g7_90 g7_91
  refine wpAnyM_take (i := 8) (v := undef) rfl (by kernel_rfl) (by kernel_rfl) (by kernel_rfl) (by kernel_rfl) (hp _ _) (yieldsG_not ((wanted_at (ops := opsD) (b := true) rfl rfl g8_92).trans rfl)) hS ?_
  obtain ⟨a9, e9⟩ : ∃ x, a8.put opsD[8].dst (undef) = x := ⟨_, rfl⟩
  have z9 : a9.tmps.size = 116 := by rw [← e9]; exact put_size.trans z8
  have g9_7 : a9.eval (.tmp 7) = .pointer (some ⟨GB, 0, none⟩) := by rw [← e9]; exact (put_ne (by decide)).trans g8_7
  have g9_8 : a9.eval (.tmp 8) = .int .i64 c := by rw [← e9]; exact (put_ne (by decide)).trans g8_8
  have g9_9 : a9.eval (.tmp 9) = .int .i64 up := by rw [← e9]; exact (put_ne (by decide)).trans g8_9
  have g9_11 : a9.eval (.tmp 11) = .int .i64 k := by rw [← e9]; exact (put_ne (by decide)).trans g8_11
  have g9_85 : a9.eval (.tmp 85) = .int .i64 up := by rw [← e9]; exact (put_ne (by decide)).trans g8_85
  have g9_86 : a9.eval (.tmp 86) = .bool false := by rw [← e9]; exact (put_ne (by decide)).trans g8_86
  have g9_87 : a9.eval (.tmp 87) = .bool false := by rw [← e9]; exact (put_ne (by decide)).trans g8_87
  have g9_88 : a9.eval (.tmp 88) = undef := by rw [← e9]; exact (put_ne (by decide)).trans g8_88
  have g9_89 : a9.eval (.tmp 89) = undef := by rw [← e9]; exact (put_ne (by decide)).trans g8_89
  have g9_90 : a9.eval (.tmp 90) = undef := by rw [← e9]; exact (put_ne (by decide)).trans g8_90
  have g9_91 : a9.eval (.tmp 91) = .bool false := by rw [← e9]; exact (put_ne (by decide)).trans g8_91
  have g9_92 : a9.eval (.tmp 92) = .bool false := by rw [← e9]; exact (put_ne (by decide)).trans g8_92
  have g9_93 : a9.eval (.tmp 93) = undef := by rw [← e9]; exact put_eq (by rw [z8]; decide)
  rw [e9]
  replace hQ : ∀ W', Below w.heap.size w W' → Q .normal (((((((((a9.put (some 94) (undef)).put (some 95) (undef)).put (some 96) (undef)).put (some 97) (undef)).put (some 98) (undef)).put (some 99) (undef)).put (some 100) (undef)).put (some 101) (undef)).put (some 102) (.bool false)) W' := by rw [← e9]; exact hQ
  clear e9 z8 g8_7 g8_8 g8_9 g8_11 g8_85 g8_86 g8_87 g8_88 g8_89 g8_90 g8_91 g8_92
  refine wpAnyM_take (i := 9) (v := undef) rfl (by kernel_rfl) (by kernel_rfl) (by kernel_rfl) (by kernel_rfl) (hp _ _) (yieldsG_not ((wanted_at (ops := opsD) (b := true) rfl rfl g9_92).trans rfl)) hS ?_
  obtain ⟨a10, e10⟩ : ∃ x, a9.put opsD[9].dst (undef) = x := ⟨_, rfl⟩
  have z10 : a10.tmps.size = 116 := by rw [← e10]; exact put_size.trans z9
  have g10_7 : a10.eval (.tmp 7) = .pointer (some ⟨GB, 0, none⟩) := by rw [← e10]; exact (put_ne (by decide)).trans g9_7
  have g10_8 : a10.eval (.tmp 8) = .int .i64 c := by rw [← e10]; exact (put_ne (by decide)).trans g9_8
  have g10_9 : a10.eval (.tmp 9) = .int .i64 up := by rw [← e10]; exact (put_ne (by decide)).trans g9_9
  have g10_11 : a10.eval (.tmp 11) = .int .i64 k := by rw [← e10]; exact (put_ne (by decide)).trans g9_11
  have g10_85 : a10.eval (.tmp 85) = .int .i64 up := by rw [← e10]; exact (put_ne (by decide)).trans g9_85
  have g10_86 : a10.eval (.tmp 86) = .bool false := by rw [← e10]; exact (put_ne (by decide)).trans g9_86
  have g10_87 : a10.eval (.tmp 87) = .bool false := by rw [← e10]; exact (put_ne (by decide)).trans g9_87
  have g10_88 : a10.eval (.tmp 88) = undef := by rw [← e10]; exact (put_ne (by decide)).trans g9_88
  have g10_89 : a10.eval (.tmp 89) = undef := by rw [← e10]; exact (put_ne (by decide)).trans g9_89
  have g10_90 : a10.eval (.tmp 90) = undef := by rw [← e10]; exact (put_ne (by decide)).trans g9_90
  have g10_91 : a10.eval (.tmp 91) = .bool false := by rw [← e10]; exact (put_ne (by decide)).trans g9_91
  have g10_92 : a10.eval (.tmp 92) = .bool false := by rw [← e10]; exact (put_ne (by decide)).trans g9_92
  have g10_93 : a10.eval (.tmp 93) = undef := by rw [← e10]; exact (put_ne (by decide)).trans g9_93
  have g10_94 : a10.eval (.tmp 94) = undef := by rw [← e10]; exact put_eq (by rw [z9]; decide)
  rw [e10]
  replace hQ : ∀ W', Below w.heap.size w W' → Q .normal ((((((((a10.put (some 95) (undef)).put (some 96) (undef)).put (some 97) (undef)).put (some 98) (undef)).put (some 99) (undef)).put (some 100) (undef)).put (some 101) (undef)).put (some 102) (.bool false)) W' := by rw [← e10]; exact hQ
  clear e10 z9 g9_7 g9_8 g9_9 g9_11 g9_85 g9_86 g9_87 g9_88 g9_89 g9_90 g9_91 g9_92 g9_93
  refine wpAnyM_take (i := 10) (v := undef) rfl (by kernel_rfl) (by kernel_rfl) (by kernel_rfl) (by kernel_rfl) (hp _ _) (yieldsG_not ((wanted_at (ops := opsD) (b := true) rfl rfl g10_92).trans rfl)) hS ?_
  obtain ⟨a11, e11⟩ : ∃ x, a10.put opsD[10].dst (undef) = x := ⟨_, rfl⟩
  have z11 : a11.tmps.size = 116 := by rw [← e11]; exact put_size.trans z10
  have g11_7 : a11.eval (.tmp 7) = .pointer (some ⟨GB, 0, none⟩) := by rw [← e11]; exact (put_ne (by decide)).trans g10_7
  have g11_8 : a11.eval (.tmp 8) = .int .i64 c := by rw [← e11]; exact (put_ne (by decide)).trans g10_8
  have g11_9 : a11.eval (.tmp 9) = .int .i64 up := by rw [← e11]; exact (put_ne (by decide)).trans g10_9
  have g11_11 : a11.eval (.tmp 11) = .int .i64 k := by rw [← e11]; exact (put_ne (by decide)).trans g10_11
  have g11_85 : a11.eval (.tmp 85) = .int .i64 up := by rw [← e11]; exact (put_ne (by decide)).trans g10_85
  have g11_86 : a11.eval (.tmp 86) = .bool false := by rw [← e11]; exact (put_ne (by decide)).trans g10_86
  have g11_87 : a11.eval (.tmp 87) = .bool false := by rw [← e11]; exact (put_ne (by decide)).trans g10_87
  have g11_88 : a11.eval (.tmp 88) = undef := by rw [← e11]; exact (put_ne (by decide)).trans g10_88
  have g11_89 : a11.eval (.tmp 89) = undef := by rw [← e11]; exact (put_ne (by decide)).trans g10_89
  have g11_90 : a11.eval (.tmp 90) = undef := by rw [← e11]; exact (put_ne (by decide)).trans g10_90
  have g11_91 : a11.eval (.tmp 91) = .bool false := by rw [← e11]; exact (put_ne (by decide)).trans g10_91
  have g11_92 : a11.eval (.tmp 92) = .bool false := by rw [← e11]; exact (put_ne (by decide)).trans g10_92
  have g11_93 : a11.eval (.tmp 93) = undef := by rw [← e11]; exact (put_ne (by decide)).trans g10_93
  have g11_94 : a11.eval (.tmp 94) = undef := by rw [← e11]; exact (put_ne (by decide)).trans g10_94
  have g11_95 : a11.eval (.tmp 95) = undef := by rw [← e11]; exact put_eq (by rw [z10]; decide)
  rw [e11]
  replace hQ : ∀ W', Below w.heap.size w W' → Q .normal (((((((a11.put (some 96) (undef)).put (some 97) (undef)).put (some 98) (undef)).put (some 99) (undef)).put (some 100) (undef)).put (some 101) (undef)).put (some 102) (.bool false)) W' := by rw [← e11]; exact hQ
  clear e11 z10 g10_7 g10_8 g10_9 g10_11 g10_85 g10_86 g10_87 g10_88 g10_89 g10_90 g10_91 g10_92 g10_93 g10_94
  refine wpAnyM_take (i := 11) (v := undef) rfl (by kernel_rfl) (by kernel_rfl) (by kernel_rfl) (by kernel_rfl) (hp _ _) (yieldsG_not ((wanted_at (ops := opsD) (b := true) rfl rfl g11_92).trans rfl)) hS ?_
  obtain ⟨a12, e12⟩ : ∃ x, a11.put opsD[11].dst (undef) = x := ⟨_, rfl⟩
  have z12 : a12.tmps.size = 116 := by rw [← e12]; exact put_size.trans z11
  have g12_7 : a12.eval (.tmp 7) = .pointer (some ⟨GB, 0, none⟩) := by rw [← e12]; exact (put_ne (by decide)).trans g11_7
  have g12_8 : a12.eval (.tmp 8) = .int .i64 c := by rw [← e12]; exact (put_ne (by decide)).trans g11_8
  have g12_9 : a12.eval (.tmp 9) = .int .i64 up := by rw [← e12]; exact (put_ne (by decide)).trans g11_9
  have g12_11 : a12.eval (.tmp 11) = .int .i64 k := by rw [← e12]; exact (put_ne (by decide)).trans g11_11
  have g12_85 : a12.eval (.tmp 85) = .int .i64 up := by rw [← e12]; exact (put_ne (by decide)).trans g11_85
  have g12_86 : a12.eval (.tmp 86) = .bool false := by rw [← e12]; exact (put_ne (by decide)).trans g11_86
  have g12_87 : a12.eval (.tmp 87) = .bool false := by rw [← e12]; exact (put_ne (by decide)).trans g11_87
  have g12_88 : a12.eval (.tmp 88) = undef := by rw [← e12]; exact (put_ne (by decide)).trans g11_88
  have g12_89 : a12.eval (.tmp 89) = undef := by rw [← e12]; exact (put_ne (by decide)).trans g11_89
  have g12_90 : a12.eval (.tmp 90) = undef := by rw [← e12]; exact (put_ne (by decide)).trans g11_90
  have g12_91 : a12.eval (.tmp 91) = .bool false := by rw [← e12]; exact (put_ne (by decide)).trans g11_91
  have g12_92 : a12.eval (.tmp 92) = .bool false := by rw [← e12]; exact (put_ne (by decide)).trans g11_92
  have g12_93 : a12.eval (.tmp 93) = undef := by rw [← e12]; exact (put_ne (by decide)).trans g11_93
  have g12_94 : a12.eval (.tmp 94) = undef := by rw [← e12]; exact (put_ne (by decide)).trans g11_94
  have g12_95 : a12.eval (.tmp 95) = undef := by rw [← e12]; exact (put_ne (by decide)).trans g11_95
  have g12_96 : a12.eval (.tmp 96) = undef := by rw [← e12]; exact put_eq (by rw [z11]; decide)
  rw [e12]
  replace hQ : ∀ W', Below w.heap.size w W' → Q .normal ((((((a12.put (some 97) (undef)).put (some 98) (undef)).put (some 99) (undef)).put (some 100) (undef)).put (some 101) (undef)).put (some 102) (.bool false)) W' := by rw [← e12]; exact hQ
  clear e12 z11 g11_7 g11_8 g11_9 g11_11 g11_85 g11_86 g11_87 g11_88 g11_89 g11_90 g11_91 g11_92 g11_93 g11_94 g11_95
  refine wpAnyM_take (i := 12) (v := undef) rfl (by kernel_rfl) (by kernel_rfl) (by kernel_rfl) (by kernel_rfl) (hp _ _) (yieldsG_not ((wanted_at (ops := opsD) (b := true) rfl rfl g12_92).trans rfl)) hS ?_
  obtain ⟨a13, e13⟩ : ∃ x, a12.put opsD[12].dst (undef) = x := ⟨_, rfl⟩
  have z13 : a13.tmps.size = 116 := by rw [← e13]; exact put_size.trans z12
  have g13_7 : a13.eval (.tmp 7) = .pointer (some ⟨GB, 0, none⟩) := by rw [← e13]; exact (put_ne (by decide)).trans g12_7
  have g13_8 : a13.eval (.tmp 8) = .int .i64 c := by rw [← e13]; exact (put_ne (by decide)).trans g12_8
  have g13_9 : a13.eval (.tmp 9) = .int .i64 up := by rw [← e13]; exact (put_ne (by decide)).trans g12_9
  have g13_11 : a13.eval (.tmp 11) = .int .i64 k := by rw [← e13]; exact (put_ne (by decide)).trans g12_11
  have g13_85 : a13.eval (.tmp 85) = .int .i64 up := by rw [← e13]; exact (put_ne (by decide)).trans g12_85
  have g13_86 : a13.eval (.tmp 86) = .bool false := by rw [← e13]; exact (put_ne (by decide)).trans g12_86
  have g13_87 : a13.eval (.tmp 87) = .bool false := by rw [← e13]; exact (put_ne (by decide)).trans g12_87
  have g13_88 : a13.eval (.tmp 88) = undef := by rw [← e13]; exact (put_ne (by decide)).trans g12_88
  have g13_89 : a13.eval (.tmp 89) = undef := by rw [← e13]; exact (put_ne (by decide)).trans g12_89
  have g13_90 : a13.eval (.tmp 90) = undef := by rw [← e13]; exact (put_ne (by decide)).trans g12_90
  have g13_91 : a13.eval (.tmp 91) = .bool false := by rw [← e13]; exact (put_ne (by decide)).trans g12_91
  have g13_92 : a13.eval (.tmp 92) = .bool false := by rw [← e13]; exact (put_ne (by decide)).trans g12_92
  have g13_93 : a13.eval (.tmp 93) = undef := by rw [← e13]; exact (put_ne (by decide)).trans g12_93
  have g13_94 : a13.eval (.tmp 94) = undef := by rw [← e13]; exact (put_ne (by decide)).trans g12_94
  have g13_95 : a13.eval (.tmp 95) = undef := by rw [← e13]; exact (put_ne (by decide)).trans g12_95
  have g13_96 : a13.eval (.tmp 96) = undef := by rw [← e13]; exact (put_ne (by decide)).trans g12_96
  have g13_97 : a13.eval (.tmp 97) = undef := by rw [← e13]; exact put_eq (by rw [z12]; decide)
  rw [e13]
  replace hQ : ∀ W', Below w.heap.size w W' → Q .normal (((((a13.put (some 98) (undef)).put (some 99) (undef)).put (some 100) (undef)).put (some 101) (undef)).put (some 102) (.bool false)) W' := by rw [← e13]; exact hQ
  clear e13 z12 g12_7 g12_8 g12_9 g12_11 g12_85 g12_86 g12_87 g12_88 g12_89 g12_90 g12_91 g12_92 g12_93 g12_94 g12_95 g12_96
  refine wpAnyM_take (i := 13) (v := undef) rfl (by kernel_rfl) (by kernel_rfl) (by kernel_rfl) (by kernel_rfl) (hp _ _) (yieldsG_not ((wanted_at (ops := opsD) (b := true) rfl rfl g13_92).trans rfl)) hS ?_
  obtain ⟨a14, e14⟩ : ∃ x, a13.put opsD[13].dst (undef) = x := ⟨_, rfl⟩
  have z14 : a14.tmps.size = 116 := by rw [← e14]; exact put_size.trans z13
  have g14_7 : a14.eval (.tmp 7) = .pointer (some ⟨GB, 0, none⟩) := by rw [← e14]; exact (put_ne (by decide)).trans g13_7
  have g14_8 : a14.eval (.tmp 8) = .int .i64 c := by rw [← e14]; exact (put_ne (by decide)).trans g13_8
  have g14_9 : a14.eval (.tmp 9) = .int .i64 up := by rw [← e14]; exact (put_ne (by decide)).trans g13_9
  have g14_11 : a14.eval (.tmp 11) = .int .i64 k := by rw [← e14]; exact (put_ne (by decide)).trans g13_11
  have g14_85 : a14.eval (.tmp 85) = .int .i64 up := by rw [← e14]; exact (put_ne (by decide)).trans g13_85
  have g14_86 : a14.eval (.tmp 86) = .bool false := by rw [← e14]; exact (put_ne (by decide)).trans g13_86
  have g14_87 : a14.eval (.tmp 87) = .bool false := by rw [← e14]; exact (put_ne (by decide)).trans g13_87
  have g14_88 : a14.eval (.tmp 88) = undef := by rw [← e14]; exact (put_ne (by decide)).trans g13_88
  have g14_89 : a14.eval (.tmp 89) = undef := by rw [← e14]; exact (put_ne (by decide)).trans g13_89
  have g14_90 : a14.eval (.tmp 90) = undef := by rw [← e14]; exact (put_ne (by decide)).trans g13_90
  have g14_91 : a14.eval (.tmp 91) = .bool false := by rw [← e14]; exact (put_ne (by decide)).trans g13_91
  have g14_92 : a14.eval (.tmp 92) = .bool false := by rw [← e14]; exact (put_ne (by decide)).trans g13_92
  have g14_93 : a14.eval (.tmp 93) = undef := by rw [← e14]; exact (put_ne (by decide)).trans g13_93
  have g14_94 : a14.eval (.tmp 94) = undef := by rw [← e14]; exact (put_ne (by decide)).trans g13_94
  have g14_95 : a14.eval (.tmp 95) = undef := by rw [← e14]; exact (put_ne (by decide)).trans g13_95
  have g14_96 : a14.eval (.tmp 96) = undef := by rw [← e14]; exact (put_ne (by decide)).trans g13_96
  have g14_97 : a14.eval (.tmp 97) = undef := by rw [← e14]; exact (put_ne (by decide)).trans g13_97
  have g14_98 : a14.eval (.tmp 98) = undef := by rw [← e14]; exact put_eq (by rw [z13]; decide)
  rw [e14]
  replace hQ : ∀ W', Below w.heap.size w W' → Q .normal ((((a14.put (some 99) (undef)).put (some 100) (undef)).put (some 101) (undef)).put (some 102) (.bool false)) W' := by rw [← e14]; exact hQ
  clear e14 z13 g13_7 g13_8 g13_9 g13_11 g13_85 g13_86 g13_87 g13_88 g13_89 g13_90 g13_91 g13_92 g13_93 g13_94 g13_95 g13_96 g13_97
  refine wpAnyM_take (i := 14) (v := undef) rfl (by kernel_rfl) (by kernel_rfl) (by kernel_rfl) (by kernel_rfl) (hp _ _) (yieldsG_not ((wanted_at (ops := opsD) (b := true) rfl rfl g14_92).trans rfl)) hS ?_
  obtain ⟨a15, e15⟩ : ∃ x, a14.put opsD[14].dst (undef) = x := ⟨_, rfl⟩
  have z15 : a15.tmps.size = 116 := by rw [← e15]; exact put_size.trans z14
  have g15_7 : a15.eval (.tmp 7) = .pointer (some ⟨GB, 0, none⟩) := by rw [← e15]; exact (put_ne (by decide)).trans g14_7
  have g15_8 : a15.eval (.tmp 8) = .int .i64 c := by rw [← e15]; exact (put_ne (by decide)).trans g14_8
  have g15_9 : a15.eval (.tmp 9) = .int .i64 up := by rw [← e15]; exact (put_ne (by decide)).trans g14_9
  have g15_11 : a15.eval (.tmp 11) = .int .i64 k := by rw [← e15]; exact (put_ne (by decide)).trans g14_11
  have g15_85 : a15.eval (.tmp 85) = .int .i64 up := by rw [← e15]; exact (put_ne (by decide)).trans g14_85
  have g15_86 : a15.eval (.tmp 86) = .bool false := by rw [← e15]; exact (put_ne (by decide)).trans g14_86
  have g15_87 : a15.eval (.tmp 87) = .bool false := by rw [← e15]; exact (put_ne (by decide)).trans g14_87
  have g15_88 : a15.eval (.tmp 88) = undef := by rw [← e15]; exact (put_ne (by decide)).trans g14_88
  have g15_89 : a15.eval (.tmp 89) = undef := by rw [← e15]; exact (put_ne (by decide)).trans g14_89
  have g15_90 : a15.eval (.tmp 90) = undef := by rw [← e15]; exact (put_ne (by decide)).trans g14_90
  have g15_91 : a15.eval (.tmp 91) = .bool false := by rw [← e15]; exact (put_ne (by decide)).trans g14_91
  have g15_92 : a15.eval (.tmp 92) = .bool false := by rw [← e15]; exact (put_ne (by decide)).trans g14_92
  have g15_93 : a15.eval (.tmp 93) = undef := by rw [← e15]; exact (put_ne (by decide)).trans g14_93
  have g15_94 : a15.eval (.tmp 94) = undef := by rw [← e15]; exact (put_ne (by decide)).trans g14_94
  have g15_95 : a15.eval (.tmp 95) = undef := by rw [← e15]; exact (put_ne (by decide)).trans g14_95
  have g15_96 : a15.eval (.tmp 96) = undef := by rw [← e15]; exact (put_ne (by decide)).trans g14_96
  have g15_97 : a15.eval (.tmp 97) = undef := by rw [← e15]; exact (put_ne (by decide)).trans g14_97
  have g15_98 : a15.eval (.tmp 98) = undef := by rw [← e15]; exact (put_ne (by decide)).trans g14_98
  have g15_99 : a15.eval (.tmp 99) = undef := by rw [← e15]; exact put_eq (by rw [z14]; decide)
  rw [e15]
  replace hQ : ∀ W', Below w.heap.size w W' → Q .normal (((a15.put (some 100) (undef)).put (some 101) (undef)).put (some 102) (.bool false)) W' := by rw [← e15]; exact hQ
  clear e15 z14 g14_7 g14_8 g14_9 g14_11 g14_85 g14_86 g14_87 g14_88 g14_89 g14_90 g14_91 g14_92 g14_93 g14_94 g14_95 g14_96 g14_97 g14_98
  refine wpAnyM_take (i := 15) (v := undef) rfl (by kernel_rfl) (by kernel_rfl) (by kernel_rfl) (by kernel_rfl) (hp _ _) (yieldsG_not ((wanted_at (ops := opsD) (b := true) rfl rfl g15_92).trans rfl)) hS ?_
  obtain ⟨a16, e16⟩ : ∃ x, a15.put opsD[15].dst (undef) = x := ⟨_, rfl⟩
  have z16 : a16.tmps.size = 116 := by rw [← e16]; exact put_size.trans z15
  have g16_7 : a16.eval (.tmp 7) = .pointer (some ⟨GB, 0, none⟩) := by rw [← e16]; exact (put_ne (by decide)).trans g15_7
  have g16_8 : a16.eval (.tmp 8) = .int .i64 c := by rw [← e16]; exact (put_ne (by decide)).trans g15_8
  have g16_9 : a16.eval (.tmp 9) = .int .i64 up := by rw [← e16]; exact (put_ne (by decide)).trans g15_9
  have g16_11 : a16.eval (.tmp 11) = .int .i64 k := by rw [← e16]; exact (put_ne (by decide)).trans g15_11
  have g16_85 : a16.eval (.tmp 85) = .int .i64 up := by rw [← e16]; exact (put_ne (by decide)).trans g15_85
  have g16_86 : a16.eval (.tmp 86) = .bool false := by rw [← e16]; exact (put_ne (by decide)).trans g15_86
  have g16_87 : a16.eval (.tmp 87) = .bool false := by rw [← e16]; exact (put_ne (by decide)).trans g15_87
  have g16_88 : a16.eval (.tmp 88) = undef := by rw [← e16]; exact (put_ne (by decide)).trans g15_88
  have g16_89 : a16.eval (.tmp 89) = undef := by rw [← e16]; exact (put_ne (by decide)).trans g15_89
  have g16_90 : a16.eval (.tmp 90) = undef := by rw [← e16]; exact (put_ne (by decide)).trans g15_90
  have g16_91 : a16.eval (.tmp 91) = .bool false := by rw [← e16]; exact (put_ne (by decide)).trans g15_91
  have g16_92 : a16.eval (.tmp 92) = .bool false := by rw [← e16]; exact (put_ne (by decide)).trans g15_92
  have g16_93 : a16.eval (.tmp 93) = undef := by rw [← e16]; exact (put_ne (by decide)).trans g15_93
  have g16_94 : a16.eval (.tmp 94) = undef := by rw [← e16]; exact (put_ne (by decide)).trans g15_94
  have g16_95 : a16.eval (.tmp 95) = undef := by rw [← e16]; exact (put_ne (by decide)).trans g15_95
  have g16_96 : a16.eval (.tmp 96) = undef := by rw [← e16]; exact (put_ne (by decide)).trans g15_96
  have g16_97 : a16.eval (.tmp 97) = undef := by rw [← e16]; exact (put_ne (by decide)).trans g15_97
  have g16_98 : a16.eval (.tmp 98) = undef := by rw [← e16]; exact (put_ne (by decide)).trans g15_98
  have g16_99 : a16.eval (.tmp 99) = undef := by rw [← e16]; exact (put_ne (by decide)).trans g15_99
  have g16_100 : a16.eval (.tmp 100) = undef := by rw [← e16]; exact put_eq (by rw [z15]; decide)
  rw [e16]
  replace hQ : ∀ W', Below w.heap.size w W' → Q .normal ((a16.put (some 101) (undef)).put (some 102) (.bool false)) W' := by rw [← e16]; exact hQ
  clear e16 z15 g15_7 g15_8 g15_9 g15_11 g15_85 g15_86 g15_87 g15_88 g15_89 g15_90 g15_91 g15_92 g15_93 g15_94 g15_95 g15_96 g15_97 g15_98 g15_99
  refine wpAnyM_take (i := 16) (v := undef) rfl (by kernel_rfl) (by kernel_rfl) (by kernel_rfl) (by kernel_rfl) (hp _ _) (yieldsG_not ((wanted_at (ops := opsD) (b := true) rfl rfl g16_92).trans rfl)) hS ?_
  obtain ⟨a17, e17⟩ : ∃ x, a16.put opsD[16].dst (undef) = x := ⟨_, rfl⟩
  have z17 : a17.tmps.size = 116 := by rw [← e17]; exact put_size.trans z16
  have g17_7 : a17.eval (.tmp 7) = .pointer (some ⟨GB, 0, none⟩) := by rw [← e17]; exact (put_ne (by decide)).trans g16_7
  have g17_8 : a17.eval (.tmp 8) = .int .i64 c := by rw [← e17]; exact (put_ne (by decide)).trans g16_8
  have g17_9 : a17.eval (.tmp 9) = .int .i64 up := by rw [← e17]; exact (put_ne (by decide)).trans g16_9
  have g17_11 : a17.eval (.tmp 11) = .int .i64 k := by rw [← e17]; exact (put_ne (by decide)).trans g16_11
  have g17_85 : a17.eval (.tmp 85) = .int .i64 up := by rw [← e17]; exact (put_ne (by decide)).trans g16_85
  have g17_86 : a17.eval (.tmp 86) = .bool false := by rw [← e17]; exact (put_ne (by decide)).trans g16_86
  have g17_87 : a17.eval (.tmp 87) = .bool false := by rw [← e17]; exact (put_ne (by decide)).trans g16_87
  have g17_88 : a17.eval (.tmp 88) = undef := by rw [← e17]; exact (put_ne (by decide)).trans g16_88
  have g17_89 : a17.eval (.tmp 89) = undef := by rw [← e17]; exact (put_ne (by decide)).trans g16_89
  have g17_90 : a17.eval (.tmp 90) = undef := by rw [← e17]; exact (put_ne (by decide)).trans g16_90
  have g17_91 : a17.eval (.tmp 91) = .bool false := by rw [← e17]; exact (put_ne (by decide)).trans g16_91
  have g17_92 : a17.eval (.tmp 92) = .bool false := by rw [← e17]; exact (put_ne (by decide)).trans g16_92
  have g17_93 : a17.eval (.tmp 93) = undef := by rw [← e17]; exact (put_ne (by decide)).trans g16_93
  have g17_94 : a17.eval (.tmp 94) = undef := by rw [← e17]; exact (put_ne (by decide)).trans g16_94
  have g17_95 : a17.eval (.tmp 95) = undef := by rw [← e17]; exact (put_ne (by decide)).trans g16_95
  have g17_96 : a17.eval (.tmp 96) = undef := by rw [← e17]; exact (put_ne (by decide)).trans g16_96
  have g17_97 : a17.eval (.tmp 97) = undef := by rw [← e17]; exact (put_ne (by decide)).trans g16_97
  have g17_98 : a17.eval (.tmp 98) = undef := by rw [← e17]; exact (put_ne (by decide)).trans g16_98
  have g17_99 : a17.eval (.tmp 99) = undef := by rw [← e17]; exact (put_ne (by decide)).trans g16_99
  have g17_100 : a17.eval (.tmp 100) = undef := by rw [← e17]; exact (put_ne (by decide)).trans g16_100
  have g17_101 : a17.eval (.tmp 101) = undef := by rw [← e17]; exact put_eq (by rw [z16]; decide)
  rw [e17]
  replace hQ : ∀ W', Below w.heap.size w W' → Q .normal (a17.put (some 102) (.bool false)) W' := by rw [← e17]; exact hQ
  clear e17 z16 g16_7 g16_8 g16_9 g16_11 g16_85 g16_86 g16_87 g16_88 g16_89 g16_90 g16_91 g16_92 g16_93 g16_94 g16_95 g16_96 g16_97 g16_98 g16_99 g16_100
  refine wpAnyM_take (i := 17) (v := .bool false) rfl (by kernel_rfl) (by kernel_rfl) (by kernel_rfl) (by kernel_rfl) (hp _ _) (yieldsG_pick rfl rfl g17_92 rfl) hS ?_
  obtain ⟨a18, e18⟩ : ∃ x, a17.put opsD[17].dst (.bool false) = x := ⟨_, rfl⟩
  have z18 : a18.tmps.size = 116 := by rw [← e18]; exact put_size.trans z17
  have g18_7 : a18.eval (.tmp 7) = .pointer (some ⟨GB, 0, none⟩) := by rw [← e18]; exact (put_ne (by decide)).trans g17_7
  have g18_8 : a18.eval (.tmp 8) = .int .i64 c := by rw [← e18]; exact (put_ne (by decide)).trans g17_8
  have g18_9 : a18.eval (.tmp 9) = .int .i64 up := by rw [← e18]; exact (put_ne (by decide)).trans g17_9
  have g18_11 : a18.eval (.tmp 11) = .int .i64 k := by rw [← e18]; exact (put_ne (by decide)).trans g17_11
  have g18_85 : a18.eval (.tmp 85) = .int .i64 up := by rw [← e18]; exact (put_ne (by decide)).trans g17_85
  have g18_86 : a18.eval (.tmp 86) = .bool false := by rw [← e18]; exact (put_ne (by decide)).trans g17_86
  have g18_87 : a18.eval (.tmp 87) = .bool false := by rw [← e18]; exact (put_ne (by decide)).trans g17_87
  have g18_88 : a18.eval (.tmp 88) = undef := by rw [← e18]; exact (put_ne (by decide)).trans g17_88
  have g18_89 : a18.eval (.tmp 89) = undef := by rw [← e18]; exact (put_ne (by decide)).trans g17_89
  have g18_90 : a18.eval (.tmp 90) = undef := by rw [← e18]; exact (put_ne (by decide)).trans g17_90
  have g18_91 : a18.eval (.tmp 91) = .bool false := by rw [← e18]; exact (put_ne (by decide)).trans g17_91
  have g18_92 : a18.eval (.tmp 92) = .bool false := by rw [← e18]; exact (put_ne (by decide)).trans g17_92
  have g18_93 : a18.eval (.tmp 93) = undef := by rw [← e18]; exact (put_ne (by decide)).trans g17_93
  have g18_94 : a18.eval (.tmp 94) = undef := by rw [← e18]; exact (put_ne (by decide)).trans g17_94
  have g18_95 : a18.eval (.tmp 95) = undef := by rw [← e18]; exact (put_ne (by decide)).trans g17_95
  have g18_96 : a18.eval (.tmp 96) = undef := by rw [← e18]; exact (put_ne (by decide)).trans g17_96
  have g18_97 : a18.eval (.tmp 97) = undef := by rw [← e18]; exact (put_ne (by decide)).trans g17_97
  have g18_98 : a18.eval (.tmp 98) = undef := by rw [← e18]; exact (put_ne (by decide)).trans g17_98
  have g18_99 : a18.eval (.tmp 99) = undef := by rw [← e18]; exact (put_ne (by decide)).trans g17_99
  have g18_100 : a18.eval (.tmp 100) = undef := by rw [← e18]; exact (put_ne (by decide)).trans g17_100
  have g18_101 : a18.eval (.tmp 101) = undef := by rw [← e18]; exact (put_ne (by decide)).trans g17_101
  have g18_102 : a18.eval (.tmp 102) = .bool false := by rw [← e18]; exact put_eq (by rw [z17]; decide)
  rw [e18]
  replace hQ : ∀ W', Below w.heap.size w W' → Q .normal a18 W' := by rw [← e18]; exact hQ
  clear e18 z17 g17_7 g17_8 g17_9 g17_11 g17_85 g17_86 g17_87 g17_88 g17_89 g17_90 g17_91 g17_92 g17_93 g17_94 g17_95 g17_96 g17_97 g17_98 g17_99 g17_100 g17_101
  exact wpAnyM_done (by kernel_rfl) (hQ w (Below.refl _ _)) _
set_option maxRecDepth 100000 in
set_option maxHeartbeats 4000000 in
theorem domRegE (GB m gcap : Nat) (ga : Option Addr) (vals2 : Int) (G : FnD) (up c k : Int) (hup : 0 ≤ up) (hkc : k = c) (a : Act) (hsz : a.tmps.size = 116) (h7 : a.eval (.tmp 7) = .pointer (some ⟨GB, 0, none⟩)) (h8 : a.eval (.tmp 8) = .int .i64 c) (h9 : a.eval (.tmp 9) = .int .i64 up) (h11 : a.eval (.tmp 11) = .int .i64 k) (w : World) (hG : FnAt w (.agg #[.slice ga m gcap, .int .i64 vals2]) G)
    (hS : w.cell? ⟨GB, 0, none⟩ = some (.slice ga m gcap) ∧ w.cell? ⟨GB, 1, none⟩ = some (.int .i64 vals2)) (Q : Exit → Act → World → Prop) (hQp : ∀ c a w, ¬ Q (.panic c) a w)
    (hQ : ∀ W', Below w.heap.size w W' → Q .normal ((((((((((((((((((a.put (some 85) (.int .i64 up)).put (some 86) (.bool true)).put (some 87) (.bool true)).put (some 88) (.int .i64 k)).put (some 89) (.int .i64 c)).put (some 90) (.bool false)).put (some 91) (.bool false)).put (some 92) (.bool false)).put (some 93) (undef)).put (some 94) (undef)).put (some 95) (undef)).put (some 96) (undef)).put (some 97) (undef)).put (some 98) (undef)).put (some 99) (undef)).put (some 100) (undef)).put (some 101) (undef)).put (some 102) (.bool false)) W') :
    wpAnyM Try.prog .any opsD Q 100 (fun W => W.cell? ⟨GB, 0, none⟩ = some (.slice ga m gcap) ∧ W.cell? ⟨GB, 1, none⟩ = some (.int .i64 vals2)) 18 (Array.replicate 18 false) a w := by
  have hp : ∀ (o : Option Tmp) (v : Value) c a w, Q (.panic c) (a.put o v) w → Q (.panic c) a w := fun o v c a w h => absurd h (hQp _ _ _)
  refine wpAnyM_take (i := 0) (v := .int .i64 up) rfl (by kernel_rfl) (by kernel_rfl) (by kernel_rfl) (by kernel_rfl) (hp _ _) (yields_move rfl rfl h9) hS ?_
  obtain ⟨a1, e1⟩ : ∃ x, a.put opsD[0].dst (.int .i64 up) = x := ⟨_, rfl⟩
  have z1 : a1.tmps.size = 116 := by rw [← e1]; exact put_size.trans hsz
  have g1_7 : a1.eval (.tmp 7) = .pointer (some ⟨GB, 0, none⟩) := by rw [← e1]; exact (put_ne (by decide)).trans h7
  have g1_8 : a1.eval (.tmp 8) = .int .i64 c := by rw [← e1]; exact (put_ne (by decide)).trans h8
  have g1_9 : a1.eval (.tmp 9) = .int .i64 up := by rw [← e1]; exact (put_ne (by decide)).trans h9
  have g1_11 : a1.eval (.tmp 11) = .int .i64 k := by rw [← e1]; exact (put_ne (by decide)).trans h11
  have g1_85 : a1.eval (.tmp 85) = .int .i64 up := by rw [← e1]; exact put_eq (by rw [hsz]; decide)
  rw [e1]
  replace hQ : ∀ W', Below w.heap.size w W' → Q .normal (((((((((((((((((a1.put (some 86) (.bool true)).put (some 87) (.bool true)).put (some 88) (.int .i64 k)).put (some 89) (.int .i64 c)).put (some 90) (.bool false)).put (some 91) (.bool false)).put (some 92) (.bool false)).put (some 93) (undef)).put (some 94) (undef)).put (some 95) (undef)).put (some 96) (undef)).put (some 97) (undef)).put (some 98) (undef)).put (some 99) (undef)).put (some 100) (undef)).put (some 101) (undef)).put (some 102) (.bool false)) W' := by rw [← e1]; exact hQ
  clear e1 hsz h7 h8 h9 h11
  refine wpAnyM_take (i := 1) (v := .bool true) rfl (by kernel_rfl) (by kernel_rfl) (by kernel_rfl) (by kernel_rfl) (hp _ _) (yieldsG_bin rfl rfl g1_85 rfl (fun W => rfl) (fun W => run_geq0 up true (by simp; omega) W)) hS ?_
  obtain ⟨a2, e2⟩ : ∃ x, a1.put opsD[1].dst (.bool true) = x := ⟨_, rfl⟩
  have z2 : a2.tmps.size = 116 := by rw [← e2]; exact put_size.trans z1
  have g2_7 : a2.eval (.tmp 7) = .pointer (some ⟨GB, 0, none⟩) := by rw [← e2]; exact (put_ne (by decide)).trans g1_7
  have g2_8 : a2.eval (.tmp 8) = .int .i64 c := by rw [← e2]; exact (put_ne (by decide)).trans g1_8
  have g2_9 : a2.eval (.tmp 9) = .int .i64 up := by rw [← e2]; exact (put_ne (by decide)).trans g1_9
  have g2_11 : a2.eval (.tmp 11) = .int .i64 k := by rw [← e2]; exact (put_ne (by decide)).trans g1_11
  have g2_85 : a2.eval (.tmp 85) = .int .i64 up := by rw [← e2]; exact (put_ne (by decide)).trans g1_85
  have g2_86 : a2.eval (.tmp 86) = .bool true := by rw [← e2]; exact put_eq (by rw [z1]; decide)
  rw [e2]
  replace hQ : ∀ W', Below w.heap.size w W' → Q .normal ((((((((((((((((a2.put (some 87) (.bool true)).put (some 88) (.int .i64 k)).put (some 89) (.int .i64 c)).put (some 90) (.bool false)).put (some 91) (.bool false)).put (some 92) (.bool false)).put (some 93) (undef)).put (some 94) (undef)).put (some 95) (undef)).put (some 96) (undef)).put (some 97) (undef)).put (some 98) (undef)).put (some 99) (undef)).put (some 100) (undef)).put (some 101) (undef)).put (some 102) (.bool false)) W' := by rw [← e2]; exact hQ
  clear e2 z1 g1_7 g1_8 g1_9 g1_11 g1_85
  refine wpAnyM_take (i := 2) (v := .bool true) rfl (by kernel_rfl) (by kernel_rfl) (by kernel_rfl) (by kernel_rfl) (hp _ _) (yields_move rfl rfl g2_86) hS ?_
  obtain ⟨a3, e3⟩ : ∃ x, a2.put opsD[2].dst (.bool true) = x := ⟨_, rfl⟩
  have z3 : a3.tmps.size = 116 := by rw [← e3]; exact put_size.trans z2
  have g3_7 : a3.eval (.tmp 7) = .pointer (some ⟨GB, 0, none⟩) := by rw [← e3]; exact (put_ne (by decide)).trans g2_7
  have g3_8 : a3.eval (.tmp 8) = .int .i64 c := by rw [← e3]; exact (put_ne (by decide)).trans g2_8
  have g3_9 : a3.eval (.tmp 9) = .int .i64 up := by rw [← e3]; exact (put_ne (by decide)).trans g2_9
  have g3_11 : a3.eval (.tmp 11) = .int .i64 k := by rw [← e3]; exact (put_ne (by decide)).trans g2_11
  have g3_85 : a3.eval (.tmp 85) = .int .i64 up := by rw [← e3]; exact (put_ne (by decide)).trans g2_85
  have g3_86 : a3.eval (.tmp 86) = .bool true := by rw [← e3]; exact (put_ne (by decide)).trans g2_86
  have g3_87 : a3.eval (.tmp 87) = .bool true := by rw [← e3]; exact put_eq (by rw [z2]; decide)
  rw [e3]
  replace hQ : ∀ W', Below w.heap.size w W' → Q .normal (((((((((((((((a3.put (some 88) (.int .i64 k)).put (some 89) (.int .i64 c)).put (some 90) (.bool false)).put (some 91) (.bool false)).put (some 92) (.bool false)).put (some 93) (undef)).put (some 94) (undef)).put (some 95) (undef)).put (some 96) (undef)).put (some 97) (undef)).put (some 98) (undef)).put (some 99) (undef)).put (some 100) (undef)).put (some 101) (undef)).put (some 102) (.bool false)) W' := by rw [← e3]; exact hQ
  clear e3 z2 g2_7 g2_8 g2_9 g2_11 g2_85 g2_86
  refine wpAnyM_take (i := 3) (v := .int .i64 k) rfl (by kernel_rfl) (by kernel_rfl) (by kernel_rfl) (by kernel_rfl) (hp _ _) (yieldsG_move ((wanted_at (ops := opsD) (b := true) rfl rfl g3_87).trans rfl) rfl g3_11) hS ?_
  obtain ⟨a4, e4⟩ : ∃ x, a3.put opsD[3].dst (.int .i64 k) = x := ⟨_, rfl⟩
  have z4 : a4.tmps.size = 116 := by rw [← e4]; exact put_size.trans z3
  have g4_7 : a4.eval (.tmp 7) = .pointer (some ⟨GB, 0, none⟩) := by rw [← e4]; exact (put_ne (by decide)).trans g3_7
  have g4_8 : a4.eval (.tmp 8) = .int .i64 c := by rw [← e4]; exact (put_ne (by decide)).trans g3_8
  have g4_9 : a4.eval (.tmp 9) = .int .i64 up := by rw [← e4]; exact (put_ne (by decide)).trans g3_9
  have g4_11 : a4.eval (.tmp 11) = .int .i64 k := by rw [← e4]; exact (put_ne (by decide)).trans g3_11
  have g4_85 : a4.eval (.tmp 85) = .int .i64 up := by rw [← e4]; exact (put_ne (by decide)).trans g3_85
  have g4_86 : a4.eval (.tmp 86) = .bool true := by rw [← e4]; exact (put_ne (by decide)).trans g3_86
  have g4_87 : a4.eval (.tmp 87) = .bool true := by rw [← e4]; exact (put_ne (by decide)).trans g3_87
  have g4_88 : a4.eval (.tmp 88) = .int .i64 k := by rw [← e4]; exact put_eq (by rw [z3]; decide)
  rw [e4]
  replace hQ : ∀ W', Below w.heap.size w W' → Q .normal ((((((((((((((a4.put (some 89) (.int .i64 c)).put (some 90) (.bool false)).put (some 91) (.bool false)).put (some 92) (.bool false)).put (some 93) (undef)).put (some 94) (undef)).put (some 95) (undef)).put (some 96) (undef)).put (some 97) (undef)).put (some 98) (undef)).put (some 99) (undef)).put (some 100) (undef)).put (some 101) (undef)).put (some 102) (.bool false)) W' := by rw [← e4]; exact hQ
  clear e4 z3 g3_7 g3_8 g3_9 g3_11 g3_85 g3_86 g3_87
  refine wpAnyM_take (i := 4) (v := .int .i64 c) rfl (by kernel_rfl) (by kernel_rfl) (by kernel_rfl) (by kernel_rfl) (hp _ _) (yieldsG_move ((wanted_at (ops := opsD) (b := true) rfl rfl g4_87).trans rfl) rfl g4_8) hS ?_
  obtain ⟨a5, e5⟩ : ∃ x, a4.put opsD[4].dst (.int .i64 c) = x := ⟨_, rfl⟩
  have z5 : a5.tmps.size = 116 := by rw [← e5]; exact put_size.trans z4
  have g5_7 : a5.eval (.tmp 7) = .pointer (some ⟨GB, 0, none⟩) := by rw [← e5]; exact (put_ne (by decide)).trans g4_7
  have g5_8 : a5.eval (.tmp 8) = .int .i64 c := by rw [← e5]; exact (put_ne (by decide)).trans g4_8
  have g5_9 : a5.eval (.tmp 9) = .int .i64 up := by rw [← e5]; exact (put_ne (by decide)).trans g4_9
  have g5_11 : a5.eval (.tmp 11) = .int .i64 k := by rw [← e5]; exact (put_ne (by decide)).trans g4_11
  have g5_85 : a5.eval (.tmp 85) = .int .i64 up := by rw [← e5]; exact (put_ne (by decide)).trans g4_85
  have g5_86 : a5.eval (.tmp 86) = .bool true := by rw [← e5]; exact (put_ne (by decide)).trans g4_86
  have g5_87 : a5.eval (.tmp 87) = .bool true := by rw [← e5]; exact (put_ne (by decide)).trans g4_87
  have g5_88 : a5.eval (.tmp 88) = .int .i64 k := by rw [← e5]; exact (put_ne (by decide)).trans g4_88
  have g5_89 : a5.eval (.tmp 89) = .int .i64 c := by rw [← e5]; exact put_eq (by rw [z4]; decide)
  rw [e5]
  replace hQ : ∀ W', Below w.heap.size w W' → Q .normal (((((((((((((a5.put (some 90) (.bool false)).put (some 91) (.bool false)).put (some 92) (.bool false)).put (some 93) (undef)).put (some 94) (undef)).put (some 95) (undef)).put (some 96) (undef)).put (some 97) (undef)).put (some 98) (undef)).put (some 99) (undef)).put (some 100) (undef)).put (some 101) (undef)).put (some 102) (.bool false)) W' := by rw [← e5]; exact hQ
  clear e5 z4 g4_7 g4_8 g4_9 g4_11 g4_85 g4_86 g4_87 g4_88
  refine wpAnyM_take (i := 5) (v := .bool false) rfl (by kernel_rfl) (by kernel_rfl) (by kernel_rfl) (by kernel_rfl) (hp _ _) (yieldsG_bin ((wanted_at (ops := opsD) (b := true) rfl rfl g5_87).trans rfl) rfl g5_88 g5_89 (fun W => rfl) (fun W => run_neqI k c false (by simp [hkc]) W)) hS ?_
  obtain ⟨a6, e6⟩ : ∃ x, a5.put opsD[5].dst (.bool false) = x := ⟨_, rfl⟩
  have z6 : a6.tmps.size = 116 := by rw [← e6]; exact put_size.trans z5
  have g6_7 : a6.eval (.tmp 7) = .pointer (some ⟨GB, 0, none⟩) := by rw [← e6]; exact (put_ne (by decide)).trans g5_7
  have g6_8 : a6.eval (.tmp 8) = .int .i64 c := by rw [← e6]; exact (put_ne (by decide)).trans g5_8
  have g6_9 : a6.eval (.tmp 9) = .int .i64 up := by rw [← e6]; exact (put_ne (by decide)).trans g5_9
  have g6_11 : a6.eval (.tmp 11) = .int .i64 k := by rw [← e6]; exact (put_ne (by decide)).trans g5_11
  have g6_85 : a6.eval (.tmp 85) = .int .i64 up := by rw [← e6]; exact (put_ne (by decide)).trans g5_85
  have g6_86 : a6.eval (.tmp 86) = .bool true := by rw [← e6]; exact (put_ne (by decide)).trans g5_86
  have g6_87 : a6.eval (.tmp 87) = .bool true := by rw [← e6]; exact (put_ne (by decide)).trans g5_87
  have g6_88 : a6.eval (.tmp 88) = .int .i64 k := by rw [← e6]; exact (put_ne (by decide)).trans g5_88
  have g6_89 : a6.eval (.tmp 89) = .int .i64 c := by rw [← e6]; exact (put_ne (by decide)).trans g5_89
  have g6_90 : a6.eval (.tmp 90) = .bool false := by rw [← e6]; exact put_eq (by rw [z5]; decide)
  rw [e6]
  replace hQ : ∀ W', Below w.heap.size w W' → Q .normal ((((((((((((a6.put (some 91) (.bool false)).put (some 92) (.bool false)).put (some 93) (undef)).put (some 94) (undef)).put (some 95) (undef)).put (some 96) (undef)).put (some 97) (undef)).put (some 98) (undef)).put (some 99) (undef)).put (some 100) (undef)).put (some 101) (undef)).put (some 102) (.bool false)) W' := by rw [← e6]; exact hQ
  clear e6 z5 g5_7 g5_8 g5_9 g5_11 g5_85 g5_86 g5_87 g5_88 g5_89
  refine wpAnyM_take (i := 6) (v := .bool false) rfl (by kernel_rfl) (by kernel_rfl) (by kernel_rfl) (by kernel_rfl) (hp _ _) (yieldsG_pick rfl rfl g6_87 g6_90) hS ?_
  obtain ⟨a7, e7⟩ : ∃ x, a6.put opsD[6].dst (.bool false) = x := ⟨_, rfl⟩
  have z7 : a7.tmps.size = 116 := by rw [← e7]; exact put_size.trans z6
  have g7_7 : a7.eval (.tmp 7) = .pointer (some ⟨GB, 0, none⟩) := by rw [← e7]; exact (put_ne (by decide)).trans g6_7
  have g7_8 : a7.eval (.tmp 8) = .int .i64 c := by rw [← e7]; exact (put_ne (by decide)).trans g6_8
  have g7_9 : a7.eval (.tmp 9) = .int .i64 up := by rw [← e7]; exact (put_ne (by decide)).trans g6_9
  have g7_11 : a7.eval (.tmp 11) = .int .i64 k := by rw [← e7]; exact (put_ne (by decide)).trans g6_11
  have g7_85 : a7.eval (.tmp 85) = .int .i64 up := by rw [← e7]; exact (put_ne (by decide)).trans g6_85
  have g7_86 : a7.eval (.tmp 86) = .bool true := by rw [← e7]; exact (put_ne (by decide)).trans g6_86
  have g7_87 : a7.eval (.tmp 87) = .bool true := by rw [← e7]; exact (put_ne (by decide)).trans g6_87
  have g7_88 : a7.eval (.tmp 88) = .int .i64 k := by rw [← e7]; exact (put_ne (by decide)).trans g6_88
  have g7_89 : a7.eval (.tmp 89) = .int .i64 c := by rw [← e7]; exact (put_ne (by decide)).trans g6_89
  have g7_90 : a7.eval (.tmp 90) = .bool false := by rw [← e7]; exact (put_ne (by decide)).trans g6_90
  have g7_91 : a7.eval (.tmp 91) = .bool false := by rw [← e7]; exact put_eq (by rw [z6]; decide)
  rw [e7]
  replace hQ : ∀ W', Below w.heap.size w W' → Q .normal (((((((((((a7.put (some 92) (.bool false)).put (some 93) (undef)).put (some 94) (undef)).put (some 95) (undef)).put (some 96) (undef)).put (some 97) (undef)).put (some 98) (undef)).put (some 99) (undef)).put (some 100) (undef)).put (some 101) (undef)).put (some 102) (.bool false)) W' := by rw [← e7]; exact hQ
  clear e7 z6 g6_7 g6_8 g6_9 g6_11 g6_85 g6_86 g6_87 g6_88 g6_89 g6_90
  refine wpAnyM_take (i := 7) (v := .bool false) rfl (by kernel_rfl) (by kernel_rfl) (by kernel_rfl) (by kernel_rfl) (hp _ _) (yields_move rfl rfl g7_91) hS ?_
  obtain ⟨a8, e8⟩ : ∃ x, a7.put opsD[7].dst (.bool false) = x := ⟨_, rfl⟩
  have z8 : a8.tmps.size = 116 := by rw [← e8]; exact put_size.trans z7
  have g8_7 : a8.eval (.tmp 7) = .pointer (some ⟨GB, 0, none⟩) := by rw [← e8]; exact (put_ne (by decide)).trans g7_7
  have g8_8 : a8.eval (.tmp 8) = .int .i64 c := by rw [← e8]; exact (put_ne (by decide)).trans g7_8
  have g8_9 : a8.eval (.tmp 9) = .int .i64 up := by rw [← e8]; exact (put_ne (by decide)).trans g7_9
  have g8_11 : a8.eval (.tmp 11) = .int .i64 k := by rw [← e8]; exact (put_ne (by decide)).trans g7_11
  have g8_85 : a8.eval (.tmp 85) = .int .i64 up := by rw [← e8]; exact (put_ne (by decide)).trans g7_85
  have g8_86 : a8.eval (.tmp 86) = .bool true := by rw [← e8]; exact (put_ne (by decide)).trans g7_86
  have g8_87 : a8.eval (.tmp 87) = .bool true := by rw [← e8]; exact (put_ne (by decide)).trans g7_87
  have g8_88 : a8.eval (.tmp 88) = .int .i64 k := by rw [← e8]; exact (put_ne (by decide)).trans g7_88
  have g8_89 : a8.eval (.tmp 89) = .int .i64 c := by rw [← e8]; exact (put_ne (by decide)).trans g7_89
  have g8_90 : a8.eval (.tmp 90) = .bool false := by rw [← e8]; exact (put_ne (by decide)).trans g7_90
  have g8_91 : a8.eval (.tmp 91) = .bool false := by rw [← e8]; exact (put_ne (by decide)).trans g7_91
  have g8_92 : a8.eval (.tmp 92) = .bool false := by rw [← e8]; exact put_eq (by rw [z7]; decide)
  rw [e8]
  replace hQ : ∀ W', Below w.heap.size w W' → Q .normal ((((((((((a8.put (some 93) (undef)).put (some 94) (undef)).put (some 95) (undef)).put (some 96) (undef)).put (some 97) (undef)).put (some 98) (undef)).put (some 99) (undef)).put (some 100) (undef)).put (some 101) (undef)).put (some 102) (.bool false)) W' := by rw [← e8]; exact hQ
  clear e8 z7 g7_7 g7_8 g7_9 g7_11 g7_85 g7_86 g7_87 g7_88 g7_89 g7_90 g7_91
  refine wpAnyM_take (i := 8) (v := undef) rfl (by kernel_rfl) (by kernel_rfl) (by kernel_rfl) (by kernel_rfl) (hp _ _) (yieldsG_not ((wanted_at (ops := opsD) (b := true) rfl rfl g8_92).trans rfl)) hS ?_
  obtain ⟨a9, e9⟩ : ∃ x, a8.put opsD[8].dst (undef) = x := ⟨_, rfl⟩
  have z9 : a9.tmps.size = 116 := by rw [← e9]; exact put_size.trans z8
  have g9_7 : a9.eval (.tmp 7) = .pointer (some ⟨GB, 0, none⟩) := by rw [← e9]; exact (put_ne (by decide)).trans g8_7
  have g9_8 : a9.eval (.tmp 8) = .int .i64 c := by rw [← e9]; exact (put_ne (by decide)).trans g8_8
  have g9_9 : a9.eval (.tmp 9) = .int .i64 up := by rw [← e9]; exact (put_ne (by decide)).trans g8_9
  have g9_11 : a9.eval (.tmp 11) = .int .i64 k := by rw [← e9]; exact (put_ne (by decide)).trans g8_11
  have g9_85 : a9.eval (.tmp 85) = .int .i64 up := by rw [← e9]; exact (put_ne (by decide)).trans g8_85
  have g9_86 : a9.eval (.tmp 86) = .bool true := by rw [← e9]; exact (put_ne (by decide)).trans g8_86
  have g9_87 : a9.eval (.tmp 87) = .bool true := by rw [← e9]; exact (put_ne (by decide)).trans g8_87
  have g9_88 : a9.eval (.tmp 88) = .int .i64 k := by rw [← e9]; exact (put_ne (by decide)).trans g8_88
  have g9_89 : a9.eval (.tmp 89) = .int .i64 c := by rw [← e9]; exact (put_ne (by decide)).trans g8_89
  have g9_90 : a9.eval (.tmp 90) = .bool false := by rw [← e9]; exact (put_ne (by decide)).trans g8_90
  have g9_91 : a9.eval (.tmp 91) = .bool false := by rw [← e9]; exact (put_ne (by decide)).trans g8_91
  have g9_92 : a9.eval (.tmp 92) = .bool false := by rw [← e9]; exact (put_ne (by decide)).trans g8_92
  have g9_93 : a9.eval (.tmp 93) = undef := by rw [← e9]; exact put_eq (by rw [z8]; decide)
  rw [e9]
  replace hQ : ∀ W', Below w.heap.size w W' → Q .normal (((((((((a9.put (some 94) (undef)).put (some 95) (undef)).put (some 96) (undef)).put (some 97) (undef)).put (some 98) (undef)).put (some 99) (undef)).put (some 100) (undef)).put (some 101) (undef)).put (some 102) (.bool false)) W' := by rw [← e9]; exact hQ
  clear e9 z8 g8_7 g8_8 g8_9 g8_11 g8_85 g8_86 g8_87 g8_88 g8_89 g8_90 g8_91 g8_92
  refine wpAnyM_take (i := 9) (v := undef) rfl (by kernel_rfl) (by kernel_rfl) (by kernel_rfl) (by kernel_rfl) (hp _ _) (yieldsG_not ((wanted_at (ops := opsD) (b := true) rfl rfl g9_92).trans rfl)) hS ?_
  obtain ⟨a10, e10⟩ : ∃ x, a9.put opsD[9].dst (undef) = x := ⟨_, rfl⟩
  have z10 : a10.tmps.size = 116 := by rw [← e10]; exact put_size.trans z9
  have g10_7 : a10.eval (.tmp 7) = .pointer (some ⟨GB, 0, none⟩) := by rw [← e10]; exact (put_ne (by decide)).trans g9_7
  have g10_8 : a10.eval (.tmp 8) = .int .i64 c := by rw [← e10]; exact (put_ne (by decide)).trans g9_8
  have g10_9 : a10.eval (.tmp 9) = .int .i64 up := by rw [← e10]; exact (put_ne (by decide)).trans g9_9
  have g10_11 : a10.eval (.tmp 11) = .int .i64 k := by rw [← e10]; exact (put_ne (by decide)).trans g9_11
  have g10_85 : a10.eval (.tmp 85) = .int .i64 up := by rw [← e10]; exact (put_ne (by decide)).trans g9_85
  have g10_86 : a10.eval (.tmp 86) = .bool true := by rw [← e10]; exact (put_ne (by decide)).trans g9_86
  have g10_87 : a10.eval (.tmp 87) = .bool true := by rw [← e10]; exact (put_ne (by decide)).trans g9_87
  have g10_88 : a10.eval (.tmp 88) = .int .i64 k := by rw [← e10]; exact (put_ne (by decide)).trans g9_88
  have g10_89 : a10.eval (.tmp 89) = .int .i64 c := by rw [← e10]; exact (put_ne (by decide)).trans g9_89
  have g10_90 : a10.eval (.tmp 90) = .bool false := by rw [← e10]; exact (put_ne (by decide)).trans g9_90
  have g10_91 : a10.eval (.tmp 91) = .bool false := by rw [← e10]; exact (put_ne (by decide)).trans g9_91
  have g10_92 : a10.eval (.tmp 92) = .bool false := by rw [← e10]; exact (put_ne (by decide)).trans g9_92
  have g10_93 : a10.eval (.tmp 93) = undef := by rw [← e10]; exact (put_ne (by decide)).trans g9_93
  have g10_94 : a10.eval (.tmp 94) = undef := by rw [← e10]; exact put_eq (by rw [z9]; decide)
  rw [e10]
  replace hQ : ∀ W', Below w.heap.size w W' → Q .normal ((((((((a10.put (some 95) (undef)).put (some 96) (undef)).put (some 97) (undef)).put (some 98) (undef)).put (some 99) (undef)).put (some 100) (undef)).put (some 101) (undef)).put (some 102) (.bool false)) W' := by rw [← e10]; exact hQ
  clear e10 z9 g9_7 g9_8 g9_9 g9_11 g9_85 g9_86 g9_87 g9_88 g9_89 g9_90 g9_91 g9_92 g9_93
  refine wpAnyM_take (i := 10) (v := undef) rfl (by kernel_rfl) (by kernel_rfl) (by kernel_rfl) (by kernel_rfl) (hp _ _) (yieldsG_not ((wanted_at (ops := opsD) (b := true) rfl rfl g10_92).trans rfl)) hS ?_
  obtain ⟨a11, e11⟩ : ∃ x, a10.put opsD[10].dst (undef) = x := ⟨_, rfl⟩
  have z11 : a11.tmps.size = 116 := by rw [← e11]; exact put_size.trans z10
  have g11_7 : a11.eval (.tmp 7) = .pointer (some ⟨GB, 0, none⟩) := by rw [← e11]; exact (put_ne (by decide)).trans g10_7
  have g11_8 : a11.eval (.tmp 8) = .int .i64 c := by rw [← e11]; exact (put_ne (by decide)).trans g10_8
  have g11_9 : a11.eval (.tmp 9) = .int .i64 up := by rw [← e11]; exact (put_ne (by decide)).trans g10_9
  have g11_11 : a11.eval (.tmp 11) = .int .i64 k := by rw [← e11]; exact (put_ne (by decide)).trans g10_11
  have g11_85 : a11.eval (.tmp 85) = .int .i64 up := by rw [← e11]; exact (put_ne (by decide)).trans g10_85
  have g11_86 : a11.eval (.tmp 86) = .bool true := by rw [← e11]; exact (put_ne (by decide)).trans g10_86
  have g11_87 : a11.eval (.tmp 87) = .bool true := by rw [← e11]; exact (put_ne (by decide)).trans g10_87
  have g11_88 : a11.eval (.tmp 88) = .int .i64 k := by rw [← e11]; exact (put_ne (by decide)).trans g10_88
  have g11_89 : a11.eval (.tmp 89) = .int .i64 c := by rw [← e11]; exact (put_ne (by decide)).trans g10_89
  have g11_90 : a11.eval (.tmp 90) = .bool false := by rw [← e11]; exact (put_ne (by decide)).trans g10_90
  have g11_91 : a11.eval (.tmp 91) = .bool false := by rw [← e11]; exact (put_ne (by decide)).trans g10_91
  have g11_92 : a11.eval (.tmp 92) = .bool false := by rw [← e11]; exact (put_ne (by decide)).trans g10_92
  have g11_93 : a11.eval (.tmp 93) = undef := by rw [← e11]; exact (put_ne (by decide)).trans g10_93
  have g11_94 : a11.eval (.tmp 94) = undef := by rw [← e11]; exact (put_ne (by decide)).trans g10_94
  have g11_95 : a11.eval (.tmp 95) = undef := by rw [← e11]; exact put_eq (by rw [z10]; decide)
  rw [e11]
  replace hQ : ∀ W', Below w.heap.size w W' → Q .normal (((((((a11.put (some 96) (undef)).put (some 97) (undef)).put (some 98) (undef)).put (some 99) (undef)).put (some 100) (undef)).put (some 101) (undef)).put (some 102) (.bool false)) W' := by rw [← e11]; exact hQ
  clear e11 z10 g10_7 g10_8 g10_9 g10_11 g10_85 g10_86 g10_87 g10_88 g10_89 g10_90 g10_91 g10_92 g10_93 g10_94
  refine wpAnyM_take (i := 11) (v := undef) rfl (by kernel_rfl) (by kernel_rfl) (by kernel_rfl) (by kernel_rfl) (hp _ _) (yieldsG_not ((wanted_at (ops := opsD) (b := true) rfl rfl g11_92).trans rfl)) hS ?_
  obtain ⟨a12, e12⟩ : ∃ x, a11.put opsD[11].dst (undef) = x := ⟨_, rfl⟩
  have z12 : a12.tmps.size = 116 := by rw [← e12]; exact put_size.trans z11
  have g12_7 : a12.eval (.tmp 7) = .pointer (some ⟨GB, 0, none⟩) := by rw [← e12]; exact (put_ne (by decide)).trans g11_7
  have g12_8 : a12.eval (.tmp 8) = .int .i64 c := by rw [← e12]; exact (put_ne (by decide)).trans g11_8
  have g12_9 : a12.eval (.tmp 9) = .int .i64 up := by rw [← e12]; exact (put_ne (by decide)).trans g11_9
  have g12_11 : a12.eval (.tmp 11) = .int .i64 k := by rw [← e12]; exact (put_ne (by decide)).trans g11_11
  have g12_85 : a12.eval (.tmp 85) = .int .i64 up := by rw [← e12]; exact (put_ne (by decide)).trans g11_85
  have g12_86 : a12.eval (.tmp 86) = .bool true := by rw [← e12]; exact (put_ne (by decide)).trans g11_86
  have g12_87 : a12.eval (.tmp 87) = .bool true := by rw [← e12]; exact (put_ne (by decide)).trans g11_87
  have g12_88 : a12.eval (.tmp 88) = .int .i64 k := by rw [← e12]; exact (put_ne (by decide)).trans g11_88
  have g12_89 : a12.eval (.tmp 89) = .int .i64 c := by rw [← e12]; exact (put_ne (by decide)).trans g11_89
  have g12_90 : a12.eval (.tmp 90) = .bool false := by rw [← e12]; exact (put_ne (by decide)).trans g11_90
  have g12_91 : a12.eval (.tmp 91) = .bool false := by rw [← e12]; exact (put_ne (by decide)).trans g11_91
  have g12_92 : a12.eval (.tmp 92) = .bool false := by rw [← e12]; exact (put_ne (by decide)).trans g11_92
  have g12_93 : a12.eval (.tmp 93) = undef := by rw [← e12]; exact (put_ne (by decide)).trans g11_93
  have g12_94 : a12.eval (.tmp 94) = undef := by rw [← e12]; exact (put_ne (by decide)).trans g11_94
  have g12_95 : a12.eval (.tmp 95) = undef := by rw [← e12]; exact (put_ne (by decide)).trans g11_95
  have g12_96 : a12.eval (.tmp 96) = undef := by rw [← e12]; exact put_eq (by rw [z11]; decide)
  rw [e12]
  replace hQ : ∀ W', Below w.heap.size w W' → Q .normal ((((((a12.put (some 97) (undef)).put (some 98) (undef)).put (some 99) (undef)).put (some 100) (undef)).put (some 101) (undef)).put (some 102) (.bool false)) W' := by rw [← e12]; exact hQ
  clear e12 z11 g11_7 g11_8 g11_9 g11_11 g11_85 g11_86 g11_87 g11_88 g11_89 g11_90 g11_91 g11_92 g11_93 g11_94 g11_95
  refine wpAnyM_take (i := 12) (v := undef) rfl (by kernel_rfl) (by kernel_rfl) (by kernel_rfl) (by kernel_rfl) (hp _ _) (yieldsG_not ((wanted_at (ops := opsD) (b := true) rfl rfl g12_92).trans rfl)) hS ?_
  obtain ⟨a13, e13⟩ : ∃ x, a12.put opsD[12].dst (undef) = x := ⟨_, rfl⟩
  have z13 : a13.tmps.size = 116 := by rw [← e13]; exact put_size.trans z12
  have g13_7 : a13.eval (.tmp 7) = .pointer (some ⟨GB, 0, none⟩) := by rw [← e13]; exact (put_ne (by decide)).trans g12_7
  have g13_8 : a13.eval (.tmp 8) = .int .i64 c := by rw [← e13]; exact (put_ne (by decide)).trans g12_8
  have g13_9 : a13.eval (.tmp 9) = .int .i64 up := by rw [← e13]; exact (put_ne (by decide)).trans g12_9
  have g13_11 : a13.eval (.tmp 11) = .int .i64 k := by rw [← e13]; exact (put_ne (by decide)).trans g12_11
  have g13_85 : a13.eval (.tmp 85) = .int .i64 up := by rw [← e13]; exact (put_ne (by decide)).trans g12_85
  have g13_86 : a13.eval (.tmp 86) = .bool true := by rw [← e13]; exact (put_ne (by decide)).trans g12_86
  have g13_87 : a13.eval (.tmp 87) = .bool true := by rw [← e13]; exact (put_ne (by decide)).trans g12_87
  have g13_88 : a13.eval (.tmp 88) = .int .i64 k := by rw [← e13]; exact (put_ne (by decide)).trans g12_88
  have g13_89 : a13.eval (.tmp 89) = .int .i64 c := by rw [← e13]; exact (put_ne (by decide)).trans g12_89
  have g13_90 : a13.eval (.tmp 90) = .bool false := by rw [← e13]; exact (put_ne (by decide)).trans g12_90
  have g13_91 : a13.eval (.tmp 91) = .bool false := by rw [← e13]; exact (put_ne (by decide)).trans g12_91
  have g13_92 : a13.eval (.tmp 92) = .bool false := by rw [← e13]; exact (put_ne (by decide)).trans g12_92
  have g13_93 : a13.eval (.tmp 93) = undef := by rw [← e13]; exact (put_ne (by decide)).trans g12_93
  have g13_94 : a13.eval (.tmp 94) = undef := by rw [← e13]; exact (put_ne (by decide)).trans g12_94
  have g13_95 : a13.eval (.tmp 95) = undef := by rw [← e13]; exact (put_ne (by decide)).trans g12_95
  have g13_96 : a13.eval (.tmp 96) = undef := by rw [← e13]; exact (put_ne (by decide)).trans g12_96
  have g13_97 : a13.eval (.tmp 97) = undef := by rw [← e13]; exact put_eq (by rw [z12]; decide)
  rw [e13]
  replace hQ : ∀ W', Below w.heap.size w W' → Q .normal (((((a13.put (some 98) (undef)).put (some 99) (undef)).put (some 100) (undef)).put (some 101) (undef)).put (some 102) (.bool false)) W' := by rw [← e13]; exact hQ
  clear e13 z12 g12_7 g12_8 g12_9 g12_11 g12_85 g12_86 g12_87 g12_88 g12_89 g12_90 g12_91 g12_92 g12_93 g12_94 g12_95 g12_96
  refine wpAnyM_take (i := 13) (v := undef) rfl (by kernel_rfl) (by kernel_rfl) (by kernel_rfl) (by kernel_rfl) (hp _ _) (yieldsG_not ((wanted_at (ops := opsD) (b := true) rfl rfl g13_92).trans rfl)) hS ?_
  obtain ⟨a14, e14⟩ : ∃ x, a13.put opsD[13].dst (undef) = x := ⟨_, rfl⟩
  have z14 : a14.tmps.size = 116 := by rw [← e14]; exact put_size.trans z13
  have g14_7 : a14.eval (.tmp 7) = .pointer (some ⟨GB, 0, none⟩) := by rw [← e14]; exact (put_ne (by decide)).trans g13_7
  have g14_8 : a14.eval (.tmp 8) = .int .i64 c := by rw [← e14]; exact (put_ne (by decide)).trans g13_8
  have g14_9 : a14.eval (.tmp 9) = .int .i64 up := by rw [← e14]; exact (put_ne (by decide)).trans g13_9
  have g14_11 : a14.eval (.tmp 11) = .int .i64 k := by rw [← e14]; exact (put_ne (by decide)).trans g13_11
  have g14_85 : a14.eval (.tmp 85) = .int .i64 up := by rw [← e14]; exact (put_ne (by decide)).trans g13_85
  have g14_86 : a14.eval (.tmp 86) = .bool true := by rw [← e14]; exact (put_ne (by decide)).trans g13_86
  have g14_87 : a14.eval (.tmp 87) = .bool true := by rw [← e14]; exact (put_ne (by decide)).trans g13_87
  have g14_88 : a14.eval (.tmp 88) = .int .i64 k := by rw [← e14]; exact (put_ne (by decide)).trans g13_88
  have g14_89 : a14.eval (.tmp 89) = .int .i64 c := by rw [← e14]; exact (put_ne (by decide)).trans g13_89
  have g14_90 : a14.eval (.tmp 90) = .bool false := by rw [← e14]; exact (put_ne (by decide)).trans g13_90
  have g14_91 : a14.eval (.tmp 91) = .bool false := by rw [← e14]; exact (put_ne (by decide)).trans g13_91
  have g14_92 : a14.eval (.tmp 92) = .bool false := by rw [← e14]; exact (put_ne (by decide)).trans g13_92
  have g14_93 : a14.eval (.tmp 93) = undef := by rw [← e14]; exact (put_ne (by decide)).trans g13_93
  have g14_94 : a14.eval (.tmp 94) = undef := by rw [← e14]; exact (put_ne (by decide)).trans g13_94
  have g14_95 : a14.eval (.tmp 95) = undef := by rw [← e14]; exact (put_ne (by decide)).trans g13_95
  have g14_96 : a14.eval (.tmp 96) = undef := by rw [← e14]; exact (put_ne (by decide)).trans g13_96
  have g14_97 : a14.eval (.tmp 97) = undef := by rw [← e14]; exact (put_ne (by decide)).trans g13_97
  have g14_98 : a14.eval (.tmp 98) = undef := by rw [← e14]; exact put_eq (by rw [z13]; decide)
  rw [e14]
  replace hQ : ∀ W', Below w.heap.size w W' → Q .normal ((((a14.put (some 99) (undef)).put (some 100) (undef)).put (some 101) (undef)).put (some 102) (.bool false)) W' := by rw [← e14]; exact hQ
  clear e14 z13 g13_7 g13_8 g13_9 g13_11 g13_85 g13_86 g13_87 g13_88 g13_89 g13_90 g13_91 g13_92 g13_93 g13_94 g13_95 g13_96 g13_97
  refine wpAnyM_take (i := 14) (v := undef) rfl (by kernel_rfl) (by kernel_rfl) (by kernel_rfl) (by kernel_rfl) (hp _ _) (yieldsG_not ((wanted_at (ops := opsD) (b := true) rfl rfl g14_92).trans rfl)) hS ?_
  obtain ⟨a15, e15⟩ : ∃ x, a14.put opsD[14].dst (undef) = x := ⟨_, rfl⟩
  have z15 : a15.tmps.size = 116 := by rw [← e15]; exact put_size.trans z14
  have g15_7 : a15.eval (.tmp 7) = .pointer (some ⟨GB, 0, none⟩) := by rw [← e15]; exact (put_ne (by decide)).trans g14_7
  have g15_8 : a15.eval (.tmp 8) = .int .i64 c := by rw [← e15]; exact (put_ne (by decide)).trans g14_8
  have g15_9 : a15.eval (.tmp 9) = .int .i64 up := by rw [← e15]; exact (put_ne (by decide)).trans g14_9
  have g15_11 : a15.eval (.tmp 11) = .int .i64 k := by rw [← e15]; exact (put_ne (by decide)).trans g14_11
  have g15_85 : a15.eval (.tmp 85) = .int .i64 up := by rw [← e15]; exact (put_ne (by decide)).trans g14_85
  have g15_86 : a15.eval (.tmp 86) = .bool true := by rw [← e15]; exact (put_ne (by decide)).trans g14_86
  have g15_87 : a15.eval (.tmp 87) = .bool true := by rw [← e15]; exact (put_ne (by decide)).trans g14_87
  have g15_88 : a15.eval (.tmp 88) = .int .i64 k := by rw [← e15]; exact (put_ne (by decide)).trans g14_88
  have g15_89 : a15.eval (.tmp 89) = .int .i64 c := by rw [← e15]; exact (put_ne (by decide)).trans g14_89
  have g15_90 : a15.eval (.tmp 90) = .bool false := by rw [← e15]; exact (put_ne (by decide)).trans g14_90
  have g15_91 : a15.eval (.tmp 91) = .bool false := by rw [← e15]; exact (put_ne (by decide)).trans g14_91
  have g15_92 : a15.eval (.tmp 92) = .bool false := by rw [← e15]; exact (put_ne (by decide)).trans g14_92
  have g15_93 : a15.eval (.tmp 93) = undef := by rw [← e15]; exact (put_ne (by decide)).trans g14_93
  have g15_94 : a15.eval (.tmp 94) = undef := by rw [← e15]; exact (put_ne (by decide)).trans g14_94
  have g15_95 : a15.eval (.tmp 95) = undef := by rw [← e15]; exact (put_ne (by decide)).trans g14_95
  have g15_96 : a15.eval (.tmp 96) = undef := by rw [← e15]; exact (put_ne (by decide)).trans g14_96
  have g15_97 : a15.eval (.tmp 97) = undef := by rw [← e15]; exact (put_ne (by decide)).trans g14_97
  have g15_98 : a15.eval (.tmp 98) = undef := by rw [← e15]; exact (put_ne (by decide)).trans g14_98
  have g15_99 : a15.eval (.tmp 99) = undef := by rw [← e15]; exact put_eq (by rw [z14]; decide)
  rw [e15]
  replace hQ : ∀ W', Below w.heap.size w W' → Q .normal (((a15.put (some 100) (undef)).put (some 101) (undef)).put (some 102) (.bool false)) W' := by rw [← e15]; exact hQ
  clear e15 z14 g14_7 g14_8 g14_9 g14_11 g14_85 g14_86 g14_87 g14_88 g14_89 g14_90 g14_91 g14_92 g14_93 g14_94 g14_95 g14_96 g14_97 g14_98
  refine wpAnyM_take (i := 15) (v := undef) rfl (by kernel_rfl) (by kernel_rfl) (by kernel_rfl) (by kernel_rfl) (hp _ _) (yieldsG_not ((wanted_at (ops := opsD) (b := true) rfl rfl g15_92).trans rfl)) hS ?_
  obtain ⟨a16, e16⟩ : ∃ x, a15.put opsD[15].dst (undef) = x := ⟨_, rfl⟩
  have z16 : a16.tmps.size = 116 := by rw [← e16]; exact put_size.trans z15
  have g16_7 : a16.eval (.tmp 7) = .pointer (some ⟨GB, 0, none⟩) := by rw [← e16]; exact (put_ne (by decide)).trans g15_7
  have g16_8 : a16.eval (.tmp 8) = .int .i64 c := by rw [← e16]; exact (put_ne (by decide)).trans g15_8
  have g16_9 : a16.eval (.tmp 9) = .int .i64 up := by rw [← e16]; exact (put_ne (by decide)).trans g15_9
  have g16_11 : a16.eval (.tmp 11) = .int .i64 k := by rw [← e16]; exact (put_ne (by decide)).trans g15_11
  have g16_85 : a16.eval (.tmp 85) = .int .i64 up := by rw [← e16]; exact (put_ne (by decide)).trans g15_85
  have g16_86 : a16.eval (.tmp 86) = .bool true := by rw [← e16]; exact (put_ne (by decide)).trans g15_86
  have g16_87 : a16.eval (.tmp 87) = .bool true := by rw [← e16]; exact (put_ne (by decide)).trans g15_87
  have g16_88 : a16.eval (.tmp 88) = .int .i64 k := by rw [← e16]; exact (put_ne (by decide)).trans g15_88
  have g16_89 : a16.eval (.tmp 89) = .int .i64 c := by rw [← e16]; exact (put_ne (by decide)).trans g15_89
  have g16_90 : a16.eval (.tmp 90) = .bool false := by rw [← e16]; exact (put_ne (by decide)).trans g15_90
  have g16_91 : a16.eval (.tmp 91) = .bool false := by rw [← e16]; exact (put_ne (by decide)).trans g15_91
  have g16_92 : a16.eval (.tmp 92) = .bool false := by rw [← e16]; exact (put_ne (by decide)).trans g15_92
  have g16_93 : a16.eval (.tmp 93) = undef := by rw [← e16]; exact (put_ne (by decide)).trans g15_93
  have g16_94 : a16.eval (.tmp 94) = undef := by rw [← e16]; exact (put_ne (by decide)).trans g15_94
  have g16_95 : a16.eval (.tmp 95) = undef := by rw [← e16]; exact (put_ne (by decide)).trans g15_95
  have g16_96 : a16.eval (.tmp 96) = undef := by rw [← e16]; exact (put_ne (by decide)).trans g15_96
  have g16_97 : a16.eval (.tmp 97) = undef := by rw [← e16]; exact (put_ne (by decide)).trans g15_97
  have g16_98 : a16.eval (.tmp 98) = undef := by rw [← e16]; exact (put_ne (by decide)).trans g15_98
  have g16_99 : a16.eval (.tmp 99) = undef := by rw [← e16]; exact (put_ne (by decide)).trans g15_99
  have g16_100 : a16.eval (.tmp 100) = undef := by rw [← e16]; exact put_eq (by rw [z15]; decide)
  rw [e16]
  replace hQ : ∀ W', Below w.heap.size w W' → Q .normal ((a16.put (some 101) (undef)).put (some 102) (.bool false)) W' := by rw [← e16]; exact hQ
  clear e16 z15 g15_7 g15_8 g15_9 g15_11 g15_85 g15_86 g15_87 g15_88 g15_89 g15_90 g15_91 g15_92 g15_93 g15_94 g15_95 g15_96 g15_97 g15_98 g15_99
  refine wpAnyM_take (i := 16) (v := undef) rfl (by kernel_rfl) (by kernel_rfl) (by kernel_rfl) (by kernel_rfl) (hp _ _) (yieldsG_not ((wanted_at (ops := opsD) (b := true) rfl rfl g16_92).trans rfl)) hS ?_
  obtain ⟨a17, e17⟩ : ∃ x, a16.put opsD[16].dst (undef) = x := ⟨_, rfl⟩
  have z17 : a17.tmps.size = 116 := by rw [← e17]; exact put_size.trans z16
  have g17_7 : a17.eval (.tmp 7) = .pointer (some ⟨GB, 0, none⟩) := by rw [← e17]; exact (put_ne (by decide)).trans g16_7
  have g17_8 : a17.eval (.tmp 8) = .int .i64 c := by rw [← e17]; exact (put_ne (by decide)).trans g16_8
  have g17_9 : a17.eval (.tmp 9) = .int .i64 up := by rw [← e17]; exact (put_ne (by decide)).trans g16_9
  have g17_11 : a17.eval (.tmp 11) = .int .i64 k := by rw [← e17]; exact (put_ne (by decide)).trans g16_11
  have g17_85 : a17.eval (.tmp 85) = .int .i64 up := by rw [← e17]; exact (put_ne (by decide)).trans g16_85
  have g17_86 : a17.eval (.tmp 86) = .bool true := by rw [← e17]; exact (put_ne (by decide)).trans g16_86
  have g17_87 : a17.eval (.tmp 87) = .bool true := by rw [← e17]; exact (put_ne (by decide)).trans g16_87
  have g17_88 : a17.eval (.tmp 88) = .int .i64 k := by rw [← e17]; exact (put_ne (by decide)).trans g16_88
  have g17_89 : a17.eval (.tmp 89) = .int .i64 c := by rw [← e17]; exact (put_ne (by decide)).trans g16_89
  have g17_90 : a17.eval (.tmp 90) = .bool false := by rw [← e17]; exact (put_ne (by decide)).trans g16_90
  have g17_91 : a17.eval (.tmp 91) = .bool false := by rw [← e17]; exact (put_ne (by decide)).trans g16_91
  have g17_92 : a17.eval (.tmp 92) = .bool false := by rw [← e17]; exact (put_ne (by decide)).trans g16_92
  have g17_93 : a17.eval (.tmp 93) = undef := by rw [← e17]; exact (put_ne (by decide)).trans g16_93
  have g17_94 : a17.eval (.tmp 94) = undef := by rw [← e17]; exact (put_ne (by decide)).trans g16_94
  have g17_95 : a17.eval (.tmp 95) = undef := by rw [← e17]; exact (put_ne (by decide)).trans g16_95
  have g17_96 : a17.eval (.tmp 96) = undef := by rw [← e17]; exact (put_ne (by decide)).trans g16_96
  have g17_97 : a17.eval (.tmp 97) = undef := by rw [← e17]; exact (put_ne (by decide)).trans g16_97
  have g17_98 : a17.eval (.tmp 98) = undef := by rw [← e17]; exact (put_ne (by decide)).trans g16_98
  have g17_99 : a17.eval (.tmp 99) = undef := by rw [← e17]; exact (put_ne (by decide)).trans g16_99
  have g17_100 : a17.eval (.tmp 100) = undef := by rw [← e17]; exact (put_ne (by decide)).trans g16_100
  have g17_101 : a17.eval (.tmp 101) = undef := by rw [← e17]; exact put_eq (by rw [z16]; decide)
  rw [e17]
  replace hQ : ∀ W', Below w.heap.size w W' → Q .normal (a17.put (some 102) (.bool false)) W' := by rw [← e17]; exact hQ
  clear e17 z16 g16_7 g16_8 g16_9 g16_11 g16_85 g16_86 g16_87 g16_88 g16_89 g16_90 g16_91 g16_92 g16_93 g16_94 g16_95 g16_96 g16_97 g16_98 g16_99 g16_100
  refine wpAnyM_take (i := 17) (v := .bool false) rfl (by kernel_rfl) (by kernel_rfl) (by kernel_rfl) (by kernel_rfl) (hp _ _) (yieldsG_pick rfl rfl g17_92 rfl) hS ?_
  obtain ⟨a18, e18⟩ : ∃ x, a17.put opsD[17].dst (.bool false) = x := ⟨_, rfl⟩
  have z18 : a18.tmps.size = 116 := by rw [← e18]; exact put_size.trans z17
  have g18_7 : a18.eval (.tmp 7) = .pointer (some ⟨GB, 0, none⟩) := by rw [← e18]; exact (put_ne (by decide)).trans g17_7
  have g18_8 : a18.eval (.tmp 8) = .int .i64 c := by rw [← e18]; exact (put_ne (by decide)).trans g17_8
  have g18_9 : a18.eval (.tmp 9) = .int .i64 up := by rw [← e18]; exact (put_ne (by decide)).trans g17_9
  have g18_11 : a18.eval (.tmp 11) = .int .i64 k := by rw [← e18]; exact (put_ne (by decide)).trans g17_11
  have g18_85 : a18.eval (.tmp 85) = .int .i64 up := by rw [← e18]; exact (put_ne (by decide)).trans g17_85
  have g18_86 : a18.eval (.tmp 86) = .bool true := by rw [← e18]; exact (put_ne (by decide)).trans g17_86
  have g18_87 : a18.eval (.tmp 87) = .bool true := by rw [← e18]; exact (put_ne (by decide)).trans g17_87
  have g18_88 : a18.eval (.tmp 88) = .int .i64 k := by rw [← e18]; exact (put_ne (by decide)).trans g17_88
  have g18_89 : a18.eval (.tmp 89) = .int .i64 c := by rw [← e18]; exact (put_ne (by decide)).trans g17_89
  have g18_90 : a18.eval (.tmp 90) = .bool false := by rw [← e18]; exact (put_ne (by decide)).trans g17_90
  have g18_91 : a18.eval (.tmp 91) = .bool false := by rw [← e18]; exact (put_ne (by decide)).trans g17_91
  have g18_92 : a18.eval (.tmp 92) = .bool false := by rw [← e18]; exact (put_ne (by decide)).trans g17_92
  have g18_93 : a18.eval (.tmp 93) = undef := by rw [← e18]; exact (put_ne (by decide)).trans g17_93
  have g18_94 : a18.eval (.tmp 94) = undef := by rw [← e18]; exact (put_ne (by decide)).trans g17_94
  have g18_95 : a18.eval (.tmp 95) = undef := by rw [← e18]; exact (put_ne (by decide)).trans g17_95
  have g18_96 : a18.eval (.tmp 96) = undef := by rw [← e18]; exact (put_ne (by decide)).trans g17_96
  have g18_97 : a18.eval (.tmp 97) = undef := by rw [← e18]; exact (put_ne (by decide)).trans g17_97
  have g18_98 : a18.eval (.tmp 98) = undef := by rw [← e18]; exact (put_ne (by decide)).trans g17_98
  have g18_99 : a18.eval (.tmp 99) = undef := by rw [← e18]; exact (put_ne (by decide)).trans g17_99
  have g18_100 : a18.eval (.tmp 100) = undef := by rw [← e18]; exact (put_ne (by decide)).trans g17_100
  have g18_101 : a18.eval (.tmp 101) = undef := by rw [← e18]; exact (put_ne (by decide)).trans g17_101
  have g18_102 : a18.eval (.tmp 102) = .bool false := by rw [← e18]; exact put_eq (by rw [z17]; decide)
  rw [e18]
  replace hQ : ∀ W', Below w.heap.size w W' → Q .normal a18 W' := by rw [← e18]; exact hQ
  clear e18 z17 g17_7 g17_8 g17_9 g17_11 g17_85 g17_86 g17_87 g17_88 g17_89 g17_90 g17_91 g17_92 g17_93 g17_94 g17_95 g17_96 g17_97 g17_98 g17_99 g17_100 g17_101
  exact wpAnyM_done (by kernel_rfl) (hQ w (Below.refl _ _)) _
set_option maxRecDepth 100000 in
set_option maxHeartbeats 4000000 in
theorem domRegD (GB m gcap : Nat) (ga : Option Addr) (vals2 : Int) (G : FnD) (up c k : Int) (hup : 0 ≤ up) (hkc : k ≠ c) (p : Bool) (hpc : dominatesOf G k c = p) (hpu : dominatesOf G k up = p) (a : Act) (hsz : a.tmps.size = 116) (h7 : a.eval (.tmp 7) = .pointer (some ⟨GB, 0, none⟩)) (h8 : a.eval (.tmp 8) = .int .i64 c) (h9 : a.eval (.tmp 9) = .int .i64 up) (h11 : a.eval (.tmp 11) = .int .i64 k) (w : World) (hG : FnAt w (.agg #[.slice ga m gcap, .int .i64 vals2]) G)
    (hS : w.cell? ⟨GB, 0, none⟩ = some (.slice ga m gcap) ∧ w.cell? ⟨GB, 1, none⟩ = some (.int .i64 vals2)) (Q : Exit → Act → World → Prop) (hQp : ∀ c a w, ¬ Q (.panic c) a w)
    (hQ : ∀ W', Below w.heap.size w W' → Q .normal ((((((((((((((((((a.put (some 85) (.int .i64 up)).put (some 86) (.bool true)).put (some 87) (.bool true)).put (some 88) (.int .i64 k)).put (some 89) (.int .i64 c)).put (some 90) (.bool true)).put (some 91) (.bool true)).put (some 92) (.bool true)).put (some 93) (.agg #[.slice ga m gcap, .int .i64 vals2])).put (some 94) (.int .i64 k)).put (some 95) (.int .i64 c)).put (some 97) (.agg #[.slice ga m gcap, .int .i64 vals2])).put (some 98) (.int .i64 k)).put (some 99) (.int .i64 up)).put (some 96) (.bool p)).put (some 100) (.bool p)).put (some 101) (.bool false)).put (some 102) (.bool false)) W') :
    wpAnyM Try.prog .any opsD Q 100 (fun W => W.cell? ⟨GB, 0, none⟩ = some (.slice ga m gcap) ∧ W.cell? ⟨GB, 1, none⟩ = some (.int .i64 vals2)) 18 (Array.replicate 18 false) a w := by
  have hp : ∀ (o : Option Tmp) (v : Value) c a w, Q (.panic c) (a.put o v) w → Q (.panic c) a w := fun o v c a w h => absurd h (hQp _ _ _)
  refine wpAnyM_take (i := 0) (v := .int .i64 up) rfl (by kernel_rfl) (by kernel_rfl) (by kernel_rfl) (by kernel_rfl) (hp _ _) (yields_move rfl rfl h9) hS ?_
  obtain ⟨a1, e1⟩ : ∃ x, a.put opsD[0].dst (.int .i64 up) = x := ⟨_, rfl⟩
  have z1 : a1.tmps.size = 116 := by rw [← e1]; exact put_size.trans hsz
  have g1_7 : a1.eval (.tmp 7) = .pointer (some ⟨GB, 0, none⟩) := by rw [← e1]; exact (put_ne (by decide)).trans h7
  have g1_8 : a1.eval (.tmp 8) = .int .i64 c := by rw [← e1]; exact (put_ne (by decide)).trans h8
  have g1_9 : a1.eval (.tmp 9) = .int .i64 up := by rw [← e1]; exact (put_ne (by decide)).trans h9
  have g1_11 : a1.eval (.tmp 11) = .int .i64 k := by rw [← e1]; exact (put_ne (by decide)).trans h11
  have g1_85 : a1.eval (.tmp 85) = .int .i64 up := by rw [← e1]; exact put_eq (by rw [hsz]; decide)
  rw [e1]
  replace hQ : ∀ W', Below w.heap.size w W' → Q .normal (((((((((((((((((a1.put (some 86) (.bool true)).put (some 87) (.bool true)).put (some 88) (.int .i64 k)).put (some 89) (.int .i64 c)).put (some 90) (.bool true)).put (some 91) (.bool true)).put (some 92) (.bool true)).put (some 93) (.agg #[.slice ga m gcap, .int .i64 vals2])).put (some 94) (.int .i64 k)).put (some 95) (.int .i64 c)).put (some 97) (.agg #[.slice ga m gcap, .int .i64 vals2])).put (some 98) (.int .i64 k)).put (some 99) (.int .i64 up)).put (some 96) (.bool p)).put (some 100) (.bool p)).put (some 101) (.bool false)).put (some 102) (.bool false)) W' := by rw [← e1]; exact hQ
  clear e1 hsz h7 h8 h9 h11
  refine wpAnyM_take (i := 1) (v := .bool true) rfl (by kernel_rfl) (by kernel_rfl) (by kernel_rfl) (by kernel_rfl) (hp _ _) (yieldsG_bin rfl rfl g1_85 rfl (fun W => rfl) (fun W => run_geq0 up true (by simp; omega) W)) hS ?_
  obtain ⟨a2, e2⟩ : ∃ x, a1.put opsD[1].dst (.bool true) = x := ⟨_, rfl⟩
  have z2 : a2.tmps.size = 116 := by rw [← e2]; exact put_size.trans z1
  have g2_7 : a2.eval (.tmp 7) = .pointer (some ⟨GB, 0, none⟩) := by rw [← e2]; exact (put_ne (by decide)).trans g1_7
  have g2_8 : a2.eval (.tmp 8) = .int .i64 c := by rw [← e2]; exact (put_ne (by decide)).trans g1_8
  have g2_9 : a2.eval (.tmp 9) = .int .i64 up := by rw [← e2]; exact (put_ne (by decide)).trans g1_9
  have g2_11 : a2.eval (.tmp 11) = .int .i64 k := by rw [← e2]; exact (put_ne (by decide)).trans g1_11
  have g2_85 : a2.eval (.tmp 85) = .int .i64 up := by rw [← e2]; exact (put_ne (by decide)).trans g1_85
  have g2_86 : a2.eval (.tmp 86) = .bool true := by rw [← e2]; exact put_eq (by rw [z1]; decide)
  rw [e2]
  replace hQ : ∀ W', Below w.heap.size w W' → Q .normal ((((((((((((((((a2.put (some 87) (.bool true)).put (some 88) (.int .i64 k)).put (some 89) (.int .i64 c)).put (some 90) (.bool true)).put (some 91) (.bool true)).put (some 92) (.bool true)).put (some 93) (.agg #[.slice ga m gcap, .int .i64 vals2])).put (some 94) (.int .i64 k)).put (some 95) (.int .i64 c)).put (some 97) (.agg #[.slice ga m gcap, .int .i64 vals2])).put (some 98) (.int .i64 k)).put (some 99) (.int .i64 up)).put (some 96) (.bool p)).put (some 100) (.bool p)).put (some 101) (.bool false)).put (some 102) (.bool false)) W' := by rw [← e2]; exact hQ
  clear e2 z1 g1_7 g1_8 g1_9 g1_11 g1_85
  refine wpAnyM_take (i := 2) (v := .bool true) rfl (by kernel_rfl) (by kernel_rfl) (by kernel_rfl) (by kernel_rfl) (hp _ _) (yields_move rfl rfl g2_86) hS ?_
  obtain ⟨a3, e3⟩ : ∃ x, a2.put opsD[2].dst (.bool true) = x := ⟨_, rfl⟩
  have z3 : a3.tmps.size = 116 := by rw [← e3]; exact put_size.trans z2
  have g3_7 : a3.eval (.tmp 7) = .pointer (some ⟨GB, 0, none⟩) := by rw [← e3]; exact (put_ne (by decide)).trans g2_7
  have g3_8 : a3.eval (.tmp 8) = .int .i64 c := by rw [← e3]; exact (put_ne (by decide)).trans g2_8
  have g3_9 : a3.eval (.tmp 9) = .int .i64 up := by rw [← e3]; exact (put_ne (by decide)).trans g2_9
  have g3_11 : a3.eval (.tmp 11) = .int .i64 k := by rw [← e3]; exact (put_ne (by decide)).trans g2_11
  have g3_85 : a3.eval (.tmp 85) = .int .i64 up := by rw [← e3]; exact (put_ne (by decide)).trans g2_85
  have g3_86 : a3.eval (.tmp 86) = .bool true := by rw [← e3]; exact (put_ne (by decide)).trans g2_86
  have g3_87 : a3.eval (.tmp 87) = .bool true := by rw [← e3]; exact put_eq (by rw [z2]; decide)
  rw [e3]
  replace hQ : ∀ W', Below w.heap.size w W' → Q .normal (((((((((((((((a3.put (some 88) (.int .i64 k)).put (some 89) (.int .i64 c)).put (some 90) (.bool true)).put (some 91) (.bool true)).put (some 92) (.bool true)).put (some 93) (.agg #[.slice ga m gcap, .int .i64 vals2])).put (some 94) (.int .i64 k)).put (some 95) (.int .i64 c)).put (some 97) (.agg #[.slice ga m gcap, .int .i64 vals2])).put (some 98) (.int .i64 k)).put (some 99) (.int .i64 up)).put (some 96) (.bool p)).put (some 100) (.bool p)).put (some 101) (.bool false)).put (some 102) (.bool false)) W' := by rw [← e3]; exact hQ
  clear e3 z2 g2_7 g2_8 g2_9 g2_11 g2_85 g2_86
  refine wpAnyM_take (i := 3) (v := .int .i64 k) rfl (by kernel_rfl) (by kernel_rfl) (by kernel_rfl) (by kernel_rfl) (hp _ _) (yieldsG_move ((wanted_at (ops := opsD) (b := true) rfl rfl g3_87).trans rfl) rfl g3_11) hS ?_
  obtain ⟨a4, e4⟩ : ∃ x, a3.put opsD[3].dst (.int .i64 k) = x := ⟨_, rfl⟩
  have z4 : a4.tmps.size = 116 := by rw [← e4]; exact put_size.trans z3
  have g4_7 : a4.eval (.tmp 7) = .pointer (some ⟨GB, 0, none⟩) := by rw [← e4]; exact (put_ne (by decide)).trans g3_7
  have g4_8 : a4.eval (.tmp 8) = .int .i64 c := by rw [← e4]; exact (put_ne (by decide)).trans g3_8
  have g4_9 : a4.eval (.tmp 9) = .int .i64 up := by rw [← e4]; exact (put_ne (by decide)).trans g3_9
  have g4_11 : a4.eval (.tmp 11) = .int .i64 k := by rw [← e4]; exact (put_ne (by decide)).trans g3_11
  have g4_85 : a4.eval (.tmp 85) = .int .i64 up := by rw [← e4]; exact (put_ne (by decide)).trans g3_85
  have g4_86 : a4.eval (.tmp 86) = .bool true := by rw [← e4]; exact (put_ne (by decide)).trans g3_86
  have g4_87 : a4.eval (.tmp 87) = .bool true := by rw [← e4]; exact (put_ne (by decide)).trans g3_87
  have g4_88 : a4.eval (.tmp 88) = .int .i64 k := by rw [← e4]; exact put_eq (by rw [z3]; decide)
  rw [e4]
  replace hQ : ∀ W', Below w.heap.size w W' → Q .normal ((((((((((((((a4.put (some 89) (.int .i64 c)).put (some 90) (.bool true)).put (some 91) (.bool true)).put (some 92) (.bool true)).put (some 93) (.agg #[.slice ga m gcap, .int .i64 vals2])).put (some 94) (.int .i64 k)).put (some 95) (.int .i64 c)).put (some 97) (.agg #[.slice ga m gcap, .int .i64 vals2])).put (some 98) (.int .i64 k)).put (some 99) (.int .i64 up)).put (some 96) (.bool p)).put (some 100) (.bool p)).put (some 101) (.bool false)).put (some 102) (.bool false)) W' := by rw [← e4]; exact hQ
  clear e4 z3 g3_7 g3_8 g3_9 g3_11 g3_85 g3_86 g3_87
  refine wpAnyM_take (i := 4) (v := .int .i64 c) rfl (by kernel_rfl) (by kernel_rfl) (by kernel_rfl) (by kernel_rfl) (hp _ _) (yieldsG_move ((wanted_at (ops := opsD) (b := true) rfl rfl g4_87).trans rfl) rfl g4_8) hS ?_
  obtain ⟨a5, e5⟩ : ∃ x, a4.put opsD[4].dst (.int .i64 c) = x := ⟨_, rfl⟩
  have z5 : a5.tmps.size = 116 := by rw [← e5]; exact put_size.trans z4
  have g5_7 : a5.eval (.tmp 7) = .pointer (some ⟨GB, 0, none⟩) := by rw [← e5]; exact (put_ne (by decide)).trans g4_7
  have g5_8 : a5.eval (.tmp 8) = .int .i64 c := by rw [← e5]; exact (put_ne (by decide)).trans g4_8
  have g5_9 : a5.eval (.tmp 9) = .int .i64 up := by rw [← e5]; exact (put_ne (by decide)).trans g4_9
  have g5_11 : a5.eval (.tmp 11) = .int .i64 k := by rw [← e5]; exact (put_ne (by decide)).trans g4_11
  have g5_85 : a5.eval (.tmp 85) = .int .i64 up := by rw [← e5]; exact (put_ne (by decide)).trans g4_85
  have g5_86 : a5.eval (.tmp 86) = .bool true := by rw [← e5]; exact (put_ne (by decide)).trans g4_86
  have g5_87 : a5.eval (.tmp 87) = .bool true := by rw [← e5]; exact (put_ne (by decide)).trans g4_87
  have g5_88 : a5.eval (.tmp 88) = .int .i64 k := by rw [← e5]; exact (put_ne (by decide)).trans g4_88
  have g5_89 : a5.eval (.tmp 89) = .int .i64 c := by rw [← e5]; exact put_eq (by rw [z4]; decide)
  rw [e5]
  replace hQ : ∀ W', Below w.heap.size w W' → Q .normal (((((((((((((a5.put (some 90) (.bool true)).put (some 91) (.bool true)).put (some 92) (.bool true)).put (some 93) (.agg #[.slice ga m gcap, .int .i64 vals2])).put (some 94) (.int .i64 k)).put (some 95) (.int .i64 c)).put (some 97) (.agg #[.slice ga m gcap, .int .i64 vals2])).put (some 98) (.int .i64 k)).put (some 99) (.int .i64 up)).put (some 96) (.bool p)).put (some 100) (.bool p)).put (some 101) (.bool false)).put (some 102) (.bool false)) W' := by rw [← e5]; exact hQ
  clear e5 z4 g4_7 g4_8 g4_9 g4_11 g4_85 g4_86 g4_87 g4_88
  refine wpAnyM_take (i := 5) (v := .bool true) rfl (by kernel_rfl) (by kernel_rfl) (by kernel_rfl) (by kernel_rfl) (hp _ _) (yieldsG_bin ((wanted_at (ops := opsD) (b := true) rfl rfl g5_87).trans rfl) rfl g5_88 g5_89 (fun W => rfl) (fun W => run_neqI k c true (by simp [hkc]) W)) hS ?_
  obtain ⟨a6, e6⟩ : ∃ x, a5.put opsD[5].dst (.bool true) = x := ⟨_, rfl⟩
  have z6 : a6.tmps.size = 116 := by rw [← e6]; exact put_size.trans z5
  have g6_7 : a6.eval (.tmp 7) = .pointer (some ⟨GB, 0, none⟩) := by rw [← e6]; exact (put_ne (by decide)).trans g5_7
  have g6_8 : a6.eval (.tmp 8) = .int .i64 c := by rw [← e6]; exact (put_ne (by decide)).trans g5_8
  have g6_9 : a6.eval (.tmp 9) = .int .i64 up := by rw [← e6]; exact (put_ne (by decide)).trans g5_9
  have g6_11 : a6.eval (.tmp 11) = .int .i64 k := by rw [← e6]; exact (put_ne (by decide)).trans g5_11
  have g6_85 : a6.eval (.tmp 85) = .int .i64 up := by rw [← e6]; exact (put_ne (by decide)).trans g5_85
  have g6_86 : a6.eval (.tmp 86) = .bool true := by rw [← e6]; exact (put_ne (by decide)).trans g5_86
  have g6_87 : a6.eval (.tmp 87) = .bool true := by rw [← e6]; exact (put_ne (by decide)).trans g5_87
  have g6_88 : a6.eval (.tmp 88) = .int .i64 k := by rw [← e6]; exact (put_ne (by decide)).trans g5_88
  have g6_89 : a6.eval (.tmp 89) = .int .i64 c := by rw [← e6]; exact (put_ne (by decide)).trans g5_89
  have g6_90 : a6.eval (.tmp 90) = .bool true := by rw [← e6]; exact put_eq (by rw [z5]; decide)
  rw [e6]
  replace hQ : ∀ W', Below w.heap.size w W' → Q .normal ((((((((((((a6.put (some 91) (.bool true)).put (some 92) (.bool true)).put (some 93) (.agg #[.slice ga m gcap, .int .i64 vals2])).put (some 94) (.int .i64 k)).put (some 95) (.int .i64 c)).put (some 97) (.agg #[.slice ga m gcap, .int .i64 vals2])).put (some 98) (.int .i64 k)).put (some 99) (.int .i64 up)).put (some 96) (.bool p)).put (some 100) (.bool p)).put (some 101) (.bool false)).put (some 102) (.bool false)) W' := by rw [← e6]; exact hQ
  clear e6 z5 g5_7 g5_8 g5_9 g5_11 g5_85 g5_86 g5_87 g5_88 g5_89
  refine wpAnyM_take (i := 6) (v := .bool true) rfl (by kernel_rfl) (by kernel_rfl) (by kernel_rfl) (by kernel_rfl) (hp _ _) (yieldsG_pick rfl rfl g6_87 g6_90) hS ?_
  obtain ⟨a7, e7⟩ : ∃ x, a6.put opsD[6].dst (.bool true) = x := ⟨_, rfl⟩
  have z7 : a7.tmps.size = 116 := by rw [← e7]; exact put_size.trans z6
  have g7_7 : a7.eval (.tmp 7) = .pointer (some ⟨GB, 0, none⟩) := by rw [← e7]; exact (put_ne (by decide)).trans g6_7
  have g7_8 : a7.eval (.tmp 8) = .int .i64 c := by rw [← e7]; exact (put_ne (by decide)).trans g6_8
  have g7_9 : a7.eval (.tmp 9) = .int .i64 up := by rw [← e7]; exact (put_ne (by decide)).trans g6_9
  have g7_11 : a7.eval (.tmp 11) = .int .i64 k := by rw [← e7]; exact (put_ne (by decide)).trans g6_11
  have g7_85 : a7.eval (.tmp 85) = .int .i64 up := by rw [← e7]; exact (put_ne (by decide)).trans g6_85
  have g7_86 : a7.eval (.tmp 86) = .bool true := by rw [← e7]; exact (put_ne (by decide)).trans g6_86
  have g7_87 : a7.eval (.tmp 87) = .bool true := by rw [← e7]; exact (put_ne (by decide)).trans g6_87
  have g7_88 : a7.eval (.tmp 88) = .int .i64 k := by rw [← e7]; exact (put_ne (by decide)).trans g6_88
  have g7_89 : a7.eval (.tmp 89) = .int .i64 c := by rw [← e7]; exact (put_ne (by decide)).trans g6_89
  have g7_90 : a7.eval (.tmp 90) = .bool true := by rw [← e7]; exact (put_ne (by decide)).trans g6_90
  have g7_91 : a7.eval (.tmp 91) = .bool true := by rw [← e7]; exact put_eq (by rw [z6]; decide)
  rw [e7]
  replace hQ : ∀ W', Below w.heap.size w W' → Q .normal (((((((((((a7.put (some 92) (.bool true)).put (some 93) (.agg #[.slice ga m gcap, .int .i64 vals2])).put (some 94) (.int .i64 k)).put (some 95) (.int .i64 c)).put (some 97) (.agg #[.slice ga m gcap, .int .i64 vals2])).put (some 98) (.int .i64 k)).put (some 99) (.int .i64 up)).put (some 96) (.bool p)).put (some 100) (.bool p)).put (some 101) (.bool false)).put (some 102) (.bool false)) W' := by rw [← e7]; exact hQ
  clear e7 z6 g6_7 g6_8 g6_9 g6_11 g6_85 g6_86 g6_87 g6_88 g6_89 g6_90
  refine wpAnyM_take (i := 7) (v := .bool true) rfl (by kernel_rfl) (by kernel_rfl) (by kernel_rfl) (by kernel_rfl) (hp _ _) (yields_move rfl rfl g7_91) hS ?_
  obtain ⟨a8, e8⟩ : ∃ x, a7.put opsD[7].dst (.bool true) = x := ⟨_, rfl⟩
  have z8 : a8.tmps.size = 116 := by rw [← e8]; exact put_size.trans z7
  have g8_7 : a8.eval (.tmp 7) = .pointer (some ⟨GB, 0, none⟩) := by rw [← e8]; exact (put_ne (by decide)).trans g7_7
  have g8_8 : a8.eval (.tmp 8) = .int .i64 c := by rw [← e8]; exact (put_ne (by decide)).trans g7_8
  have g8_9 : a8.eval (.tmp 9) = .int .i64 up := by rw [← e8]; exact (put_ne (by decide)).trans g7_9
  have g8_11 : a8.eval (.tmp 11) = .int .i64 k := by rw [← e8]; exact (put_ne (by decide)).trans g7_11
  have g8_85 : a8.eval (.tmp 85) = .int .i64 up := by rw [← e8]; exact (put_ne (by decide)).trans g7_85
  have g8_86 : a8.eval (.tmp 86) = .bool true := by rw [← e8]; exact (put_ne (by decide)).trans g7_86
  have g8_87 : a8.eval (.tmp 87) = .bool true := by rw [← e8]; exact (put_ne (by decide)).trans g7_87
  have g8_88 : a8.eval (.tmp 88) = .int .i64 k := by rw [← e8]; exact (put_ne (by decide)).trans g7_88
  have g8_89 : a8.eval (.tmp 89) = .int .i64 c := by rw [← e8]; exact (put_ne (by decide)).trans g7_89
  have g8_90 : a8.eval (.tmp 90) = .bool true := by rw [← e8]; exact (put_ne (by decide)).trans g7_90
  have g8_91 : a8.eval (.tmp 91) = .bool true := by rw [← e8]; exact (put_ne (by decide)).trans g7_91
  have g8_92 : a8.eval (.tmp 92) = .bool true := by rw [← e8]; exact put_eq (by rw [z7]; decide)
  rw [e8]
  replace hQ : ∀ W', Below w.heap.size w W' → Q .normal ((((((((((a8.put (some 93) (.agg #[.slice ga m gcap, .int .i64 vals2])).put (some 94) (.int .i64 k)).put (some 95) (.int .i64 c)).put (some 97) (.agg #[.slice ga m gcap, .int .i64 vals2])).put (some 98) (.int .i64 k)).put (some 99) (.int .i64 up)).put (some 96) (.bool p)).put (some 100) (.bool p)).put (some 101) (.bool false)).put (some 102) (.bool false)) W' := by rw [← e8]; exact hQ
  clear e8 z7 g7_7 g7_8 g7_9 g7_11 g7_85 g7_86 g7_87 g7_88 g7_89 g7_90 g7_91
  refine wpAnyM_take (i := 8) (v := .agg #[.slice ga m gcap, .int .i64 vals2]) rfl (by kernel_rfl) (by kernel_rfl) (by kernel_rfl) (by kernel_rfl) (hp _ _) (yieldsG_load ((wanted_at (ops := opsD) (b := true) rfl rfl g8_92).trans rfl) rfl g8_7 (fun W hW => run_loadAt_fn hW)) hS ?_
  obtain ⟨a9, e9⟩ : ∃ x, a8.put opsD[8].dst (.agg #[.slice ga m gcap, .int .i64 vals2]) = x := ⟨_, rfl⟩
  have z9 : a9.tmps.size = 116 := by rw [← e9]; exact put_size.trans z8
  have g9_7 : a9.eval (.tmp 7) = .pointer (some ⟨GB, 0, none⟩) := by rw [← e9]; exact (put_ne (by decide)).trans g8_7
  have g9_8 : a9.eval (.tmp 8) = .int .i64 c := by rw [← e9]; exact (put_ne (by decide)).trans g8_8
  have g9_9 : a9.eval (.tmp 9) = .int .i64 up := by rw [← e9]; exact (put_ne (by decide)).trans g8_9
  have g9_11 : a9.eval (.tmp 11) = .int .i64 k := by rw [← e9]; exact (put_ne (by decide)).trans g8_11
  have g9_85 : a9.eval (.tmp 85) = .int .i64 up := by rw [← e9]; exact (put_ne (by decide)).trans g8_85
  have g9_86 : a9.eval (.tmp 86) = .bool true := by rw [← e9]; exact (put_ne (by decide)).trans g8_86
  have g9_87 : a9.eval (.tmp 87) = .bool true := by rw [← e9]; exact (put_ne (by decide)).trans g8_87
  have g9_88 : a9.eval (.tmp 88) = .int .i64 k := by rw [← e9]; exact (put_ne (by decide)).trans g8_88
  have g9_89 : a9.eval (.tmp 89) = .int .i64 c := by rw [← e9]; exact (put_ne (by decide)).trans g8_89
  have g9_90 : a9.eval (.tmp 90) = .bool true := by rw [← e9]; exact (put_ne (by decide)).trans g8_90
  have g9_91 : a9.eval (.tmp 91) = .bool true := by rw [← e9]; exact (put_ne (by decide)).trans g8_91
  have g9_92 : a9.eval (.tmp 92) = .bool true := by rw [← e9]; exact (put_ne (by decide)).trans g8_92
  have g9_93 : a9.eval (.tmp 93) = .agg #[.slice ga m gcap, .int .i64 vals2] := by rw [← e9]; exact put_eq (by rw [z8]; decide)
  rw [e9]
  replace hQ : ∀ W', Below w.heap.size w W' → Q .normal (((((((((a9.put (some 94) (.int .i64 k)).put (some 95) (.int .i64 c)).put (some 97) (.agg #[.slice ga m gcap, .int .i64 vals2])).put (some 98) (.int .i64 k)).put (some 99) (.int .i64 up)).put (some 96) (.bool p)).put (some 100) (.bool p)).put (some 101) (.bool false)).put (some 102) (.bool false)) W' := by rw [← e9]; exact hQ
  clear e9 z8 g8_7 g8_8 g8_9 g8_11 g8_85 g8_86 g8_87 g8_88 g8_89 g8_90 g8_91 g8_92
  refine wpAnyM_take (i := 9) (v := .int .i64 k) rfl (by kernel_rfl) (by kernel_rfl) (by kernel_rfl) (by kernel_rfl) (hp _ _) (yieldsG_move ((wanted_at (ops := opsD) (b := true) rfl rfl g9_92).trans rfl) rfl g9_11) hS ?_
  obtain ⟨a10, e10⟩ : ∃ x, a9.put opsD[9].dst (.int .i64 k) = x := ⟨_, rfl⟩
  have z10 : a10.tmps.size = 116 := by rw [← e10]; exact put_size.trans z9
  have g10_7 : a10.eval (.tmp 7) = .pointer (some ⟨GB, 0, none⟩) := by rw [← e10]; exact (put_ne (by decide)).trans g9_7
  have g10_8 : a10.eval (.tmp 8) = .int .i64 c := by rw [← e10]; exact (put_ne (by decide)).trans g9_8
  have g10_9 : a10.eval (.tmp 9) = .int .i64 up := by rw [← e10]; exact (put_ne (by decide)).trans g9_9
  have g10_11 : a10.eval (.tmp 11) = .int .i64 k := by rw [← e10]; exact (put_ne (by decide)).trans g9_11
  have g10_85 : a10.eval (.tmp 85) = .int .i64 up := by rw [← e10]; exact (put_ne (by decide)).trans g9_85
  have g10_86 : a10.eval (.tmp 86) = .bool true := by rw [← e10]; exact (put_ne (by decide)).trans g9_86
  have g10_87 : a10.eval (.tmp 87) = .bool true := by rw [← e10]; exact (put_ne (by decide)).trans g9_87
  have g10_88 : a10.eval (.tmp 88) = .int .i64 k := by rw [← e10]; exact (put_ne (by decide)).trans g9_88
  have g10_89 : a10.eval (.tmp 89) = .int .i64 c := by rw [← e10]; exact (put_ne (by decide)).trans g9_89
  have g10_90 : a10.eval (.tmp 90) = .bool true := by rw [← e10]; exact (put_ne (by decide)).trans g9_90
  have g10_91 : a10.eval (.tmp 91) = .bool true := by rw [← e10]; exact (put_ne (by decide)).trans g9_91
  have g10_92 : a10.eval (.tmp 92) = .bool true := by rw [← e10]; exact (put_ne (by decide)).trans g9_92
  have g10_93 : a10.eval (.tmp 93) = .agg #[.slice ga m gcap, .int .i64 vals2] := by rw [← e10]; exact (put_ne (by decide)).trans g9_93
  have g10_94 : a10.eval (.tmp 94) = .int .i64 k := by rw [← e10]; exact put_eq (by rw [z9]; decide)
  rw [e10]
  replace hQ : ∀ W', Below w.heap.size w W' → Q .normal ((((((((a10.put (some 95) (.int .i64 c)).put (some 97) (.agg #[.slice ga m gcap, .int .i64 vals2])).put (some 98) (.int .i64 k)).put (some 99) (.int .i64 up)).put (some 96) (.bool p)).put (some 100) (.bool p)).put (some 101) (.bool false)).put (some 102) (.bool false)) W' := by rw [← e10]; exact hQ
  clear e10 z9 g9_7 g9_8 g9_9 g9_11 g9_85 g9_86 g9_87 g9_88 g9_89 g9_90 g9_91 g9_92 g9_93
  refine wpAnyM_take (i := 10) (v := .int .i64 c) rfl (by kernel_rfl) (by kernel_rfl) (by kernel_rfl) (by kernel_rfl) (hp _ _) (yieldsG_move ((wanted_at (ops := opsD) (b := true) rfl rfl g10_92).trans rfl) rfl g10_8) hS ?_
  obtain ⟨a11, e11⟩ : ∃ x, a10.put opsD[10].dst (.int .i64 c) = x := ⟨_, rfl⟩
  have z11 : a11.tmps.size = 116 := by rw [← e11]; exact put_size.trans z10
  have g11_7 : a11.eval (.tmp 7) = .pointer (some ⟨GB, 0, none⟩) := by rw [← e11]; exact (put_ne (by decide)).trans g10_7
  have g11_8 : a11.eval (.tmp 8) = .int .i64 c := by rw [← e11]; exact (put_ne (by decide)).trans g10_8
  have g11_9 : a11.eval (.tmp 9) = .int .i64 up := by rw [← e11]; exact (put_ne (by decide)).trans g10_9
  have g11_11 : a11.eval (.tmp 11) = .int .i64 k := by rw [← e11]; exact (put_ne (by decide)).trans g10_11
  have g11_85 : a11.eval (.tmp 85) = .int .i64 up := by rw [← e11]; exact (put_ne (by decide)).trans g10_85
  have g11_86 : a11.eval (.tmp 86) = .bool true := by rw [← e11]; exact (put_ne (by decide)).trans g10_86
  have g11_87 : a11.eval (.tmp 87) = .bool true := by rw [← e11]; exact (put_ne (by decide)).trans g10_87
  have g11_88 : a11.eval (.tmp 88) = .int .i64 k := by rw [← e11]; exact (put_ne (by decide)).trans g10_88
  have g11_89 : a11.eval (.tmp 89) = .int .i64 c := by rw [← e11]; exact (put_ne (by decide)).trans g10_89
  have g11_90 : a11.eval (.tmp 90) = .bool true := by rw [← e11]; exact (put_ne (by decide)).trans g10_90
  have g11_91 : a11.eval (.tmp 91) = .bool true := by rw [← e11]; exact (put_ne (by decide)).trans g10_91
  have g11_92 : a11.eval (.tmp 92) = .bool true := by rw [← e11]; exact (put_ne (by decide)).trans g10_92
  have g11_93 : a11.eval (.tmp 93) = .agg #[.slice ga m gcap, .int .i64 vals2] := by rw [← e11]; exact (put_ne (by decide)).trans g10_93
  have g11_94 : a11.eval (.tmp 94) = .int .i64 k := by rw [← e11]; exact (put_ne (by decide)).trans g10_94
  have g11_95 : a11.eval (.tmp 95) = .int .i64 c := by rw [← e11]; exact put_eq (by rw [z10]; decide)
  rw [e11]
  replace hQ : ∀ W', Below w.heap.size w W' → Q .normal (((((((a11.put (some 97) (.agg #[.slice ga m gcap, .int .i64 vals2])).put (some 98) (.int .i64 k)).put (some 99) (.int .i64 up)).put (some 96) (.bool p)).put (some 100) (.bool p)).put (some 101) (.bool false)).put (some 102) (.bool false)) W' := by rw [← e11]; exact hQ
  clear e11 z10 g10_7 g10_8 g10_9 g10_11 g10_85 g10_86 g10_87 g10_88 g10_89 g10_90 g10_91 g10_92 g10_93 g10_94
  refine wpAnyM_take (i := 12) (v := .agg #[.slice ga m gcap, .int .i64 vals2]) rfl (by kernel_rfl) (by kernel_rfl) (by kernel_rfl) (by kernel_rfl) (hp _ _) (yieldsG_load ((wanted_at (ops := opsD) (b := true) rfl rfl g11_92).trans rfl) rfl g11_7 (fun W hW => run_loadAt_fn hW)) hS ?_
  obtain ⟨a12, e12⟩ : ∃ x, a11.put opsD[12].dst (.agg #[.slice ga m gcap, .int .i64 vals2]) = x := ⟨_, rfl⟩
  have z12 : a12.tmps.size = 116 := by rw [← e12]; exact put_size.trans z11
  have g12_7 : a12.eval (.tmp 7) = .pointer (some ⟨GB, 0, none⟩) := by rw [← e12]; exact (put_ne (by decide)).trans g11_7
  have g12_8 : a12.eval (.tmp 8) = .int .i64 c := by rw [← e12]; exact (put_ne (by decide)).trans g11_8
  have g12_9 : a12.eval (.tmp 9) = .int .i64 up := by rw [← e12]; exact (put_ne (by decide)).trans g11_9
  have g12_11 : a12.eval (.tmp 11) = .int .i64 k := by rw [← e12]; exact (put_ne (by decide)).trans g11_11
  have g12_85 : a12.eval (.tmp 85) = .int .i64 up := by rw [← e12]; exact (put_ne (by decide)).trans g11_85
  have g12_86 : a12.eval (.tmp 86) = .bool true := by rw [← e12]; exact (put_ne (by decide)).trans g11_86
  have g12_87 : a12.eval (.tmp 87) = .bool true := by rw [← e12]; exact (put_ne (by decide)).trans g11_87
  have g12_88 : a12.eval (.tmp 88) = .int .i64 k := by rw [← e12]; exact (put_ne (by decide)).trans g11_88
  have g12_89 : a12.eval (.tmp 89) = .int .i64 c := by rw [← e12]; exact (put_ne (by decide)).trans g11_89
  have g12_90 : a12.eval (.tmp 90) = .bool true := by rw [← e12]; exact (put_ne (by decide)).trans g11_90
  have g12_91 : a12.eval (.tmp 91) = .bool true := by rw [← e12]; exact (put_ne (by decide)).trans g11_91
  have g12_92 : a12.eval (.tmp 92) = .bool true := by rw [← e12]; exact (put_ne (by decide)).trans g11_92
  have g12_93 : a12.eval (.tmp 93) = .agg #[.slice ga m gcap, .int .i64 vals2] := by rw [← e12]; exact (put_ne (by decide)).trans g11_93
  have g12_94 : a12.eval (.tmp 94) = .int .i64 k := by rw [← e12]; exact (put_ne (by decide)).trans g11_94
  have g12_95 : a12.eval (.tmp 95) = .int .i64 c := by rw [← e12]; exact (put_ne (by decide)).trans g11_95
  have g12_97 : a12.eval (.tmp 97) = .agg #[.slice ga m gcap, .int .i64 vals2] := by rw [← e12]; exact put_eq (by rw [z11]; decide)
  rw [e12]
  replace hQ : ∀ W', Below w.heap.size w W' → Q .normal ((((((a12.put (some 98) (.int .i64 k)).put (some 99) (.int .i64 up)).put (some 96) (.bool p)).put (some 100) (.bool p)).put (some 101) (.bool false)).put (some 102) (.bool false)) W' := by rw [← e12]; exact hQ
  clear e12 z11 g11_7 g11_8 g11_9 g11_11 g11_85 g11_86 g11_87 g11_88 g11_89 g11_90 g11_91 g11_92 g11_93 g11_94 g11_95
  refine wpAnyM_take (i := 13) (v := .int .i64 k) rfl (by kernel_rfl) (by kernel_rfl) (by kernel_rfl) (by kernel_rfl) (hp _ _) (yieldsG_move ((wanted_at (ops := opsD) (b := true) rfl rfl g12_92).trans rfl) rfl g12_11) hS ?_
  obtain ⟨a13, e13⟩ : ∃ x, a12.put opsD[13].dst (.int .i64 k) = x := ⟨_, rfl⟩
  have z13 : a13.tmps.size = 116 := by rw [← e13]; exact put_size.trans z12
  have g13_7 : a13.eval (.tmp 7) = .pointer (some ⟨GB, 0, none⟩) := by rw [← e13]; exact (put_ne (by decide)).trans g12_7
  have g13_8 : a13.eval (.tmp 8) = .int .i64 c := by rw [← e13]; exact (put_ne (by decide)).trans g12_8
  have g13_9 : a13.eval (.tmp 9) = .int .i64 up := by rw [← e13]; exact (put_ne (by decide)).trans g12_9
  have g13_11 : a13.eval (.tmp 11) = .int .i64 k := by rw [← e13]; exact (put_ne (by decide)).trans g12_11
  have g13_85 : a13.eval (.tmp 85) = .int .i64 up := by rw [← e13]; exact (put_ne (by decide)).trans g12_85
  have g13_86 : a13.eval (.tmp 86) = .bool true := by rw [← e13]; exact (put_ne (by decide)).trans g12_86
  have g13_87 : a13.eval (.tmp 87) = .bool true := by rw [← e13]; exact (put_ne (by decide)).trans g12_87
  have g13_88 : a13.eval (.tmp 88) = .int .i64 k := by rw [← e13]; exact (put_ne (by decide)).trans g12_88
  have g13_89 : a13.eval (.tmp 89) = .int .i64 c := by rw [← e13]; exact (put_ne (by decide)).trans g12_89
  have g13_90 : a13.eval (.tmp 90) = .bool true := by rw [← e13]; exact (put_ne (by decide)).trans g12_90
  have g13_91 : a13.eval (.tmp 91) = .bool true := by rw [← e13]; exact (put_ne (by decide)).trans g12_91
  have g13_92 : a13.eval (.tmp 92) = .bool true := by rw [← e13]; exact (put_ne (by decide)).trans g12_92
  have g13_93 : a13.eval (.tmp 93) = .agg #[.slice ga m gcap, .int .i64 vals2] := by rw [← e13]; exact (put_ne (by decide)).trans g12_93
  have g13_94 : a13.eval (.tmp 94) = .int .i64 k := by rw [← e13]; exact (put_ne (by decide)).trans g12_94
  have g13_95 : a13.eval (.tmp 95) = .int .i64 c := by rw [← e13]; exact (put_ne (by decide)).trans g12_95
  have g13_97 : a13.eval (.tmp 97) = .agg #[.slice ga m gcap, .int .i64 vals2] := by rw [← e13]; exact (put_ne (by decide)).trans g12_97
  have g13_98 : a13.eval (.tmp 98) = .int .i64 k := by rw [← e13]; exact put_eq (by rw [z12]; decide)
  rw [e13]
  replace hQ : ∀ W', Below w.heap.size w W' → Q .normal (((((a13.put (some 99) (.int .i64 up)).put (some 96) (.bool p)).put (some 100) (.bool p)).put (some 101) (.bool false)).put (some 102) (.bool false)) W' := by rw [← e13]; exact hQ
  clear e13 z12 g12_7 g12_8 g12_9 g12_11 g12_85 g12_86 g12_87 g12_88 g12_89 g12_90 g12_91 g12_92 g12_93 g12_94 g12_95 g12_97
  refine wpAnyM_take (i := 14) (v := .int .i64 up) rfl (by kernel_rfl) (by kernel_rfl) (by kernel_rfl) (by kernel_rfl) (hp _ _) (yieldsG_move ((wanted_at (ops := opsD) (b := true) rfl rfl g13_92).trans rfl) rfl g13_9) hS ?_
  obtain ⟨a14, e14⟩ : ∃ x, a13.put opsD[14].dst (.int .i64 up) = x := ⟨_, rfl⟩
  have z14 : a14.tmps.size = 116 := by rw [← e14]; exact put_size.trans z13
  have g14_7 : a14.eval (.tmp 7) = .pointer (some ⟨GB, 0, none⟩) := by rw [← e14]; exact (put_ne (by decide)).trans g13_7
  have g14_8 : a14.eval (.tmp 8) = .int .i64 c := by rw [← e14]; exact (put_ne (by decide)).trans g13_8
  have g14_9 : a14.eval (.tmp 9) = .int .i64 up := by rw [← e14]; exact (put_ne (by decide)).trans g13_9
  have g14_11 : a14.eval (.tmp 11) = .int .i64 k := by rw [← e14]; exact (put_ne (by decide)).trans g13_11
  have g14_85 : a14.eval (.tmp 85) = .int .i64 up := by rw [← e14]; exact (put_ne (by decide)).trans g13_85
  have g14_86 : a14.eval (.tmp 86) = .bool true := by rw [← e14]; exact (put_ne (by decide)).trans g13_86
  have g14_87 : a14.eval (.tmp 87) = .bool true := by rw [← e14]; exact (put_ne (by decide)).trans g13_87
  have g14_88 : a14.eval (.tmp 88) = .int .i64 k := by rw [← e14]; exact (put_ne (by decide)).trans g13_88
  have g14_89 : a14.eval (.tmp 89) = .int .i64 c := by rw [← e14]; exact (put_ne (by decide)).trans g13_89
  have g14_90 : a14.eval (.tmp 90) = .bool true := by rw [← e14]; exact (put_ne (by decide)).trans g13_90
  have g14_91 : a14.eval (.tmp 91) = .bool true := by rw [← e14]; exact (put_ne (by decide)).trans g13_91
  have g14_92 : a14.eval (.tmp 92) = .bool true := by rw [← e14]; exact (put_ne (by decide)).trans g13_92
  have g14_93 : a14.eval (.tmp 93) = .agg #[.slice ga m gcap, .int .i64 vals2] := by rw [← e14]; exact (put_ne (by decide)).trans g13_93
  have g14_94 : a14.eval (.tmp 94) = .int .i64 k := by rw [← e14]; exact (put_ne (by decide)).trans g13_94
  have g14_95 : a14.eval (.tmp 95) = .int .i64 c := by rw [← e14]; exact (put_ne (by decide)).trans g13_95
  have g14_97 : a14.eval (.tmp 97) = .agg #[.slice ga m gcap, .int .i64 vals2] := by rw [← e14]; exact (put_ne (by decide)).trans g13_97
  have g14_98 : a14.eval (.tmp 98) = .int .i64 k := by rw [← e14]; exact (put_ne (by decide)).trans g13_98
  have g14_99 : a14.eval (.tmp 99) = .int .i64 up := by rw [← e14]; exact put_eq (by rw [z13]; decide)
  rw [e14]
  replace hQ : ∀ W', Below w.heap.size w W' → Q .normal ((((a14.put (some 96) (.bool p)).put (some 100) (.bool p)).put (some 101) (.bool false)).put (some 102) (.bool false)) W' := by rw [← e14]; exact hQ
  clear e14 z13 g13_7 g13_8 g13_9 g13_11 g13_85 g13_86 g13_87 g13_88 g13_89 g13_90 g13_91 g13_92 g13_93 g13_94 g13_95 g13_97 g13_98
  have bw : Below w.heap.size w w := Below.refl _ _
  refine wpAnyM_oneG (i := 11) rfl ((wanted_at (ops := opsD) (b := true) rfl rfl g14_92).trans rfl) (by kernel_rfl) ?_
  refine wp_call_of (f := 19) (args := #[.agg #[.slice ga m gcap, .int .i64 vals2], .int .i64 k, .int .i64 c]) (run_call3 rfl g14_93 g14_94 g14_95 (enters_of Try.func19 (by kernel_rfl) rfl) _) (impl_dominates _ G k c w (hG.later bw)) ?_
  rw [hpc]
  rintro e wg ⟨rfl, bwg'⟩
  have bwg : Below w.heap.size w wg := Bel.after bw bwg'
  have hSwg : wg.cell? ⟨GB, 0, none⟩ = some (.slice ga m gcap) ∧ wg.cell? ⟨GB, 1, none⟩ = some (.int .i64 vals2) := ⟨Bel.keeps bwg hS.1, Bel.keeps bwg hS.2⟩
  refine ⟨_, rfl, fun _ => hSwg, ?_⟩
  obtain ⟨a15, e15⟩ : ∃ x, a14.put opsD[11].dst (.bool p) = x := ⟨_, rfl⟩
  have z15 : a15.tmps.size = 116 := by rw [← e15]; exact put_size.trans z14
  have g15_7 : a15.eval (.tmp 7) = .pointer (some ⟨GB, 0, none⟩) := by rw [← e15]; exact (put_ne (by decide)).trans g14_7
  have g15_8 : a15.eval (.tmp 8) = .int .i64 c := by rw [← e15]; exact (put_ne (by decide)).trans g14_8
  have g15_9 : a15.eval (.tmp 9) = .int .i64 up := by rw [← e15]; exact (put_ne (by decide)).trans g14_9
  have g15_11 : a15.eval (.tmp 11) = .int .i64 k := by rw [← e15]; exact (put_ne (by decide)).trans g14_11
  have g15_85 : a15.eval (.tmp 85) = .int .i64 up := by rw [← e15]; exact (put_ne (by decide)).trans g14_85
  have g15_86 : a15.eval (.tmp 86) = .bool true := by rw [← e15]; exact (put_ne (by decide)).trans g14_86
  have g15_87 : a15.eval (.tmp 87) = .bool true := by rw [← e15]; exact (put_ne (by decide)).trans g14_87
  have g15_88 : a15.eval (.tmp 88) = .int .i64 k := by rw [← e15]; exact (put_ne (by decide)).trans g14_88
  have g15_89 : a15.eval (.tmp 89) = .int .i64 c := by rw [← e15]; exact (put_ne (by decide)).trans g14_89
  have g15_90 : a15.eval (.tmp 90) = .bool true := by rw [← e15]; exact (put_ne (by decide)).trans g14_90
  have g15_91 : a15.eval (.tmp 91) = .bool true := by rw [← e15]; exact (put_ne (by decide)).trans g14_91
  have g15_92 : a15.eval (.tmp 92) = .bool true := by rw [← e15]; exact (put_ne (by decide)).trans g14_92
  have g15_93 : a15.eval (.tmp 93) = .agg #[.slice ga m gcap, .int .i64 vals2] := by rw [← e15]; exact (put_ne (by decide)).trans g14_93
  have g15_94 : a15.eval (.tmp 94) = .int .i64 k := by rw [← e15]; exact (put_ne (by decide)).trans g14_94
  have g15_95 : a15.eval (.tmp 95) = .int .i64 c := by rw [← e15]; exact (put_ne (by decide)).trans g14_95
  have g15_97 : a15.eval (.tmp 97) = .agg #[.slice ga m gcap, .int .i64 vals2] := by rw [← e15]; exact (put_ne (by decide)).trans g14_97
  have g15_98 : a15.eval (.tmp 98) = .int .i64 k := by rw [← e15]; exact (put_ne (by decide)).trans g14_98
  have g15_99 : a15.eval (.tmp 99) = .int .i64 up := by rw [← e15]; exact (put_ne (by decide)).trans g14_99
  have g15_96 : a15.eval (.tmp 96) = .bool p := by rw [← e15]; exact put_eq (by rw [z14]; decide)
  rw [e15]
  replace hQ : ∀ W', Below w.heap.size w W' → Q .normal (((a15.put (some 100) (.bool p)).put (some 101) (.bool false)).put (some 102) (.bool false)) W' := by rw [← e15]; exact hQ
  clear e15 z14 g14_7 g14_8 g14_9 g14_11 g14_85 g14_86 g14_87 g14_88 g14_89 g14_90 g14_91 g14_92 g14_93 g14_94 g14_95 g14_97 g14_98 g14_99
  refine wpAnyM_oneG (i := 15) rfl ((wanted_at (ops := opsD) (b := true) rfl rfl g15_92).trans rfl) (by kernel_rfl) ?_
  refine wp_call_of (f := 19) (args := #[.agg #[.slice ga m gcap, .int .i64 vals2], .int .i64 k, .int .i64 up]) (run_call3 rfl g15_97 g15_98 g15_99 (enters_of Try.func19 (by kernel_rfl) rfl) _) (impl_dominates _ G k up wg (hG.later bwg)) ?_
  rw [hpu]
  rintro e wh ⟨rfl, bwh'⟩
  have bwh : Below w.heap.size w wh := Bel.after bwg bwh'
  have hSwh : wh.cell? ⟨GB, 0, none⟩ = some (.slice ga m gcap) ∧ wh.cell? ⟨GB, 1, none⟩ = some (.int .i64 vals2) := ⟨Bel.keeps bwh hS.1, Bel.keeps bwh hS.2⟩
  refine ⟨_, rfl, fun _ => hSwh, ?_⟩
  obtain ⟨a16, e16⟩ : ∃ x, a15.put opsD[15].dst (.bool p) = x := ⟨_, rfl⟩
  have z16 : a16.tmps.size = 116 := by rw [← e16]; exact put_size.trans z15
  have g16_7 : a16.eval (.tmp 7) = .pointer (some ⟨GB, 0, none⟩) := by rw [← e16]; exact (put_ne (by decide)).trans g15_7
  have g16_8 : a16.eval (.tmp 8) = .int .i64 c := by rw [← e16]; exact (put_ne (by decide)).trans g15_8
  have g16_9 : a16.eval (.tmp 9) = .int .i64 up := by rw [← e16]; exact (put_ne (by decide)).trans g15_9
  have g16_11 : a16.eval (.tmp 11) = .int .i64 k := by rw [← e16]; exact (put_ne (by decide)).trans g15_11
  have g16_85 : a16.eval (.tmp 85) = .int .i64 up := by rw [← e16]; exact (put_ne (by decide)).trans g15_85
  have g16_86 : a16.eval (.tmp 86) = .bool true := by rw [← e16]; exact (put_ne (by decide)).trans g15_86
  have g16_87 : a16.eval (.tmp 87) = .bool true := by rw [← e16]; exact (put_ne (by decide)).trans g15_87
  have g16_88 : a16.eval (.tmp 88) = .int .i64 k := by rw [← e16]; exact (put_ne (by decide)).trans g15_88
  have g16_89 : a16.eval (.tmp 89) = .int .i64 c := by rw [← e16]; exact (put_ne (by decide)).trans g15_89
  have g16_90 : a16.eval (.tmp 90) = .bool true := by rw [← e16]; exact (put_ne (by decide)).trans g15_90
  have g16_91 : a16.eval (.tmp 91) = .bool true := by rw [← e16]; exact (put_ne (by decide)).trans g15_91
  have g16_92 : a16.eval (.tmp 92) = .bool true := by rw [← e16]; exact (put_ne (by decide)).trans g15_92
  have g16_93 : a16.eval (.tmp 93) = .agg #[.slice ga m gcap, .int .i64 vals2] := by rw [← e16]; exact (put_ne (by decide)).trans g15_93
  have g16_94 : a16.eval (.tmp 94) = .int .i64 k := by rw [← e16]; exact (put_ne (by decide)).trans g15_94
  have g16_95 : a16.eval (.tmp 95) = .int .i64 c := by rw [← e16]; exact (put_ne (by decide)).trans g15_95
  have g16_97 : a16.eval (.tmp 97) = .agg #[.slice ga m gcap, .int .i64 vals2] := by rw [← e16]; exact (put_ne (by decide)).trans g15_97
  have g16_98 : a16.eval (.tmp 98) = .int .i64 k := by rw [← e16]; exact (put_ne (by decide)).trans g15_98
  have g16_99 : a16.eval (.tmp 99) = .int .i64 up := by rw [← e16]; exact (put_ne (by decide)).trans g15_99
  have g16_96 : a16.eval (.tmp 96) = .bool p := by rw [← e16]; exact (put_ne (by decide)).trans g15_96
  have g16_100 : a16.eval (.tmp 100) = .bool p := by rw [← e16]; exact put_eq (by rw [z15]; decide)
  rw [e16]
  replace hQ : ∀ W', Below w.heap.size w W' → Q .normal ((a16.put (some 101) (.bool false)).put (some 102) (.bool false)) W' := by rw [← e16]; exact hQ
  clear e16 z15 g15_7 g15_8 g15_9 g15_11 g15_85 g15_86 g15_87 g15_88 g15_89 g15_90 g15_91 g15_92 g15_93 g15_94 g15_95 g15_97 g15_98 g15_99 g15_96
  refine wpAnyM_take (i := 16) (v := .bool false) rfl (by kernel_rfl) (by kernel_rfl) (by kernel_rfl) (by kernel_rfl) (hp _ _) (yieldsG_bin ((wanted_at (ops := opsD) (b := true) rfl rfl g16_92).trans rfl) rfl g16_96 g16_100 (fun W => rfl) (fun W => run_neqB p p false (by simp) W)) hSwh ?_
  obtain ⟨a17, e17⟩ : ∃ x, a16.put opsD[16].dst (.bool false) = x := ⟨_, rfl⟩
  have z17 : a17.tmps.size = 116 := by rw [← e17]; exact put_size.trans z16
  have g17_7 : a17.eval (.tmp 7) = .pointer (some ⟨GB, 0, none⟩) := by rw [← e17]; exact (put_ne (by decide)).trans g16_7
  have g17_8 : a17.eval (.tmp 8) = .int .i64 c := by rw [← e17]; exact (put_ne (by decide)).trans g16_8
  have g17_9 : a17.eval (.tmp 9) = .int .i64 up := by rw [← e17]; exact (put_ne (by decide)).trans g16_9
  have g17_11 : a17.eval (.tmp 11) = .int .i64 k := by rw [← e17]; exact (put_ne (by decide)).trans g16_11
  have g17_85 : a17.eval (.tmp 85) = .int .i64 up := by rw [← e17]; exact (put_ne (by decide)).trans g16_85
  have g17_86 : a17.eval (.tmp 86) = .bool true := by rw [← e17]; exact (put_ne (by decide)).trans g16_86
  have g17_87 : a17.eval (.tmp 87) = .bool true := by rw [← e17]; exact (put_ne (by decide)).trans g16_87
  have g17_88 : a17.eval (.tmp 88) = .int .i64 k := by rw [← e17]; exact (put_ne (by decide)).trans g16_88
  have g17_89 : a17.eval (.tmp 89) = .int .i64 c := by rw [← e17]; exact (put_ne (by decide)).trans g16_89
  have g17_90 : a17.eval (.tmp 90) = .bool true := by rw [← e17]; exact (put_ne (by decide)).trans g16_90
  have g17_91 : a17.eval (.tmp 91) = .bool true := by rw [← e17]; exact (put_ne (by decide)).trans g16_91
  have g17_92 : a17.eval (.tmp 92) = .bool true := by rw [← e17]; exact (put_ne (by decide)).trans g16_92
  have g17_93 : a17.eval (.tmp 93) = .agg #[.slice ga m gcap, .int .i64 vals2] := by rw [← e17]; exact (put_ne (by decide)).trans g16_93
  have g17_94 : a17.eval (.tmp 94) = .int .i64 k := by rw [← e17]; exact (put_ne (by decide)).trans g16_94
  have g17_95 : a17.eval (.tmp 95) = .int .i64 c := by rw [← e17]; exact (put_ne (by decide)).trans g16_95
  have g17_97 : a17.eval (.tmp 97) = .agg #[.slice ga m gcap, .int .i64 vals2] := by rw [← e17]; exact (put_ne (by decide)).trans g16_97
  have g17_98 : a17.eval (.tmp 98) = .int .i64 k := by rw [← e17]; exact (put_ne (by decide)).trans g16_98
  have g17_99 : a17.eval (.tmp 99) = .int .i64 up := by rw [← e17]; exact (put_ne (by decide)).trans g16_99
  have g17_96 : a17.eval (.tmp 96) = .bool p := by rw [← e17]; exact (put_ne (by decide)).trans g16_96
  have g17_100 : a17.eval (.tmp 100) = .bool p := by rw [← e17]; exact (put_ne (by decide)).trans g16_100
  have g17_101 : a17.eval (.tmp 101) = .bool false := by rw [← e17]; exact put_eq (by rw [z16]; decide)
  rw [e17]
  replace hQ : ∀ W', Below w.heap.size w W' → Q .normal (a17.put (some 102) (.bool false)) W' := by rw [← e17]; exact hQ
  clear e17 z16 g16_7 g16_8 g16_9 g16_11 g16_85 g16_86 g16_87 g16_88 g16_89 g16_90 g16_91 g16_92 g16_93 g16_94 g16_95 g16_97 g16_98 g16_99 g16_96 g16_100
  refine wpAnyM_take (i := 17) (v := .bool false) rfl (by kernel_rfl) (by kernel_rfl) (by kernel_rfl) (by kernel_rfl) (hp _ _) (yieldsG_pick rfl rfl g17_92 g17_101) hSwh ?_
  obtain ⟨a18, e18⟩ : ∃ x, a17.put opsD[17].dst (.bool false) = x := ⟨_, rfl⟩
  have z18 : a18.tmps.size = 116 := by rw [← e18]; exact put_size.trans z17
  have g18_7 : a18.eval (.tmp 7) = .pointer (some ⟨GB, 0, none⟩) := by rw [← e18]; exact (put_ne (by decide)).trans g17_7
  have g18_8 : a18.eval (.tmp 8) = .int .i64 c := by rw [← e18]; exact (put_ne (by decide)).trans g17_8
  have g18_9 : a18.eval (.tmp 9) = .int .i64 up := by rw [← e18]; exact (put_ne (by decide)).trans g17_9
  have g18_11 : a18.eval (.tmp 11) = .int .i64 k := by rw [← e18]; exact (put_ne (by decide)).trans g17_11
  have g18_85 : a18.eval (.tmp 85) = .int .i64 up := by rw [← e18]; exact (put_ne (by decide)).trans g17_85
  have g18_86 : a18.eval (.tmp 86) = .bool true := by rw [← e18]; exact (put_ne (by decide)).trans g17_86
  have g18_87 : a18.eval (.tmp 87) = .bool true := by rw [← e18]; exact (put_ne (by decide)).trans g17_87
  have g18_88 : a18.eval (.tmp 88) = .int .i64 k := by rw [← e18]; exact (put_ne (by decide)).trans g17_88
  have g18_89 : a18.eval (.tmp 89) = .int .i64 c := by rw [← e18]; exact (put_ne (by decide)).trans g17_89
  have g18_90 : a18.eval (.tmp 90) = .bool true := by rw [← e18]; exact (put_ne (by decide)).trans g17_90
  have g18_91 : a18.eval (.tmp 91) = .bool true := by rw [← e18]; exact (put_ne (by decide)).trans g17_91
  have g18_92 : a18.eval (.tmp 92) = .bool true := by rw [← e18]; exact (put_ne (by decide)).trans g17_92
  have g18_93 : a18.eval (.tmp 93) = .agg #[.slice ga m gcap, .int .i64 vals2] := by rw [← e18]; exact (put_ne (by decide)).trans g17_93
  have g18_94 : a18.eval (.tmp 94) = .int .i64 k := by rw [← e18]; exact (put_ne (by decide)).trans g17_94
  have g18_95 : a18.eval (.tmp 95) = .int .i64 c := by rw [← e18]; exact (put_ne (by decide)).trans g17_95
  have g18_97 : a18.eval (.tmp 97) = .agg #[.slice ga m gcap, .int .i64 vals2] := by rw [← e18]; exact (put_ne (by decide)).trans g17_97
  have g18_98 : a18.eval (.tmp 98) = .int .i64 k := by rw [← e18]; exact (put_ne (by decide)).trans g17_98
  have g18_99 : a18.eval (.tmp 99) = .int .i64 up := by rw [← e18]; exact (put_ne (by decide)).trans g17_99
  have g18_96 : a18.eval (.tmp 96) = .bool p := by rw [← e18]; exact (put_ne (by decide)).trans g17_96
  have g18_100 : a18.eval (.tmp 100) = .bool p := by rw [← e18]; exact (put_ne (by decide)).trans g17_100
  have g18_101 : a18.eval (.tmp 101) = .bool false := by rw [← e18]; exact (put_ne (by decide)).trans g17_101
  have g18_102 : a18.eval (.tmp 102) = .bool false := by rw [← e18]; exact put_eq (by rw [z17]; decide)
  rw [e18]
  replace hQ : ∀ W', Below w.heap.size w W' → Q .normal a18 W' := by rw [← e18]; exact hQ
  clear e18 z17 g17_7 g17_8 g17_9 g17_11 g17_85 g17_86 g17_87 g17_88 g17_89 g17_90 g17_91 g17_92 g17_93 g17_94 g17_95 g17_97 g17_98 g17_99 g17_96 g17_100 g17_101
  exact wpAnyM_done (by kernel_rfl) (hQ wh bwh) _
end Go.Proofs.Ytkolfddajcmnaaa

namespace Go.Proofs.Ytkolfddajcmnaaa.fnDominates
open Go.ChangeShapes Go.WideShapes Go.ChangeAt Go.RowKit
open Go.ChangeMaps (open_string shut_string)
set_option linter.unusedVariables false

theorem own : ownKnob Try.prog.godebug = none := by kernel_rfl
theorem laidOut : laidOutB Try.prog = true := by kernel_rfl

set_option maxRecDepth 100000 in
set_option maxHeartbeats 32000000 in
set_option maxHeartbeats 4000000 in
theorem walk (w : World) (a0 : Option Addr) (len0 cap0 : Nat) (z0 : List Int) (r0 : IsRow .u8 w a0 len0 cap0 z0) :
    Calls Try.prog 7 #[.slice a0 len0 cap0] w fun e w' => e = .returned (.bool true) ∧ Below w.heap.size w w' := by
  have HR : Hid (IsRow .u8 w a0 len0 cap0 z0) := r0
  clear r0
  go_enter Try.func7, Try.ntmps7
  go_wp2_with fail
  refine (big_any a0 len0 cap0 _).mono ?_
  rintro e w1 ⟨t, rfl, rfl⟩
  cases t with
  | true =>
    go_wp2_with fail
    go_ret
    exact ⟨rfl, Below.refl _ _⟩
  | false =>
    go_wp2_with fail
    refine (drawDominates_any a0 len0 cap0 z0 _ HR.out).mono ?_
    rintro e w2 ⟨v, F, a, b, rfl, hF, hn0, hn9, ha0, ha1, hb0, hb1, b2⟩
    obtain ⟨n, HN⟩ : ∃ n, Hid (F.blocks.length = n) := ⟨_, rfl⟩
    obtain ⟨vals, HV⟩ : ∃ x, Hid (F.values = x) := ⟨_, rfl⟩
    have F2 : Hid (FnAt w2 v F) := FnAtLo.low (Nat.zero_le _) hF
    obtain ⟨ba, bcap, rfl⟩ := F2.out.out HN.out HV.out
    rw [HN.out] at hn0 hn9 ha1 hb1
    have B2 : Hid (Below w1.heap.size w1 w2) := b2
    clear hF b2
    go_wp2_with fail
    obtain ⟨d, HD⟩ : ∃ d, Hid (dominatesOf F a b = d) := ⟨_, rfl⟩
    have hdd : (d != d) = false := by simp
    refine (impl_dominates _ F a b _ (F2.out.later (Bel.alloc _ _))).mono ?_
    rw [HD.out]
    rintro e w3 ⟨rfl, b3⟩
    have B3 : Hid (Below w1.heap.size w1 w3) := Bel.after (Bel.after B2.out (Bel.alloc _ _)) b3
    have F3 : Hid (FnAt w3 (.agg #[.slice ba n bcap, .int .i64 vals]) F) := (F2.out.later (Bel.alloc _ _)).later b3
    have c0 := box_cell b3 0
    have c1 := box_cell b3 1
    simp at c0 c1
    clear b3 F2 B2
    obtain ⟨FB, hFB⟩ : ∃ x, w2.heap.size = x := ⟨_, rfl⟩
    rw [hFB] at c0 c1 ⊢
    clear hFB
    go_wp2_with fail
    refine (spec_dominates _ F a b _ F3.out).mono ?_
    rw [HD.out]
    rintro e w4 ⟨rfl, b4⟩
    have B4 : Hid (Below w1.heap.size w1 w4) := Bel.after B3.out b4
    have F4 : Hid (FnAt w4 (.agg #[.slice ba n bcap, .int .i64 vals]) F) := F3.out.later b4
    replace c0 := Bel.keeps b4 c0
    replace c1 := Bel.keeps b4 c1
    clear b4 F3 B3
    go_wp2_with fail
    refine (drawAbove_any a0 len0 cap0 z0 _ (HR.out.keep (p := w1.heap.size) (fun x e c => Nat.ne_of_lt (HR.out.lt x e c)) (Fr.ofBelow B4.out))).mono ?_
    rintro e w5 ⟨v, G, c, rfl, hG, hm0, hm9, hc0, hc1, b5⟩
    obtain ⟨m, HM⟩ : ∃ m, Hid (G.blocks.length = m) := ⟨_, rfl⟩
    obtain ⟨vals2, HV2⟩ : ∃ x, Hid (G.values = x) := ⟨_, rfl⟩
    have G5 : Hid (FnAt w5 v G) := FnAtLo.low (Nat.zero_le _) hG
    obtain ⟨ga, gcap, rfl⟩ := G5.out.out HM.out HV2.out
    rw [HM.out] at hm0 hm9 hc1
    have B5 : Hid (Below w1.heap.size w1 w5) := Bel.after B4.out b5
    have F5 : Hid (FnAt w5 (.agg #[.slice ba n bcap, .int .i64 vals]) F) := F4.out.later b5
    replace c0 := Bel.keeps b5 c0
    replace c1 := Bel.keeps b5 c1
    clear hG b5 F4 B4
    go_wp2_with fail
    obtain ⟨up, HU⟩ : ∃ up, Hid (aboveOf G c = up) := ⟨_, rfl⟩
    have huu : (up != up) = false := by simp
    refine (impl_above _ G c _ (G5.out.later (Bel.alloc _ _))).mono ?_
    rw [HU.out]
    rintro e w6 ⟨rfl, b6⟩
    have B6 : Hid (Below w1.heap.size w1 w6) := Bel.after (Bel.after B5.out (Bel.alloc _ _)) b6
    have F6 : Hid (FnAt w6 (.agg #[.slice ba n bcap, .int .i64 vals]) F) := (F5.out.later (Bel.alloc _ _)).later b6
    have G6 : Hid (FnAt w6 (.agg #[.slice ga m gcap, .int .i64 vals2]) G) := (G5.out.later (Bel.alloc _ _)).later b6
    replace c0 := Bel.keeps b6 (Bel.keeps (Bel.alloc _ _) c0)
    replace c1 := Bel.keeps b6 (Bel.keeps (Bel.alloc _ _) c1)
    have d0 := box_cell b6 0
    have d1 := box_cell b6 1
    simp at d0 d1
    clear b6 F5 B5 G5
    obtain ⟨GB, hGB⟩ : ∃ x, w5.heap.size = x := ⟨_, rfl⟩
    rw [hGB] at d0 d1 ⊢
    clear hGB
    go_wp2_with fail
    refine (spec_above _ G c _ G6.out).mono ?_
    rw [HU.out]
    rintro e w7 ⟨rfl, b7⟩
    have Bw7 : Hid (Below w1.heap.size w1 w7) := Bel.after B6.out b7
    have Fw7 : Hid (FnAt w7 (.agg #[.slice ba n bcap, .int .i64 vals]) F) := F6.out.later b7
    have Gw7 : Hid (FnAt w7 (.agg #[.slice ga m gcap, .int .i64 vals2]) G) := G6.out.later b7
    replace c0 := Bel.keeps b7 c0
    replace c1 := Bel.keeps b7 c1
    replace d0 := Bel.keeps b7 d0
    replace d1 := Bel.keeps b7 d1
    clear b7 F6 B6 G6
    cases d with
    | false =>
      by_cases hup : 0 ≤ up
      · have HL : Hid (dominatesOf G up c = true ∧ up ≠ c ∧ ∀ x : Int, x ≠ c → dominatesOf G x c = dominatesOf G x up) := by
          have := above_law (F := G) (c := c) (by rw [HU.out]; exact hup)
          rw [HU.out] at this
          exact this
        have hne : up ≠ c := HL.out.2.1
        have hnb : (up == c) = false := by simp [hne]
        go_wp2_with fail
        refine (impl_dominates _ G up c _ (by exact Gw7.out)).mono ?_
        rw [HL.out.1]
        rintro e w8 ⟨rfl, bw8⟩
        have Bw8 : Hid (Below w1.heap.size w1 w8) := Bel.after Bw7.out bw8
        have Fw8 : Hid (FnAt w8 (.agg #[.slice ba n bcap, .int .i64 vals]) F) := Fw7.out.later bw8
        have Gw8 : Hid (FnAt w8 (.agg #[.slice ga m gcap, .int .i64 vals2]) G) := Gw7.out.later bw8
        replace c0 := Bel.keeps bw8 c0
        replace c1 := Bel.keeps bw8 c1
        replace d0 := Bel.keeps bw8 d0
        replace d1 := Bel.keeps bw8 d1
        clear bw8 Bw7 Fw7 Gw7
        go_wp2_with fail
        go_loopw [10] (fun i wr => ∃ k : Nat, k ≤ n ∧ i = .int .i64 k ∧ Below w8.heap.size w8 wr) (fun i _ => n - (intOf i).toNat)
        case atStart => exact ⟨0, Nat.zero_le _, rfl, Below.refl _ _⟩
        case round =>
          obtain ⟨wq, hwq⟩ : ∃ x, x = wr := ⟨_, rfl⟩
          subst hwq
          obtain ⟨k, hk, rfl, hB⟩ := hrel
          have HW : Hid (Below w8.heap.size w8 wq) := hB
          have Bwq : Hid (Below w1.heap.size w1 wq) := Bel.after Bw8.out hB
          have Fwq : Hid (FnAt wq (.agg #[.slice ba n bcap, .int .i64 vals]) F) := Fw8.out.later hB
          have Gwq : Hid (FnAt wq (.agg #[.slice ga m gcap, .int .i64 vals2]) G) := Gw8.out.later hB
          replace c0 := Bel.keeps hB c0
          replace c1 := Bel.keeps hB c1
          replace d0 := Bel.keeps hB d0
          replace d1 := Bel.keeps hB d1
          clear hB
          by_cases hlt : (k : Int) < (n : Int)
          · go_wp2_with fail
            go_roundw
            case rel => exact ⟨k + 1, by omega, by go_num, HW.out⟩
            case measure => simp [intOf]; omega
          · have hkn : n = k := by omega
            subst hkn
            clear HW
            go_wp2_with fail
            go_loopw [11] (fun i wr => ∃ k : Nat, k ≤ m ∧ i = .int .i64 k ∧ Below wq.heap.size wq wr) (fun i _ => m - (intOf i).toNat)
            case atStart => exact ⟨0, Nat.zero_le _, rfl, Below.refl _ _⟩
            case round =>
              obtain ⟨k, hk, rfl, hB⟩ := hrel
              have HW : Hid (Below wq.heap.size wq wr) := hB
              have Bwr : Hid (Below w1.heap.size w1 wr) := Bel.after Bwq.out hB
              have Fwr : Hid (FnAt wr (.agg #[.slice ba n bcap, .int .i64 vals]) F) := Fwq.out.later hB
              have Gwr : Hid (FnAt wr (.agg #[.slice ga m gcap, .int .i64 vals2]) G) := Gwq.out.later hB
              replace c0 := Bel.keeps hB c0
              replace c1 := Bel.keeps hB c1
              replace d0 := Bel.keeps hB d0
              replace d1 := Bel.keeps hB d1
              clear hB
              by_cases hlt : (k : Int) < (m : Int)
              · by_cases hxc : (k : Int) = c
                · go_wp2_with fail
                  refine region_only 100 (fun W => W.cell? ⟨GB, 0, none⟩ = some (.slice ga m gcap) ∧ W.cell? ⟨GB, 1, none⟩ = some (.int .i64 vals2)) (by kernel_rfl) ?_
                  refine domRegE GB m gcap ga vals2 G up c (k : Int) hup hxc _ ?_ ?_ ?_ ?_ ?_ wr.drew Gwr.out ⟨d0, d1⟩ _ ?_ ?_
                  · rfl
                  · rfl
                  · rfl
                  · rfl
                  · rfl
                  · exact fun c a w h => h
                  rintro wh bh0
                  have bh : Below wr.heap.size wr wh := ⟨bh0.os, bh0.tape, bh0.output, bh0.size, bh0.block⟩
                  have HWh : Hid (Below wq.heap.size wq wh) := Bel.after HW.out bh
                  clear bh bh0
                  dsimp only [onlyNormal]
                  simp only [Act.put, Exit.then, List.setIfInBounds_toArray, List.set_cons_succ, List.set_cons_zero]
                  go_at_K
                  go_wp2_with fail
                  go_roundw
                  case rel => exact ⟨k + 1, by omega, by go_num, HWh.out⟩
                  case measure => simp [intOf]; omega
                · obtain ⟨p, HP⟩ : ∃ p, Hid (dominatesOf G k c = p) := ⟨_, rfl⟩
                  have HP2 : Hid (dominatesOf G k up = p) := by have := HL.out.2.2 k hxc; rw [HP.out] at this; exact this.symm
                  go_wp2_with fail
                  refine region_only 100 (fun W => W.cell? ⟨GB, 0, none⟩ = some (.slice ga m gcap) ∧ W.cell? ⟨GB, 1, none⟩ = some (.int .i64 vals2)) (by kernel_rfl) ?_
                  refine domRegD GB m gcap ga vals2 G up c (k : Int) hup hxc p HP.out HP2.out _ ?_ ?_ ?_ ?_ ?_ wr.drew Gwr.out ⟨d0, d1⟩ _ ?_ ?_
                  · rfl
                  · rfl
                  · rfl
                  · rfl
                  · rfl
                  · exact fun c a w h => h
                  rintro wh bh0
                  have bh : Below wr.heap.size wr wh := ⟨bh0.os, bh0.tape, bh0.output, bh0.size, bh0.block⟩
                  have HWh : Hid (Below wq.heap.size wq wh) := Bel.after HW.out bh
                  clear bh bh0
                  dsimp only [onlyNormal]
                  simp only [Act.put, Exit.then, List.setIfInBounds_toArray, List.set_cons_succ, List.set_cons_zero]
                  go_at_K
                  go_wp2_with fail
                  go_roundw
                  case rel => exact ⟨k + 1, by omega, by go_num, HWh.out⟩
                  case measure => simp [intOf]; omega
              · have hkm : m = k := by omega
                subst hkm
                go_wp2_with fail
                go_ret
                exact ⟨rfl, Bwr.out⟩
      · go_wp2_with fail
        go_loopw [10] (fun i wr => ∃ k : Nat, k ≤ n ∧ i = .int .i64 k ∧ Below w7.heap.size w7 wr) (fun i _ => n - (intOf i).toNat)
        case atStart => exact ⟨0, Nat.zero_le _, rfl, Below.refl _ _⟩
        case round =>
          obtain ⟨wq, hwq⟩ : ∃ x, x = wr := ⟨_, rfl⟩
          subst hwq
          obtain ⟨k, hk, rfl, hB⟩ := hrel
          have HW : Hid (Below w7.heap.size w7 wq) := hB
          have Bwq : Hid (Below w1.heap.size w1 wq) := Bel.after Bw7.out hB
          have Fwq : Hid (FnAt wq (.agg #[.slice ba n bcap, .int .i64 vals]) F) := Fw7.out.later hB
          have Gwq : Hid (FnAt wq (.agg #[.slice ga m gcap, .int .i64 vals2]) G) := Gw7.out.later hB
          replace c0 := Bel.keeps hB c0
          replace c1 := Bel.keeps hB c1
          replace d0 := Bel.keeps hB d0
          replace d1 := Bel.keeps hB d1
          clear hB
          by_cases hlt : (k : Int) < (n : Int)
          · go_wp2_with fail
            go_roundw
            case rel => exact ⟨k + 1, by omega, by go_num, HW.out⟩
            case measure => simp [intOf]; omega
          · have hkn : n = k := by omega
            subst hkn
            clear HW
            go_wp2_with fail
            go_loopw [11] (fun i wr => ∃ k : Nat, k ≤ m ∧ i = .int .i64 k ∧ Below wq.heap.size wq wr) (fun i _ => m - (intOf i).toNat)
            case atStart => exact ⟨0, Nat.zero_le _, rfl, Below.refl _ _⟩
            case round =>
              obtain ⟨k, hk, rfl, hB⟩ := hrel
              have HW : Hid (Below wq.heap.size wq wr) := hB
              have Bwr : Hid (Below w1.heap.size w1 wr) := Bel.after Bwq.out hB
              have Fwr : Hid (FnAt wr (.agg #[.slice ba n bcap, .int .i64 vals]) F) := Fwq.out.later hB
              have Gwr : Hid (FnAt wr (.agg #[.slice ga m gcap, .int .i64 vals2]) G) := Gwq.out.later hB
              replace c0 := Bel.keeps hB c0
              replace c1 := Bel.keeps hB c1
              replace d0 := Bel.keeps hB d0
              replace d1 := Bel.keeps hB d1
              clear hB
              by_cases hlt : (k : Int) < (m : Int)
              · go_wp2_with fail
                refine region_only 100 (fun W => W.cell? ⟨GB, 0, none⟩ = some (.slice ga m gcap) ∧ W.cell? ⟨GB, 1, none⟩ = some (.int .i64 vals2)) (by kernel_rfl) ?_
                refine domRegL GB m gcap ga vals2 G up c (k : Int) (by omega) _ ?_ ?_ ?_ ?_ ?_ wr.drew Gwr.out ⟨d0, d1⟩ _ ?_ ?_
                · rfl
                · rfl
                · rfl
                · rfl
                · rfl
                · exact fun c a w h => h
                rintro wh bh0
                have bh : Below wr.heap.size wr wh := ⟨bh0.os, bh0.tape, bh0.output, bh0.size, bh0.block⟩
                have HWh : Hid (Below wq.heap.size wq wh) := Bel.after HW.out bh
                clear bh bh0
                dsimp only [onlyNormal]
                simp only [Act.put, Exit.then, List.setIfInBounds_toArray, List.set_cons_succ, List.set_cons_zero]
                go_at_K
                go_wp2_with fail
                go_roundw
                case rel => exact ⟨k + 1, by omega, by go_num, HWh.out⟩
                case measure => simp [intOf]; omega
              · have hkm : m = k := by omega
                subst hkm
                go_wp2_with fail
                go_ret
                exact ⟨rfl, Bwr.out⟩
    | true =>
      by_cases hup : 0 ≤ up
      · have HL : Hid (dominatesOf G up c = true ∧ up ≠ c ∧ ∀ x : Int, x ≠ c → dominatesOf G x c = dominatesOf G x up) := by
          have := above_law (F := G) (c := c) (by rw [HU.out]; exact hup)
          rw [HU.out] at this
          exact this
        have hne : up ≠ c := HL.out.2.1
        have hnb : (up == c) = false := by simp [hne]
        go_wp2_with fail
        refine (impl_dominates _ G up c _ (by exact Gw7.out)).mono ?_
        rw [HL.out.1]
        rintro e w8 ⟨rfl, bw8⟩
        have Bw8 : Hid (Below w1.heap.size w1 w8) := Bel.after Bw7.out bw8
        have Fw8 : Hid (FnAt w8 (.agg #[.slice ba n bcap, .int .i64 vals]) F) := Fw7.out.later bw8
        have Gw8 : Hid (FnAt w8 (.agg #[.slice ga m gcap, .int .i64 vals2]) G) := Gw7.out.later bw8
        replace c0 := Bel.keeps bw8 c0
        replace c1 := Bel.keeps bw8 c1
        replace d0 := Bel.keeps bw8 d0
        replace d1 := Bel.keeps bw8 d1
        clear bw8 Bw7 Fw7 Gw7
        go_wp2_with fail
        go_loopw [10] (fun i wr => ∃ k : Nat, k ≤ n ∧ i = .int .i64 k ∧ Below w8.heap.size w8 wr) (fun i _ => n - (intOf i).toNat)
        case atStart => exact ⟨0, Nat.zero_le _, rfl, Below.refl _ _⟩
        case round =>
          obtain ⟨wq, hwq⟩ : ∃ x, x = wr := ⟨_, rfl⟩
          subst hwq
          obtain ⟨k, hk, rfl, hB⟩ := hrel
          have HW : Hid (Below w8.heap.size w8 wq) := hB
          have Bwq : Hid (Below w1.heap.size w1 wq) := Bel.after Bw8.out hB
          have Fwq : Hid (FnAt wq (.agg #[.slice ba n bcap, .int .i64 vals]) F) := Fw8.out.later hB
          have Gwq : Hid (FnAt wq (.agg #[.slice ga m gcap, .int .i64 vals2]) G) := Gw8.out.later hB
          replace c0 := Bel.keeps hB c0
          replace c1 := Bel.keeps hB c1
          replace d0 := Bel.keeps hB d0
          replace d1 := Bel.keeps hB d1
          clear hB
          by_cases hlt : (k : Int) < (n : Int)
          · obtain ⟨p, HP⟩ : ∃ p, Hid (dominatesOf F k a = p) := ⟨_, rfl⟩
            go_wp2_with fail
            refine (impl_dominates _ F k a _ (by exact Fwq.out)).mono ?_
            rw [HP.out]
            rintro e wg ⟨rfl, bg⟩
            have HWg : Hid (Below w8.heap.size w8 wg) := Bel.after HW.out bg
            have Fwg : Hid (FnAt wg (.agg #[.slice ba n bcap, .int .i64 vals]) F) := Fwq.out.later bg
            replace c0 := Bel.keeps bg c0
            replace c1 := Bel.keeps bg c1
            clear bg
            cases p with
            | false =>
              go_wp2_with fail
              go_roundw
              case rel => exact ⟨k + 1, by omega, by go_num, HWg.out⟩
              case measure => simp [intOf]; omega
            | true =>
              go_wp2_with fail
              refine (impl_dominates _ F k b _ (by exact Fwg.out)).mono ?_
              rw [dominates_trans HD.out HP.out]
              rintro e wh ⟨rfl, bh⟩
              have HWh : Hid (Below w8.heap.size w8 wh) := Bel.after HWg.out bh
              clear bh
              go_wp2_with fail
              go_roundw
              case rel => exact ⟨k + 1, by omega, by go_num, HWh.out⟩
              case measure => simp [intOf]; omega
          · have hkn : n = k := by omega
            subst hkn
            clear HW
            go_wp2_with fail
            go_loopw [11] (fun i wr => ∃ k : Nat, k ≤ m ∧ i = .int .i64 k ∧ Below wq.heap.size wq wr) (fun i _ => m - (intOf i).toNat)
            case atStart => exact ⟨0, Nat.zero_le _, rfl, Below.refl _ _⟩
            case round =>
              obtain ⟨k, hk, rfl, hB⟩ := hrel
              have HW : Hid (Below wq.heap.size wq wr) := hB
              have Bwr : Hid (Below w1.heap.size w1 wr) := Bel.after Bwq.out hB
              have Fwr : Hid (FnAt wr (.agg #[.slice ba n bcap, .int .i64 vals]) F) := Fwq.out.later hB
              have Gwr : Hid (FnAt wr (.agg #[.slice ga m gcap, .int .i64 vals2]) G) := Gwq.out.later hB
              replace c0 := Bel.keeps hB c0
              replace c1 := Bel.keeps hB c1
              replace d0 := Bel.keeps hB d0
              replace d1 := Bel.keeps hB d1
              clear hB
              by_cases hlt : (k : Int) < (m : Int)
              · by_cases hxc : (k : Int) = c
                · go_wp2_with fail
                  refine region_only 100 (fun W => W.cell? ⟨GB, 0, none⟩ = some (.slice ga m gcap) ∧ W.cell? ⟨GB, 1, none⟩ = some (.int .i64 vals2)) (by kernel_rfl) ?_
                  refine domRegE GB m gcap ga vals2 G up c (k : Int) hup hxc _ ?_ ?_ ?_ ?_ ?_ wr.drew Gwr.out ⟨d0, d1⟩ _ ?_ ?_
                  · rfl
                  · rfl
                  · rfl
                  · rfl
                  · rfl
                  · exact fun c a w h => h
                  rintro wh bh0
                  have bh : Below wr.heap.size wr wh := ⟨bh0.os, bh0.tape, bh0.output, bh0.size, bh0.block⟩
                  have HWh : Hid (Below wq.heap.size wq wh) := Bel.after HW.out bh
                  clear bh bh0
                  dsimp only [onlyNormal]
                  simp only [Act.put, Exit.then, List.setIfInBounds_toArray, List.set_cons_succ, List.set_cons_zero]
                  go_at_K
                  go_wp2_with fail
                  go_roundw
                  case rel => exact ⟨k + 1, by omega, by go_num, HWh.out⟩
                  case measure => simp [intOf]; omega
                · obtain ⟨p, HP⟩ : ∃ p, Hid (dominatesOf G k c = p) := ⟨_, rfl⟩
                  have HP2 : Hid (dominatesOf G k up = p) := by have := HL.out.2.2 k hxc; rw [HP.out] at this; exact this.symm
                  go_wp2_with fail
                  refine region_only 100 (fun W => W.cell? ⟨GB, 0, none⟩ = some (.slice ga m gcap) ∧ W.cell? ⟨GB, 1, none⟩ = some (.int .i64 vals2)) (by kernel_rfl) ?_
                  refine domRegD GB m gcap ga vals2 G up c (k : Int) hup hxc p HP.out HP2.out _ ?_ ?_ ?_ ?_ ?_ wr.drew Gwr.out ⟨d0, d1⟩ _ ?_ ?_
                  · rfl
                  · rfl
                  · rfl
                  · rfl
                  · rfl
                  · exact fun c a w h => h
                  rintro wh bh0
                  have bh : Below wr.heap.size wr wh := ⟨bh0.os, bh0.tape, bh0.output, bh0.size, bh0.block⟩
                  have HWh : Hid (Below wq.heap.size wq wh) := Bel.after HW.out bh
                  clear bh bh0
                  dsimp only [onlyNormal]
                  simp only [Act.put, Exit.then, List.setIfInBounds_toArray, List.set_cons_succ, List.set_cons_zero]
                  go_at_K
                  go_wp2_with fail
                  go_roundw
                  case rel => exact ⟨k + 1, by omega, by go_num, HWh.out⟩
                  case measure => simp [intOf]; omega
              · have hkm : m = k := by omega
                subst hkm
                go_wp2_with fail
                refine (impl_dominates _ F 0 b _ (by exact Fwr.out)).mono ?_
                rw [dominates_zero HD.out]
                rintro e wy ⟨rfl, bwy⟩
                have Bwy : Hid (Below w1.heap.size w1 wy) := Bel.after Bwr.out bwy
                have Fwy : Hid (FnAt wy (.agg #[.slice ba n bcap, .int .i64 vals]) F) := Fwr.out.later bwy
                have Gwy : Hid (FnAt wy (.agg #[.slice ga m gcap, .int .i64 vals2]) G) := Gwr.out.later bwy
                replace c0 := Bel.keeps bwy c0
                replace c1 := Bel.keeps bwy c1
                replace d0 := Bel.keeps bwy d0
                replace d1 := Bel.keeps bwy d1
                clear bwy Bwr Fwr Gwr
                go_wp2_with fail
                refine (impl_dominates _ F b b _ (by exact Fwy.out)).mono ?_
                rw [dominates_refl HD.out]
                rintro e wz ⟨rfl, bwz⟩
                have Bwz : Hid (Below w1.heap.size w1 wz) := Bel.after Bwy.out bwz
                have Fwz : Hid (FnAt wz (.agg #[.slice ba n bcap, .int .i64 vals]) F) := Fwy.out.later bwz
                have Gwz : Hid (FnAt wz (.agg #[.slice ga m gcap, .int .i64 vals2]) G) := Gwy.out.later bwz
                replace c0 := Bel.keeps bwz c0
                replace c1 := Bel.keeps bwz c1
                replace d0 := Bel.keeps bwz d0
                replace d1 := Bel.keeps bwz d1
                clear bwz Bwy Fwy Gwy
                go_wp2_with fail
                go_ret
                exact ⟨rfl, Bwz.out⟩
      · go_wp2_with fail
        go_loopw [10] (fun i wr => ∃ k : Nat, k ≤ n ∧ i = .int .i64 k ∧ Below w7.heap.size w7 wr) (fun i _ => n - (intOf i).toNat)
        case atStart => exact ⟨0, Nat.zero_le _, rfl, Below.refl _ _⟩
        case round =>
          obtain ⟨wq, hwq⟩ : ∃ x, x = wr := ⟨_, rfl⟩
          subst hwq
          obtain ⟨k, hk, rfl, hB⟩ := hrel
          have HW : Hid (Below w7.heap.size w7 wq) := hB
          have Bwq : Hid (Below w1.heap.size w1 wq) := Bel.after Bw7.out hB
          have Fwq : Hid (FnAt wq (.agg #[.slice ba n bcap, .int .i64 vals]) F) := Fw7.out.later hB
          have Gwq : Hid (FnAt wq (.agg #[.slice ga m gcap, .int .i64 vals2]) G) := Gw7.out.later hB
          replace c0 := Bel.keeps hB c0
          replace c1 := Bel.keeps hB c1
          replace d0 := Bel.keeps hB d0
          replace d1 := Bel.keeps hB d1
          clear hB
          by_cases hlt : (k : Int) < (n : Int)
          · obtain ⟨p, HP⟩ : ∃ p, Hid (dominatesOf F k a = p) := ⟨_, rfl⟩
            go_wp2_with fail
            refine (impl_dominates _ F k a _ (by exact Fwq.out)).mono ?_
            rw [HP.out]
            rintro e wg ⟨rfl, bg⟩
            have HWg : Hid (Below w7.heap.size w7 wg) := Bel.after HW.out bg
            have Fwg : Hid (FnAt wg (.agg #[.slice ba n bcap, .int .i64 vals]) F) := Fwq.out.later bg
            replace c0 := Bel.keeps bg c0
            replace c1 := Bel.keeps bg c1
            clear bg
            cases p with
            | false =>
              go_wp2_with fail
              go_roundw
              case rel => exact ⟨k + 1, by omega, by go_num, HWg.out⟩
              case measure => simp [intOf]; omega
            | true =>
              go_wp2_with fail
              refine (impl_dominates _ F k b _ (by exact Fwg.out)).mono ?_
              rw [dominates_trans HD.out HP.out]
              rintro e wh ⟨rfl, bh⟩
              have HWh : Hid (Below w7.heap.size w7 wh) := Bel.after HWg.out bh
              clear bh
              go_wp2_with fail
              go_roundw
              case rel => exact ⟨k + 1, by omega, by go_num, HWh.out⟩
              case measure => simp [intOf]; omega
          · have hkn : n = k := by omega
            subst hkn
            clear HW
            go_wp2_with fail
            go_loopw [11] (fun i wr => ∃ k : Nat, k ≤ m ∧ i = .int .i64 k ∧ Below wq.heap.size wq wr) (fun i _ => m - (intOf i).toNat)
            case atStart => exact ⟨0, Nat.zero_le _, rfl, Below.refl _ _⟩
            case round =>
              obtain ⟨k, hk, rfl, hB⟩ := hrel
              have HW : Hid (Below wq.heap.size wq wr) := hB
              have Bwr : Hid (Below w1.heap.size w1 wr) := Bel.after Bwq.out hB
              have Fwr : Hid (FnAt wr (.agg #[.slice ba n bcap, .int .i64 vals]) F) := Fwq.out.later hB
              have Gwr : Hid (FnAt wr (.agg #[.slice ga m gcap, .int .i64 vals2]) G) := Gwq.out.later hB
              replace c0 := Bel.keeps hB c0
              replace c1 := Bel.keeps hB c1
              replace d0 := Bel.keeps hB d0
              replace d1 := Bel.keeps hB d1
              clear hB
              by_cases hlt : (k : Int) < (m : Int)
              · go_wp2_with fail
                refine region_only 100 (fun W => W.cell? ⟨GB, 0, none⟩ = some (.slice ga m gcap) ∧ W.cell? ⟨GB, 1, none⟩ = some (.int .i64 vals2)) (by kernel_rfl) ?_
                refine domRegL GB m gcap ga vals2 G up c (k : Int) (by omega) _ ?_ ?_ ?_ ?_ ?_ wr.drew Gwr.out ⟨d0, d1⟩ _ ?_ ?_
                · rfl
                · rfl
                · rfl
                · rfl
                · rfl
                · exact fun c a w h => h
                rintro wh bh0
                have bh : Below wr.heap.size wr wh := ⟨bh0.os, bh0.tape, bh0.output, bh0.size, bh0.block⟩
                have HWh : Hid (Below wq.heap.size wq wh) := Bel.after HW.out bh
                clear bh bh0
                dsimp only [onlyNormal]
                simp only [Act.put, Exit.then, List.setIfInBounds_toArray, List.set_cons_succ, List.set_cons_zero]
                go_at_K
                go_wp2_with fail
                go_roundw
                case rel => exact ⟨k + 1, by omega, by go_num, HWh.out⟩
                case measure => simp [intOf]; omega
              · have hkm : m = k := by omega
                subst hkm
                go_wp2_with fail
                refine (impl_dominates _ F 0 b _ (by exact Fwr.out)).mono ?_
                rw [dominates_zero HD.out]
                rintro e wy ⟨rfl, bwy⟩
                have Bwy : Hid (Below w1.heap.size w1 wy) := Bel.after Bwr.out bwy
                have Fwy : Hid (FnAt wy (.agg #[.slice ba n bcap, .int .i64 vals]) F) := Fwr.out.later bwy
                have Gwy : Hid (FnAt wy (.agg #[.slice ga m gcap, .int .i64 vals2]) G) := Gwr.out.later bwy
                replace c0 := Bel.keeps bwy c0
                replace c1 := Bel.keeps bwy c1
                replace d0 := Bel.keeps bwy d0
                replace d1 := Bel.keeps bwy d1
                clear bwy Bwr Fwr Gwr
                go_wp2_with fail
                refine (impl_dominates _ F b b _ (by exact Fwy.out)).mono ?_
                rw [dominates_refl HD.out]
                rintro e wz ⟨rfl, bwz⟩
                have Bwz : Hid (Below w1.heap.size w1 wz) := Bel.after Bwy.out bwz
                have Fwz : Hid (FnAt wz (.agg #[.slice ba n bcap, .int .i64 vals]) F) := Fwy.out.later bwz
                have Gwz : Hid (FnAt wz (.agg #[.slice ga m gcap, .int .i64 vals2]) G) := Gwy.out.later bwz
                replace c0 := Bel.keeps bwz c0
                replace c1 := Bel.keeps bwz c1
                replace d0 := Bel.keeps bwz d0
                replace d1 := Bel.keeps bwz d1
                clear bwz Bwy Fwy Gwy
                go_wp2_with fail
                go_ret
                exact ⟨rfl, Bwz.out⟩

set_option maxRecDepth 100000 in
theorem lifted (os : Os) (started : os.Started) (H : Type) (enc : TypeId × Value → H) :
    ReturnsInHanded {} Try.checked os 7 .any (Rows.fnDominatesSpec.pre6 enc Try.prog Try.f7 Rows.fnDominatesRow.domain false) (Rows.fnDominatesSpec.post enc Try.prog Try.f7 false true false false) := by
  refine returnsInHanded_of_change (C := Try.checked) own started (by kernel_rfl) Try.func7
    (ChangeSpec.witness6 (enc := enc) (C := Try.checked) false ⟨#[], #[.slice none 0 0], []⟩ 8 (by kernel_rfl) (by kernel_rfl) (by kernel_rfl) (by kernel_rfl)) ?_
  intro W base args ds gs before hval0 hW hcnd _
  have hval : ∀ (j : Nat) t v, Try.f7.params[j]? = some t → args[j]? = some v → Value.okWide Try.prog W .any base t v := hval0
  have hW' := hW
  obtain ⟨p, q, hA0, hV, rfl, hfz, hnd⟩ := hW
  have hA : DataW.TrodAll enc Try.prog W 0 (fun _ => true) true Try.f7.params.toList args.toList ds p := hA0
  rw [Try.params7] at hA hval
  obtain ⟨v0, vs0, d0, ds0, p0, q0, hargs, rfl, rfl, h0, r0x⟩ := trodAll_cons hA
  obtain ⟨rfl, rfl, rfl⟩ := trodAll_nil r0x
  obtain rfl : args = #[v0] := by cases args; simp_all
  obtain ⟨rfl, rfl⟩ := trodVars_none hV
  have k0 := h0
  have lt0 : ∀ x ∈ p0, x.block < W.heap.size := by obtain ⟨m, hm⟩ := k0; exact DataW.trod_lt m _ _ _ hm
  obtain ⟨a0, len0, cap0, rfl⟩ := okWide_slice Try.underlying40 (hval 0 40 v0 rfl rfl)
  obtain ⟨z0, r0⟩ : ∃ zs, IsRow .u8 W a0 len0 cap0 zs := by
    obtain ⟨fuel, hf⟩ := h0
    rcases open_ints Try.underlying40 Try.underlying5 (by kernel_rfl) hf with ⟨hcs, _⟩ | ⟨x, l, c, zs, hcs, _, hl, hm, hz, _, hcell, hwz⟩
    · simp [Value.cells] at hcs
      obtain ⟨rfl, rfl, rfl⟩ := hcs
      exact ⟨[], .inl ⟨rfl, rfl, rfl, rfl⟩⟩
    · simp [Value.cells] at hcs
      obtain ⟨rfl, rfl, rfl⟩ := hcs
      exact ⟨zs, .inr ⟨_, rfl, hl, hm, by simpa using hz, hcell, hwz⟩⟩
  clear hA0 hval0
  refine (walk W a0 len0 cap0 z0 r0).mono fun e W' ⟨he, bel⟩ => ?_
  subst he
  exact ⟨_, rfl, _, _, _, [], _, [], hW', trodAll_mk1 (shut_bool Try.underlying4 _), (trodAll_cons_mk (Below.trod laidOut (by kernel_rfl) (of_decide_eq_true (by kernel_rfl)) k0 bel lt0) trodAll_mk0), rfl, bel.frame _, fun h => by cases h⟩

theorem over : Rows.fnDominatesRow.holds Try.pinned (OpenSpec.ofChange Rows.fnDominatesSpec) :=
  OpenClaim.holds_of_wide 7 Try.f7 rfl rfl rfl rfl rfl rfl rfl ⟨rfl, rfl, rfl, rfl, rfl⟩ rfl rfl rfl rfl rfl (by kernel_rfl) Try.func7 (by kernel_rfl)
    (of_decide_eq_true (by kernel_rfl)) (by unfold Func.isWrapper; first | (rw [if_pos (by decide +kernel)]; kernel_rfl) | (rw [if_neg (by decide +kernel)]; exact ⟨rfl, rfl⟩))
    (fun os started H enc _ => lifted os started H enc)

/-- The statement. -/
theorem proved : Rows.FnDominatesSaid := over
#print axioms proved
end Go.Proofs.Ytkolfddajcmnaaa.fnDominates
