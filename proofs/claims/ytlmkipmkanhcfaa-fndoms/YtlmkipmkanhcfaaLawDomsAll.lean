/- Proved: block 0 dominates all that is reached of a drawn program, each itself; what dominates all that come ahead of a block dominates it. -/
import Derived.Test.YtlmkipmkanhcfaaGen12
import Derived.Test.YtlmkipmkanhcfaaTo
import Derived.Test.YtlmkipmkanhcfaaInts
import Derived.Test.YtlmkipmkanhcfaaOwn
import Derived.Test.YtlmkipmkanhcfaaWalk
import Derived.Test.YtlmkipmkanhcfaaSOrder2
import Derived.Test.YtlmkipmkanhcfaaDom
import Derived.Test.YtlmkipmkanhcfaaImplDoms
import Derived.WalkKit
import Derived.Test.YtlmkipmkanhcfaaPreds
import Derived.Test.YtlmkipmkanhcfaaRows
import Derived.ProofKit
import Derived.OpenShut
import Derived.ShutString
import Derived.ChangeOld
import Derived.Below
namespace Go.Proofs.Ytlmkipmkanhcfaa
open Go.ChangeShapes Go.WideShapes Go.ChangeAt Go.RowKit
set_option linter.unusedVariables false

/-- A drawn program and a number are given. -/
def GivesAt (w : World) (e : Ending) (w' : World) : Prop := ∃ (v : Value) (F : FnD) (b : Int), e = .returned (.tuple #[v, .int .i64 b]) ∧ FnAtLo w.heap.size w' v F ∧ 0 < F.blocks.length ∧ F.blocks.length ≤ 900 ∧ -1 ≤ b ∧ b ≤ F.blocks.length ∧ Below w.heap.size w w'
theorem Keeps.fr {w w' : World} {C : Nat} (h : Fr C w w') : Keeps (C + 1) w w' := fun p v hp hc => by
  rw [h.cell (World.block_lt_of_cell? w _ hc) (by omega)]
  exact hc
theorem FnAtLo.fr {w w' : World} {C : Nat} {v : Value} {F : FnD} (h : FnAtLo (C + 1) w v F) (hf : Fr C w w') : FnAtLo (C + 1) w' v F := h.keep (Keeps.fr hf)
theorem FnAtLo.out {lo : Nat} {w : World} {v : Value} {F : FnD} (h : FnAtLo lo w v F) {n : Nat} (hn : F.blocks.length = n) : ∃ ba bcap vals, v = .agg #[.slice ba n bcap, .int .i64 vals] := by
  obtain ⟨bv, rfl, a, cap, rfl, _⟩ := h
  exact ⟨a, cap, F.values, by rw [hn]⟩

set_option maxRecDepth 100000 in
set_option maxHeartbeats 16000000 in
theorem drawAt_any (a : Option Addr) (len cap : Nat) (zs : List Int) (w : World) (hr : IsRow .u8 w a len cap zs) :
    Calls Try.prog 33 #[.slice a len cap] w fun e w' => GivesAt w e w' := by
  have HR : Hid (IsRow .u8 w a len cap zs) := hr
  clear hr
  go_enter Try.func33, Try.ntmps33
  go_wp2_with fail
  obtain ⟨wA, hwA⟩ : ∃ W, w.alloc (.cells #[.slice none 0 0, .int .i64 0] 26) = W := ⟨_, rfl⟩
  have bA : Below w.heap.size w wA := by rw [← hwA]; exact Bel.alloc _ _
  have xA : wA.heap[w.heap.size]? = some (.cells #[.slice none 0 0, .int .i64 0] 26 (0, 0)) := by rw [← hwA]; exact World.alloc_heap_new _ _
  have sA : wA.heap.size = w.heap.size + 1 := by rw [← hwA]; simp
  try rw [hwA]
  clear hwA
  refine (new_any a len cap zs _ (HR.out.keep (p := w.heap.size) (fun x e c => Nat.ne_of_lt (HR.out.lt x e c)) (Fr.ofBelow bA))).mono ?_
  rintro e w1 ⟨rfl, b1, hc1, _⟩
  obtain ⟨C, hC⟩ : ∃ x, wA.heap.size = x := ⟨_, rfl⟩
  rw [hC] at hc1 b1 ⊢
  have hRC : w.heap.size < C := by omega
  have X1 : Hid (w1.heap[w.heap.size]? = some (.cells #[.slice none 0 0, .int .i64 0] 26 (0, 0))) := (b1.block _ hRC).trans xA
  have B1 : Hid (Below w.heap.size w w1) := bA.trans (b1.mono (by omega))
  have C1 : Hid (Cur w1 C) := hc1
  clear b1 hc1 bA xA sA hC
  go_wp2_with fail
  refine (draw_any C _ C1.out).mono ?_
  rintro e w2 ⟨v, F, rfl, hF, hn0, hn9, b2, hc2⟩
  obtain ⟨n, hn⟩ : ∃ n, F.blocks.length = n := ⟨_, rfl⟩
  have HN : Hid (F.blocks.length = n) := hn
  obtain ⟨ba, bcap, vals, rfl⟩ := hF.out hn
  rw [hn] at hn0 hn9
  have X2 : w2.heap[w.heap.size]? = some (.cells #[.slice none 0 0, .int .i64 0] 26 (0, 0)) := (b2.block _ hRC).trans X1.out
  have B2 : Below w.heap.size w w2 := B1.out.trans (b2.mono (by omega))
  obtain ⟨w3, hw3⟩ : ∃ W, w2.alloc (.cells #[.slice ba n bcap, .int .i64 vals] 26) = W := ⟨_, rfl⟩
  have b3 : Below w2.heap.size w2 w3 := by rw [← hw3]; exact Bel.alloc _ _
  have x3 : w3.heap[w2.heap.size]? = some (.cells #[.slice ba n bcap, .int .i64 vals] 26 (0, 0)) := by rw [← hw3]; exact World.alloc_heap_new _ _
  have hC2 : C < w2.heap.size := hc2.lt
  have HF3 : Hid (FnAtLo (C + 1) w3 (.agg #[.slice ba n bcap, .int .i64 vals]) F) := hF.keep (Keeps.of_below b3 _)
  have X3 : Hid (w3.heap[w.heap.size]? = some (.cells #[.slice none 0 0, .int .i64 0] 26 (0, 0))) := (b3.block _ (by omega)).trans X2
  have B3 : Hid (Below w.heap.size w w3) := B2.trans (b3.mono (by omega))
  have C3 : Hid (Cur w3 C) := hc2.later b3
  clear hn hF b2 hc2 X1 B1 C1 X2 B2
  go_wp2_with fail
  try rw [hw3]
  clear hw3
  obtain ⟨FB, hFB⟩ : ∃ x, w2.heap.size = x := ⟨_, rfl⟩
  rw [hFB] at b3 x3 hC2
  try rw [hFB]
  clear hFB b3
  have FB3 : Hid (w3.heap[FB]? = some (.cells #[.slice ba n bcap, .int .i64 vals] 26 (0, 0))) := x3
  have hF3 : FB < w3.heap.size := (Array.getElem?_eq_some_iff.1 x3).1
  have hR3 : w.heap.size < w3.heap.size := (Array.getElem?_eq_some_iff.1 X3.out).1
  have c30 : w3.cell? ⟨FB, 0, none⟩ = some (.slice ba n bcap) := by simp [World.cell?, x3]
  have c31 : w3.cell? ⟨FB, 1, none⟩ = some (.int .i64 vals) := by simp [World.cell?, x3]
  have hFC : FB ≠ C := by omega
  have hRC' : w.heap.size ≠ C := by omega
  have hRF : w.heap.size ≠ FB := by omega
  clear x3
  go_region_held3 (fun w' => w'.cell? ⟨FB, 0, none⟩ = some (.slice ba n bcap) ∧ w'.cell? ⟨FB, 1, none⟩ = some (.int .i64 vals)) (first | exact ⟨(World.cell?_setCell_far _ _ _ _ hRF).trans ((World.cell?_setCell_far _ _ _ _ hRF).trans c50), (World.cell?_setCell_far _ _ _ _ hRF).trans ((World.cell?_setCell_far _ _ _ _ hRF).trans c51)⟩ | exact ⟨c50, c51⟩ | exact ⟨c40, c41⟩ | exact ⟨c30, c31⟩ | go_keep)
    (first
      | (go_at_call 54; refine (below_any C 20 _ C4.out).mono ?_; rintro e w5 ⟨z2, rfl, hz0, hz1, _, hf, hc⟩; have hz2 := hz1 (by omega); have C5 : Hid (Cur w5 C) := hc; have F5 : Hid (Fr C w3 w5) := F4.out.trans ⟨hf.os, hf.tape, hf.output, hf.size, hf.block⟩; have c50 : w5.cell? ⟨FB, 0, none⟩ = some (.slice ba n bcap) := (F5.out.cell (x := ⟨FB, 0, none⟩) hF3 hFC).trans c30; have c51 : w5.cell? ⟨FB, 1, none⟩ = some (.int .i64 vals) := (F5.out.cell (x := ⟨FB, 1, none⟩) hF3 hFC).trans c31; have y0 : w5.cell? ⟨w.heap.size, 0, none⟩ = some (.slice none 0 0) := (F5.out.cell (x := ⟨w.heap.size, 0, none⟩) hR3 hRC').trans (by simp [World.cell?, X3.out]); have y1 : w5.cell? ⟨w.heap.size, 1, none⟩ = some (.int .i64 0) := (F5.out.cell (x := ⟨w.heap.size, 1, none⟩) hR3 hRC').trans (by simp [World.cell?, X3.out]); have u0 : w5.frozen? ⟨w.heap.size, 0, none⟩ = false := (F5.out.frozen (x := ⟨w.heap.size, 0, none⟩) hR3 hRC').trans (by simp [World.frozen?, X3.out]); have u1 : w5.frozen? ⟨w.heap.size, 1, none⟩ = false := (F5.out.frozen (x := ⟨w.heap.size, 1, none⟩) hR3 hRC').trans (by simp [World.frozen?, X3.out]); clear hf hc)
      | (go_at_call 54; refine (below_any C _ _ (by exact C3.out)).mono ?_; rintro e w4 ⟨z, rfl, hx0, hx1, _, hf, hc⟩; have C4 : Hid (Cur w4 C) := hc; have F4 : Hid (Fr C w3 w4) := ⟨hf.os, hf.tape, hf.output, hf.size, hf.block⟩; have c40 : w4.cell? ⟨FB, 0, none⟩ = some (.slice ba n bcap) := (F4.out.cell (x := ⟨FB, 0, none⟩) hF3 hFC).trans c30; have c41 : w4.cell? ⟨FB, 1, none⟩ = some (.int .i64 vals) := (F4.out.cell (x := ⟨FB, 1, none⟩) hF3 hFC).trans c31; clear hf hc))
  have ew : IntKind.i64.wrap ((n : Int) + 1) = (n : Int) + 1 := by rw [IntKind.wrap_i64]; omega
  rw [ew] at hx1
  have hwn : z < (n : Int) + 1 := hx1 (by omega)
  have ht0 : 0 ≤ z2.tdiv 19 ∧ z2.tdiv 19 ≤ 1 := by rw [Int.tdiv_eq_ediv_of_nonneg hz0]; omega
  have ed : IntKind.i64.wrap (z2.tdiv 19) = z2.tdiv 19 := by rw [IntKind.wrap_i64]; omega
  obtain ⟨t, ht⟩ : ∃ t, z2.tdiv 19 = t := ⟨_, rfl⟩
  rw [ht] at ht0 ed
  have ez : IntKind.i64.wrap (z - t) = z - t := by rw [IntKind.wrap_i64]; omega
  rw [ht, ed, ez]
  have HZ : Hid (-1 ≤ z - t ∧ z - t ≤ (n : Int)) := ⟨by omega, by omega⟩
  obtain ⟨y, hy⟩ : ∃ y, z - t = y := ⟨_, rfl⟩
  rw [hy] at HZ ⊢
  clear hy ez ed ht ht0 hwn hx1 ew
  have F6 : Hid (FnAtLo (C + 1) w5 (.agg #[.slice ba n bcap, .int .i64 vals]) F) := HF3.out.fr F5.out
  have HB6 : Hid (Below w.heap.size w w5) := B3.out.trans (F5.out.below (by omega) (by omega))
  obtain ⟨W', hW'⟩ : ∃ W, (w5.setCell ⟨w.heap.size, 0, none⟩ (.slice ba n bcap)).setCell ⟨w.heap.size, 1, none⟩ (.int .i64 vals) = W := ⟨_, rfl⟩
  have r0 : W'.cell? ⟨w.heap.size, 0, none⟩ = some (.slice ba n bcap) := by
    rw [← hW', World.cell?_setCell_other _ _ _ _ (by simp)]
    exact World.cell?_setCell_same _ _ _ y0
  have r1 : W'.cell? ⟨w.heap.size, 1, none⟩ = some (.int .i64 vals) := by
    rw [← hW']
    exact World.cell?_setCell_same _ _ _ ((World.cell?_setCell_other _ _ _ _ (by simp)).trans y1)
  have bl : Below w.heap.size w5 W' := by
    rw [← hW']
    exact ((Below.refl _ _).setCell (p := ⟨w.heap.size, 0, none⟩) (Nat.le_refl _) _).setCell (p := ⟨w.heap.size, 1, none⟩) (Nat.le_refl _) _
  have kp : Keeps (C + 1) w5 W' := by
    rw [← hW']
    exact (Keeps.setCell _ _ _ _ _ (by omega)).trans (Keeps.setCell _ _ _ _ _ (by omega))
  have F7 : Hid (FnAtLo w.heap.size W' (.agg #[.slice ba n bcap, .int .i64 vals]) F) := FnAtLo.low (by omega) (F6.out.keep kp)
  have B7 : Hid (Below w.heap.size w W') := HB6.out.trans bl
  rw [hW']
  clear hW' bl kp c50 c51 c40 c41 c30 c31 y0 y1 u0 u1
  simp only [Exit.then]
  go_at_K
  go_wp2_with fail
  refine bodyPost_ret (v := .tuple #[.agg #[.slice ba n bcap, .int .i64 vals], .int .i64 y]) (by simp [results, Try.results33, go_sem, r0, r1]) rfl ?_
  exact ⟨_, F, y, rfl, F7.out, by rw [HN.out]; exact hn0, by rw [HN.out]; exact hn9, HZ.out.1, by rw [HN.out]; exact HZ.out.2, B7.out⟩
end Go.Proofs.Ytlmkipmkanhcfaa

namespace Go.Proofs.Ytlmkipmkanhcfaa
open Go.ChangeShapes Go.WideShapes Go.ChangeAt Go.RowKit
set_option linter.unusedVariables false

/-- A drawn program and two numbers are given. -/
def GivesAt2 (w : World) (e : Ending) (w' : World) : Prop := ∃ (v : Value) (F : FnD) (a b : Int), e = .returned (.tuple #[v, .int .i64 a, .int .i64 b]) ∧ FnAtLo w.heap.size w' v F ∧ 0 < F.blocks.length ∧ F.blocks.length ≤ 900 ∧ 0 ≤ a ∧ a < F.blocks.length ∧ -1 ≤ b ∧ b ≤ F.blocks.length ∧ Below w.heap.size w w'
/-- A drawn program is given. -/
def GivesOne (w : World) (e : Ending) (w' : World) : Prop := ∃ (v : Value) (F : FnD), e = .returned v ∧ FnAtLo w.heap.size w' v F ∧ 0 < F.blocks.length ∧ F.blocks.length ≤ 900 ∧ Below w.heap.size w w'
/-- What the two stores into the box of the result leave. -/
theorem box_end {w w5 : World} {R : Nat} {ba : Option Addr} {n bcap : Nat} {vals : Int} {F : FnD} (hR : R = w.heap.size) (x : w5.heap[R]? = some (.cells #[.slice none 0 0, .int .i64 0] 26 (0, 0))) (hF : FnAtLo (R + 1) w5 (.agg #[.slice ba n bcap, .int .i64 vals]) F) (hB : Below w.heap.size w w5) :
    ((w5.setCell ⟨R, 0, none⟩ (.slice ba n bcap)).setCell ⟨R, 1, none⟩ (.int .i64 vals)).cell? ⟨R, 0, none⟩ = some (.slice ba n bcap) ∧ ((w5.setCell ⟨R, 0, none⟩ (.slice ba n bcap)).setCell ⟨R, 1, none⟩ (.int .i64 vals)).cell? ⟨R, 1, none⟩ = some (.int .i64 vals) ∧
    FnAtLo w.heap.size ((w5.setCell ⟨R, 0, none⟩ (.slice ba n bcap)).setCell ⟨R, 1, none⟩ (.int .i64 vals)) (.agg #[.slice ba n bcap, .int .i64 vals]) F ∧ Below w.heap.size w ((w5.setCell ⟨R, 0, none⟩ (.slice ba n bcap)).setCell ⟨R, 1, none⟩ (.int .i64 vals)) := by
  have y0 : w5.cell? ⟨R, 0, none⟩ = some (.slice none 0 0) := by simp [World.cell?, x]
  have y1 : w5.cell? ⟨R, 1, none⟩ = some (.int .i64 0) := by simp [World.cell?, x]
  refine ⟨?_, World.cell?_setCell_same _ _ _ ((World.cell?_setCell_other _ _ _ _ (by simp)).trans y1), ?_, ?_⟩
  · rw [World.cell?_setCell_other _ _ _ _ (by simp)]
    exact World.cell?_setCell_same _ _ _ y0
  · exact FnAtLo.low (by omega) (hF.keep ((Keeps.setCell _ _ _ _ _ (by omega)).trans (Keeps.setCell _ _ _ _ _ (by omega))))
  · exact (hB.setCell (p := ⟨R, 0, none⟩) (by show w.heap.size ≤ R; omega) _).setCell (p := ⟨R, 1, none⟩) (by show w.heap.size ≤ R; omega) _

set_option maxRecDepth 100000 in
set_option maxHeartbeats 16000000 in
theorem drawSuccs_any (a : Option Addr) (len cap : Nat) (zs : List Int) (w : World) (hr : IsRow .u8 w a len cap zs) :
    Calls Try.prog 9 #[.slice a len cap] w fun e w' => GivesAt w e w' := by
  have HR : Hid (IsRow .u8 w a len cap zs) := hr
  clear hr
  go_enter Try.func9, Try.ntmps9
  go_wp2_with fail
  obtain ⟨wA, hwA⟩ : ∃ W, w.alloc (.cells #[.slice none 0 0, .int .i64 0] 26) = W := ⟨_, rfl⟩
  have bA : Below w.heap.size w wA := by rw [← hwA]; exact Bel.alloc _ _
  have xA : wA.heap[w.heap.size]? = some (.cells #[.slice none 0 0, .int .i64 0] 26 (0, 0)) := by rw [← hwA]; exact World.alloc_heap_new _ _
  have sA : wA.heap.size = w.heap.size + 1 := by rw [← hwA]; simp
  try rw [hwA]
  clear hwA
  obtain ⟨R, hR⟩ : ∃ x, w.heap.size = x := ⟨_, rfl⟩
  rw [hR] at xA sA ⊢
  refine (drawAt_any a len cap zs _ (HR.out.keep (p := w.heap.size) (fun x e c => Nat.ne_of_lt (HR.out.lt x e c)) (Fr.ofBelow bA))).mono ?_
  rintro e w2 ⟨v, F, b, rfl, hF, hn0, hn9, hb0, hb1, b2⟩
  obtain ⟨n, hn⟩ : ∃ n, F.blocks.length = n := ⟨_, rfl⟩
  have HN : Hid (F.blocks.length = n) := hn
  obtain ⟨ba, bcap, vals, rfl⟩ := hF.out hn
  rw [hn] at hn0 hn9 hb1
  rw [sA] at hF
  have X2 : w2.heap[R]? = some (.cells #[.slice none 0 0, .int .i64 0] 26 (0, 0)) := (b2.block _ (by omega)).trans xA
  have B2 : Below w.heap.size w w2 := bA.trans (b2.mono (by omega))
  obtain ⟨w3, hw3⟩ : ∃ W, w2.alloc (.cells #[.slice ba n bcap, .int .i64 vals] 26) = W := ⟨_, rfl⟩
  have b3 : Below w2.heap.size w2 w3 := by rw [← hw3]; exact Bel.alloc _ _
  have x3 : w3.heap[w2.heap.size]? = some (.cells #[.slice ba n bcap, .int .i64 vals] 26 (0, 0)) := by rw [← hw3]; exact World.alloc_heap_new _ _
  have hR2 : R < w2.heap.size := (Array.getElem?_eq_some_iff.1 X2).1
  have HF3 : Hid (FnAtLo (R + 1) w3 (.agg #[.slice ba n bcap, .int .i64 vals]) F) := hF.keep (Keeps.of_below b3 _)
  have x3R : w3.heap[R]? = some (.cells #[.slice none 0 0, .int .i64 0] 26 (0, 0)) := (b3.block _ hR2).trans X2
  have X3 : Hid (w3.heap[R]? = some (.cells #[.slice none 0 0, .int .i64 0] 26 (0, 0))) := x3R
  have B3 : Hid (Below w.heap.size w w3) := B2.trans (b3.mono (by omega))
  have c30 : w3.cell? ⟨w2.heap.size, 0, none⟩ = some (.slice ba n bcap) := by simp [World.cell?, x3]
  have c31 : w3.cell? ⟨w2.heap.size, 1, none⟩ = some (.int .i64 vals) := by simp [World.cell?, x3]
  have y0 : w3.cell? ⟨R, 0, none⟩ = some (.slice none 0 0) := by simp [World.cell?, x3R]
  have y1 : w3.cell? ⟨R, 1, none⟩ = some (.int .i64 0) := by simp [World.cell?, x3R]
  have u0 : w3.frozen? ⟨R, 0, none⟩ = false := by simp [World.frozen?, x3R]
  have u1 : w3.frozen? ⟨R, 1, none⟩ = false := by simp [World.frozen?, x3R]
  clear hn hF b2 X2 B2 x3 x3R bA xA
  go_wp2_with fail
  try rw [hw3]
  clear hw3
  obtain ⟨r0, r1, hF4, hB4⟩ := box_end hR.symm X3.out HF3.out B3.out
  go_wp2_with fail
  refine bodyPost_ret (v := .tuple #[.agg #[.slice ba n bcap, .int .i64 vals], .int .i64 b]) (by simp [results, Try.results9, go_sem, r0, r1]) rfl ?_
  exact ⟨_, F, b, rfl, hF4, by rw [HN.out]; exact hn0, by rw [HN.out]; exact hn9, hb0, by rw [HN.out]; exact hb1, hB4⟩

set_option maxRecDepth 100000 in
set_option maxHeartbeats 16000000 in
theorem drawPreds_any (a : Option Addr) (len cap : Nat) (zs : List Int) (w : World) (hr : IsRow .u8 w a len cap zs) :
    Calls Try.prog 15 #[.slice a len cap] w fun e w' => GivesAt w e w' := by
  have HR : Hid (IsRow .u8 w a len cap zs) := hr
  clear hr
  go_enter Try.func15, Try.ntmps15
  go_wp2_with fail
  obtain ⟨wA, hwA⟩ : ∃ W, w.alloc (.cells #[.slice none 0 0, .int .i64 0] 26) = W := ⟨_, rfl⟩
  have bA : Below w.heap.size w wA := by rw [← hwA]; exact Bel.alloc _ _
  have xA : wA.heap[w.heap.size]? = some (.cells #[.slice none 0 0, .int .i64 0] 26 (0, 0)) := by rw [← hwA]; exact World.alloc_heap_new _ _
  have sA : wA.heap.size = w.heap.size + 1 := by rw [← hwA]; simp
  try rw [hwA]
  clear hwA
  obtain ⟨R, hR⟩ : ∃ x, w.heap.size = x := ⟨_, rfl⟩
  rw [hR] at xA sA ⊢
  refine (drawAt_any a len cap zs _ (HR.out.keep (p := w.heap.size) (fun x e c => Nat.ne_of_lt (HR.out.lt x e c)) (Fr.ofBelow bA))).mono ?_
  rintro e w2 ⟨v, F, b, rfl, hF, hn0, hn9, hb0, hb1, b2⟩
  obtain ⟨n, hn⟩ : ∃ n, F.blocks.length = n := ⟨_, rfl⟩
  have HN : Hid (F.blocks.length = n) := hn
  obtain ⟨ba, bcap, vals, rfl⟩ := hF.out hn
  rw [hn] at hn0 hn9 hb1
  rw [sA] at hF
  have X2 : w2.heap[R]? = some (.cells #[.slice none 0 0, .int .i64 0] 26 (0, 0)) := (b2.block _ (by omega)).trans xA
  have B2 : Below w.heap.size w w2 := bA.trans (b2.mono (by omega))
  obtain ⟨w3, hw3⟩ : ∃ W, w2.alloc (.cells #[.slice ba n bcap, .int .i64 vals] 26) = W := ⟨_, rfl⟩
  have b3 : Below w2.heap.size w2 w3 := by rw [← hw3]; exact Bel.alloc _ _
  have x3 : w3.heap[w2.heap.size]? = some (.cells #[.slice ba n bcap, .int .i64 vals] 26 (0, 0)) := by rw [← hw3]; exact World.alloc_heap_new _ _
  have hR2 : R < w2.heap.size := (Array.getElem?_eq_some_iff.1 X2).1
  have HF3 : Hid (FnAtLo (R + 1) w3 (.agg #[.slice ba n bcap, .int .i64 vals]) F) := hF.keep (Keeps.of_below b3 _)
  have x3R : w3.heap[R]? = some (.cells #[.slice none 0 0, .int .i64 0] 26 (0, 0)) := (b3.block _ hR2).trans X2
  have X3 : Hid (w3.heap[R]? = some (.cells #[.slice none 0 0, .int .i64 0] 26 (0, 0))) := x3R
  have B3 : Hid (Below w.heap.size w w3) := B2.trans (b3.mono (by omega))
  have c30 : w3.cell? ⟨w2.heap.size, 0, none⟩ = some (.slice ba n bcap) := by simp [World.cell?, x3]
  have c31 : w3.cell? ⟨w2.heap.size, 1, none⟩ = some (.int .i64 vals) := by simp [World.cell?, x3]
  have y0 : w3.cell? ⟨R, 0, none⟩ = some (.slice none 0 0) := by simp [World.cell?, x3R]
  have y1 : w3.cell? ⟨R, 1, none⟩ = some (.int .i64 0) := by simp [World.cell?, x3R]
  have u0 : w3.frozen? ⟨R, 0, none⟩ = false := by simp [World.frozen?, x3R]
  have u1 : w3.frozen? ⟨R, 1, none⟩ = false := by simp [World.frozen?, x3R]
  clear hn hF b2 X2 B2 x3 x3R bA xA
  go_wp2_with fail
  try rw [hw3]
  clear hw3
  obtain ⟨r0, r1, hF4, hB4⟩ := box_end hR.symm X3.out HF3.out B3.out
  go_wp2_with fail
  refine bodyPost_ret (v := .tuple #[.agg #[.slice ba n bcap, .int .i64 vals], .int .i64 b]) (by simp [results, Try.results15, go_sem, r0, r1]) rfl ?_
  exact ⟨_, F, b, rfl, hF4, by rw [HN.out]; exact hn0, by rw [HN.out]; exact hn9, hb0, by rw [HN.out]; exact hb1, hB4⟩



set_option maxRecDepth 100000 in
set_option maxHeartbeats 16000000 in
theorem drawDoms_any (a : Option Addr) (len cap : Nat) (zs : List Int) (w : World) (hr : IsRow .u8 w a len cap zs) :
    Calls Try.prog 23 #[.slice a len cap] w fun e w' => GivesOne w e w' := by
  have HR : Hid (IsRow .u8 w a len cap zs) := hr
  clear hr
  go_enter Try.func23, Try.ntmps23
  go_wp2_with fail
  obtain ⟨wA, hwA⟩ : ∃ W, w.alloc (.cells #[.slice none 0 0, .int .i64 0] 26) = W := ⟨_, rfl⟩
  have bA : Below w.heap.size w wA := by rw [← hwA]; exact Bel.alloc _ _
  have xA : wA.heap[w.heap.size]? = some (.cells #[.slice none 0 0, .int .i64 0] 26 (0, 0)) := by rw [← hwA]; exact World.alloc_heap_new _ _
  have sA : wA.heap.size = w.heap.size + 1 := by rw [← hwA]; simp
  try rw [hwA]
  clear hwA
  obtain ⟨R, hR⟩ : ∃ x, w.heap.size = x := ⟨_, rfl⟩
  rw [hR] at xA sA ⊢
  refine (new_any a len cap zs _ (HR.out.keep (p := w.heap.size) (fun x e c => Nat.ne_of_lt (HR.out.lt x e c)) (Fr.ofBelow bA))).mono ?_
  rintro e w1 ⟨rfl, b1, hc1, _⟩
  rw [sA] at b1 hc1 ⊢
  have x1 : w1.heap[R]? = some (.cells #[.slice none 0 0, .int .i64 0] 26 (0, 0)) := (b1.block _ (by omega)).trans xA
  have X1 : Hid (w1.heap[R]? = some (.cells #[.slice none 0 0, .int .i64 0] 26 (0, 0))) := x1
  have B1 : Hid (Below w.heap.size w w1) := bA.trans (b1.mono (by omega))
  have C1 : Hid (Cur w1 (R + 1)) := hc1
  clear b1 hc1 x1 xA bA
  go_wp2_with fail
  refine (draw_any (R + 1) _ C1.out).mono ?_
  rintro e w2 ⟨v, F, rfl, hF, hn0, hn9, b2, _⟩
  obtain ⟨n, hn⟩ : ∃ n, F.blocks.length = n := ⟨_, rfl⟩
  have HN : Hid (F.blocks.length = n) := hn
  obtain ⟨ba, bcap, vals, rfl⟩ := hF.out hn
  rw [hn] at hn0 hn9
  have x2 : w2.heap[R]? = some (.cells #[.slice none 0 0, .int .i64 0] 26 (0, 0)) := (b2.block _ (by omega)).trans X1.out
  have B2 : Below w.heap.size w w2 := B1.out.trans (b2.mono (by omega))
  have y0 : w2.cell? ⟨R, 0, none⟩ = some (.slice none 0 0) := by simp [World.cell?, x2]
  have y1 : w2.cell? ⟨R, 1, none⟩ = some (.int .i64 0) := by simp [World.cell?, x2]
  have u0 : w2.frozen? ⟨R, 0, none⟩ = false := by simp [World.frozen?, x2]
  have u1 : w2.frozen? ⟨R, 1, none⟩ = false := by simp [World.frozen?, x2]
  obtain ⟨r0, r1, hF6, hB6⟩ := box_end hR.symm x2 (FnAtLo.low (by omega) hF) B2
  have HF6 : Hid (FnAtLo w.heap.size ((w2.setCell ⟨R, 0, none⟩ (.slice ba n bcap)).setCell ⟨R, 1, none⟩ (.int .i64 vals)) (.agg #[.slice ba n bcap, .int .i64 vals]) F) := hF6
  have HB6 : Hid (Below w.heap.size w ((w2.setCell ⟨R, 0, none⟩ (.slice ba n bcap)).setCell ⟨R, 1, none⟩ (.int .i64 vals))) := hB6
  clear hF6 hB6 hF x2 B2 b2 hn
  go_wp2_with fail
  refine bodyPost_ret (v := .agg #[.slice ba n bcap, .int .i64 vals]) (by simp [results, Try.results23, go_sem, r0, r1]) rfl ?_
  exact ⟨_, F, rfl, HF6.out, by rw [HN.out]; exact hn0, by rw [HN.out]; exact hn9, HB6.out⟩

end Go.Proofs.Ytlmkipmkanhcfaa

namespace Go.Proofs.Ytlmkipmkanhcfaa
open Go.ChangeShapes Go.WideShapes Go.ChangeAt Go.RowKit
set_option linter.unusedVariables false

/-- Numbers stay numbers, lists stay, nothing else turns: blocks from lo up to hi alone, nothing new. -/
structure Turns (lo hi : Nat) (w w' : World) : Prop where
  bel : Below lo w w'
  size : w'.heap.size = w.heap.size
  above : ∀ k, hi ≤ k → w'.heap[k]? = w.heap[k]?
  num : ∀ p z, w.cell? p = some (.int .i64 z) → ∃ z', w'.cell? p = some (.int .i64 z')
  list : ∀ p a n c, w.cell? p = some (.slice a n c) → w'.cell? p = some (.slice a n c)
  fz : FZ w w'

theorem Turns.refl (lo hi : Nat) (w : World) : Turns lo hi w w := ⟨Below.refl _ _, rfl, fun _ _ => rfl, fun _ z h => ⟨z, h⟩, fun _ _ _ _ h => h, FZ.refl _⟩
theorem Turns.trans {lo hi : Nat} {a b c : World} (h : Turns lo hi a b) (k : Turns lo hi b c) : Turns lo hi a c :=
  ⟨h.bel.trans k.bel, k.size.trans h.size, fun i hi' => (k.above i hi').trans (h.above i hi'), fun p z hz => by obtain ⟨z', hz'⟩ := h.num p z hz; exact k.num p z' hz', fun p x n y hl => k.list p x n y (h.list p x n y hl), h.fz.trans k.fz⟩
/-- A number is put where one was. -/
theorem Turns.put {lo hi : Nat} {a w : World} (h : Turns lo hi a w) {b o : Nat} {z : Int} (hc : w.cell? ⟨b, o, none⟩ = some (.int .i64 z)) (h1 : lo ≤ b) (h2 : b < hi) (x : Int) : Turns lo hi a (w.setCell ⟨b, o, none⟩ (.int .i64 x)) := by
  refine h.trans ⟨(Below.refl lo w).setCell (p := ⟨b, o, none⟩) h1 _, by simp [World.setCell], fun k hk => Below.heap_setCell _ _ _ _ (by show k ≠ b; omega), fun p z' hz => ?_, fun p a' n c hl => ?_, (FZ.refl w).put _ _⟩
  · by_cases e : p = ⟨b, o, none⟩
    · subst e
      exact ⟨x, World.cell?_setCell_same _ _ _ hc⟩
    · exact ⟨z', by rw [World.cell?_setCell_other _ _ _ _ (fun e' => e e'.symm)]; exact hz⟩
  · by_cases e : p = ⟨b, o, none⟩
    · subst e
      rw [hc] at hl
      cases hl
    · rw [World.cell?_setCell_other _ _ _ _ (fun e' => e e'.symm)]
      exact hl

/-- A list that can be marked: its elements, of k cells each, lie in one block from lo up to hi. -/
def MarkAt (lo hi k : Nat) (E : World → Nat → Nat → Prop) (w : World) (v : Value) (n : Nat) : Prop :=
  ∃ (a : Option Addr) (cap : Nat), v = .slice a n cap ∧ (0 < n → ∃ b off, a = some ⟨b, off, none⟩ ∧ lo ≤ b ∧ b < hi ∧ ∀ i, i < n → E w b (off + i * k))

theorem MarkAt.keep {lo hi k : Nat} {E : World → Nat → Nat → Prop} {w w' : World} {v : Value} {n : Nat} (h : MarkAt lo hi k E w v n) (hE : ∀ b o, E w b o → E w' b o) : MarkAt lo hi k E w' v n := by
  obtain ⟨a, cap, rfl, hc⟩ := h
  refine ⟨a, cap, rfl, fun hp => ?_⟩
  obtain ⟨b, off, rfl, h1, h2, hd⟩ := hc hp
  exact ⟨b, off, rfl, h1, h2, fun i hi => hE _ _ (hd i hi)⟩

def NumAt (w : World) (b o : Nat) : Prop := ∃ z, w.cell? ⟨b, o, none⟩ = some (.int .i64 z)
theorem NumAt.turn {lo hi : Nat} {w w' : World} (h : Turns lo hi w w') {b o : Nat} (hn : NumAt w b o) : NumAt w' b o := by
  obtain ⟨z, hz⟩ := hn
  exact h.num _ z hz
def ArmM (w : World) (b o : Nat) : Prop := NumAt w b o ∧ NumAt w b (o + 1)
def InsM (w : World) (b o : Nat) : Prop := NumAt w b o ∧ NumAt w b (o + 1) ∧ NumAt w b (o + 2) ∧ NumAt w b (o + 3) ∧ NumAt w b (o + 4)
def PhiM (lo hi : Nat) (w : World) (b o : Nat) : Prop := NumAt w b o ∧ ∃ v n, n ≤ 1048576 ∧ w.cell? ⟨b, o + 1, none⟩ = some v ∧ MarkAt lo hi 2 ArmM w v n
def BlockM (lo hi : Nat) (w : World) (b o : Nat) : Prop :=
  ∃ pv pn lv ln, pn ≤ 1048576 ∧ ln ≤ 1048576 ∧ w.cell? ⟨b, o, none⟩ = some pv ∧ w.cell? ⟨b, o + 1, none⟩ = some lv ∧ NumAt w b (o + 2) ∧ NumAt w b (o + 3) ∧ NumAt w b (o + 4) ∧ NumAt w b (o + 5) ∧
    MarkAt lo hi 2 (PhiM lo hi) w pv pn ∧ MarkAt lo hi 5 InsM w lv ln

theorem MarkAt.isSlice {lo hi k : Nat} {E : World → Nat → Nat → Prop} {w : World} {v : Value} {n : Nat} (h : MarkAt lo hi k E w v n) : ∃ a cap, v = .slice a n cap := by
  obtain ⟨a, cap, rfl, _⟩ := h
  exact ⟨a, cap, rfl⟩
theorem ArmM.turn {lo hi : Nat} {w w' : World} (h : Turns lo hi w w') {b o : Nat} (hn : ArmM w b o) : ArmM w' b o := ⟨hn.1.turn h, hn.2.turn h⟩
theorem InsM.turn {lo hi : Nat} {w w' : World} (h : Turns lo hi w w') {b o : Nat} (hn : InsM w b o) : InsM w' b o := ⟨hn.1.turn h, hn.2.1.turn h, hn.2.2.1.turn h, hn.2.2.2.1.turn h, hn.2.2.2.2.turn h⟩
theorem PhiM.turn {lo hi : Nat} {w w' : World} (h : Turns lo hi w w') {b o : Nat} (hn : PhiM lo hi w b o) : PhiM lo hi w' b o := by
  obtain ⟨h1, v, n, hn2, hv, hm⟩ := hn
  obtain ⟨a, cap, rfl⟩ := hm.isSlice
  exact ⟨h1.turn h, _, n, hn2, h.list _ _ _ _ hv, hm.keep fun _ _ hx => hx.turn h⟩
theorem BlockM.turn {lo hi : Nat} {w w' : World} (h : Turns lo hi w w') {b o : Nat} (hn : BlockM lo hi w b o) : BlockM lo hi w' b o := by
  obtain ⟨pv, pn, lv, ln, s1, s2, c0, c1, n2, n3, n4, n5, m1, m2⟩ := hn
  obtain ⟨a, cap, rfl⟩ := m1.isSlice
  obtain ⟨a2, cap2, rfl⟩ := m2.isSlice
  exact ⟨_, pn, _, ln, s1, s2, h.list _ _ _ _ c0, h.list _ _ _ _ c1, n2.turn h, n3.turn h, n4.turn h, n5.turn h, m1.keep fun _ _ hx => hx.turn h, m2.keep fun _ _ hx => hx.turn h⟩

/-! ### What was copied can be marked -/
theorem ListAt.markAt {α : Type} {lo k : Nat} {E : World → Nat → Nat → α → Prop} {M : World → Nat → Nat → Prop} {w : World} {v : Value} {l : List α} (h : ListAt lo k E w v l) (hb : ∀ b o x, E w b o x → b < w.heap.size) (hE : ∀ b o x, x ∈ l → E w b o x → M w b o) : MarkAt lo w.heap.size k M w v l.length := by
  obtain ⟨a, cap, rfl, hm, hc⟩ := h
  refine ⟨a, cap, rfl, fun hp => ?_⟩
  obtain ⟨b, off, rfl, h1, hd⟩ := hc hp
  refine ⟨b, off, rfl, h1, hb b _ _ (hd 0 _ (List.getElem?_eq_getElem hp)), fun i hi => hE _ _ _ (List.getElem_mem hi) (hd i _ (List.getElem?_eq_getElem hi))⟩
theorem ArmAt.lt {w : World} {b o : Nat} {x : ArmD} (h : ArmAt w b o x) : b < w.heap.size := World.block_lt_of_cell? w _ h.1
theorem InsAt.lt {w : World} {b o : Nat} {x : InsD} (h : InsAt w b o x) : b < w.heap.size := World.block_lt_of_cell? w _ h.1
theorem PhiAt.lt {lo : Nat} {w : World} {b o : Nat} {x : PhiD} (h : PhiAt lo w b o x) : b < w.heap.size := World.block_lt_of_cell? w _ h.1
theorem BlockAt.lt {lo : Nat} {w : World} {b o : Nat} {x : BlockD} (h : BlockAt lo w b o x) : b < w.heap.size := by
  obtain ⟨_, _, h1, _⟩ := h
  exact World.block_lt_of_cell? w _ h1
theorem ArmAt.m {w : World} {b o : Nat} {x : ArmD} (h : ArmAt w b o x) : ArmM w b o := ⟨⟨_, h.1⟩, ⟨_, h.2⟩⟩
theorem InsAt.m {w : World} {b o : Nat} {x : InsD} (h : InsAt w b o x) : InsM w b o := ⟨⟨_, h.1⟩, ⟨_, h.2.1⟩, ⟨_, h.2.2.1⟩, ⟨_, h.2.2.2.1⟩, ⟨_, h.2.2.2.2⟩⟩
theorem PhiAt.m {lo : Nat} {w : World} {b o : Nat} {x : PhiD} (h : PhiAt lo w b o x) (hs : PhiSmall x) : PhiM lo w.heap.size w b o := by
  obtain ⟨h1, v, h2, h3⟩ := h
  exact ⟨⟨_, h1⟩, v, _, hs, h2, h3.markAt (fun _ _ _ hx => hx.lt) (fun _ _ _ _ hx => hx.m)⟩
theorem BlockAt.m {lo : Nat} {w : World} {b o : Nat} {x : BlockD} (h : BlockAt lo w b o x) (hs : BlockSmall x) : BlockM lo w.heap.size w b o := by
  obtain ⟨pv, lv, h1, h2, h3, h4, h5, h6, h7, h8⟩ := h
  exact ⟨pv, _, lv, _, hs.1, hs.2.1, h1, h2, ⟨_, h3⟩, ⟨_, h4⟩, ⟨_, h5⟩, ⟨_, h6⟩, h7.markAt (fun _ _ _ hx => hx.lt) (fun _ _ x hm hx => hx.m (hs.2.2 x hm)), h8.markAt (fun _ _ _ hx => hx.lt) (fun _ _ _ _ hx => hx.m)⟩
/-- A program that can be marked. -/
def FnM (lo hi : Nat) (w : World) (v : Value) (n : Nat) (vals : Int) : Prop := ∃ bv, v = .agg #[bv, .int .i64 vals] ∧ MarkAt lo hi 6 (BlockM lo hi) w bv n
theorem FnAtLo.m {lo : Nat} {w : World} {v : Value} {F : FnD} (h : FnAtLo lo w v F) (hs : FnSmall F) : FnM lo w.heap.size w v F.blocks.length F.values := by
  obtain ⟨bv, rfl, hb⟩ := h
  exact ⟨bv, rfl, hb.markAt (fun _ _ _ hx => hx.lt) (fun _ _ x hm hx => hx.m (hs.2 x hm))⟩

/-! ### And still can, when the world has grown -/
theorem NumAt.later {w w' : World} (h : Below w.heap.size w w') {b o : Nat} (hn : NumAt w b o) : NumAt w' b o := by
  obtain ⟨z, hz⟩ := hn
  exact ⟨z, Bel.keeps h hz⟩
theorem ArmM.later {w w' : World} (h : Below w.heap.size w w') {b o : Nat} (hn : ArmM w b o) : ArmM w' b o := ⟨hn.1.later h, hn.2.later h⟩
theorem InsM.later {w w' : World} (h : Below w.heap.size w w') {b o : Nat} (hn : InsM w b o) : InsM w' b o := ⟨hn.1.later h, hn.2.1.later h, hn.2.2.1.later h, hn.2.2.2.1.later h, hn.2.2.2.2.later h⟩
theorem PhiM.later {lo hi : Nat} {w w' : World} (h : Below w.heap.size w w') {b o : Nat} (hn : PhiM lo hi w b o) : PhiM lo hi w' b o := by
  obtain ⟨h1, v, n, hn2, hv, hm⟩ := hn
  exact ⟨h1.later h, _, n, hn2, Bel.keeps h hv, hm.keep fun _ _ hx => hx.later h⟩
theorem BlockM.later {lo hi : Nat} {w w' : World} (h : Below w.heap.size w w') {b o : Nat} (hn : BlockM lo hi w b o) : BlockM lo hi w' b o := by
  obtain ⟨pv, pn, lv, ln, s1, s2, c0, c1, n2, n3, n4, n5, m1, m2⟩ := hn
  exact ⟨_, pn, _, ln, s1, s2, Bel.keeps h c0, Bel.keeps h c1, n2.later h, n3.later h, n4.later h, n5.later h, m1.keep fun _ _ hx => hx.later h, m2.keep fun _ _ hx => hx.later h⟩
theorem FnM.later {lo hi : Nat} {w w' : World} {v : Value} {n : Nat} {vals : Int} (hn : FnM lo hi w v n vals) (h : Below w.heap.size w w') : FnM lo hi w' v n vals := by
  obtain ⟨bv, rfl, hb⟩ := hn
  exact ⟨bv, rfl, hb.keep fun _ _ hx => hx.later h⟩
end Go.Proofs.Ytlmkipmkanhcfaa

namespace Go.Proofs.Ytlmkipmkanhcfaa
open Go.ChangeShapes Go.WideShapes Go.ChangeAt Go.RowKit
set_option linter.unusedVariables false

/-- Nothing there is frozen. -/
def Thaw (lo hi : Nat) (w : World) : Prop := ∀ p : Addr, lo ≤ p.block → p.block < hi → w.frozen? p = false
theorem Thaw.turn {lo hi : Nat} {w w' : World} (h : Thaw lo hi w) (t : Turns lo hi w w') : Thaw lo hi w' := fun p h1 h2 => (t.fz p).trans (h p h1 h2)
/-- So many marks at most were put. -/
def GivesMark (lo hi : Nat) (q c : Int) (w : World) (e : Ending) (w' : World) : Prop := ∃ z, e = .returned (.int .i64 z) ∧ q ≤ z ∧ z ≤ q + c ∧ Turns lo hi w w'

/-- A program was marked: what lies below lo and from hi on is as it was. -/
structure Marked (lo hi : Nat) (w w' : World) : Prop where
  bel : Below lo w w'
  above : ∀ k, hi ≤ k → k < w.heap.size → w'.heap[k]? = w.heap[k]?

end Go.Proofs.Ytlmkipmkanhcfaa

namespace Go.Proofs.Ytlmkipmkanhcfaa
open Go.ChangeShapes Go.WideShapes Go.ChangeAt Go.RowKit
set_option linter.unusedVariables false

theorem ownsRow_marked {w w' : World} {lo hi b e s : Nat} {v : Value} {k : Nat} {xs : List Value} (h : w.ownsRow b e s v k xs) (m : Marked lo hi w w') (hv : ∀ g, v.ownBlock = some g → g < lo ∨ hi ≤ g) : w'.ownsRow b e s v k xs := by
  obtain ⟨h0, h1⟩ := h
  refine ⟨h0, ?_⟩
  rcases h1 with h1 | ⟨g, cap, cur, rfl, hlo, hg, h2⟩
  · exact .inl h1
  · refine .inr ⟨g, cap, cur, rfl, hlo, ?_, h2⟩
    rcases hv g rfl with h3 | h3
    · exact (m.bel.block g h3).trans hg
    · exact (m.above g h3 (Array.getElem?_eq_some_iff.1 hg).1).trans hg
theorem OwnInts.marked {w w' : World} {lo hi b : Nat} {v : Value} {l : List Int} (h : OwnInts w b v l) (m : Marked lo hi w w') (hv : ∀ g, v.ownBlock = some g → g < lo ∨ hi ≤ g) : OwnInts w' b v l := ownsRow_marked h m hv
theorem OwnInts.lt {w : World} {b : Nat} {v : Value} {l : List Int} (h : OwnInts w b v l) : ∀ g, v.ownBlock = some g → b ≤ g ∧ g < w.heap.size := World.ownsRow.lt h
end Go.Proofs.Ytlmkipmkanhcfaa

namespace Go.Proofs.Ytlmkipmkanhcfaa
open Go.ChangeShapes Go.WideShapes Go.ChangeAt Go.RowKit
set_option linter.unusedVariables false

/-- A slice that reads as the numbers l. -/
def BoolsAt (w : World) (v : Value) (l : List Bool) : Prop :=
  ∃ (a : Option Addr) (cap : Nat), v = .slice a l.length cap ∧ l.length ≤ 9223372036854775807 ∧ (0 < l.length → ∃ b off, a = some ⟨b, off, none⟩ ∧ ∀ i, i < l.length → w.cell? ⟨b, off + i, none⟩ = some (.bool (l.getD i false)))

theorem BoolsAt.keep {w w' : World} {v : Value} {l : List Bool} (h : BoolsAt w v l) (hb : Below w.heap.size w w') : BoolsAt w' v l := by
  obtain ⟨a, cap, rfl, hm, hc⟩ := h
  refine ⟨a, cap, rfl, hm, fun hp => ?_⟩
  obtain ⟨b, off, rfl, hd⟩ := hc hp
  exact ⟨b, off, rfl, fun i hi => Bel.keeps hb (hd i hi)⟩

theorem take_nextB {l : List Bool} {k : Nat} (hl : k < l.length) : l.take (k + 1) = l.take k ++ [l.getD k false] := by
  rw [List.take_add_one]
  simp [hl]

/-- Two lists of one length whose first k are alike. -/
theorem lists_stepB {l m : List Bool} {k : Nat} (hl : k < l.length) (hm : k < m.length) (h : l.take k = m.take k) (e : l.getD k false = m.getD k false) : l.take (k + 1) = m.take (k + 1) := by
  rw [take_nextB hl, take_nextB hm, h, e]

theorem lists_differB {l m : List Bool} {k : Nat} (e : ¬ l.getD k false = m.getD k false) : decide (l = m) = false := by
  simp only [decide_eq_false_iff_not]
  rintro rfl
  exact e rfl

theorem lists_endB {l m : List Bool} {k : Nat} (hl : l.length = k) (hm : m.length = k) (h : l.take k = m.take k) : decide (l = m) = true := by
  simp only [decide_eq_true_eq]
  rw [List.take_of_length_le (by omega), List.take_of_length_le (by omega)] at h
  exact h

/-- The marks from k on. -/
def bmark (z : Int) : Bool := (z % 3 == 0)
def bmarks (k : Int) (n : Nat) : List Bool := (List.range n).map (fun (i : Nat) => bmark (k + (i : Int)))
theorem bmarks_len (k : Int) (n : Nat) : (bmarks k n).length = n := by simp [bmarks]
theorem bmarks_at (k : Int) (n i : Nat) (h : i < n) : (bmarks k n).getD i false = bmark (k + (i : Int)) := by simp [bmarks, List.getD, h]

/-- A list of numbers in memory of the call's own, in blocks from lo on. -/
def OwnBools (w : World) (lo : Nat) (v : Value) (l : List Bool) : Prop := w.ownsRow lo 4 1 v l.length (l.map (fun x => Value.bool x))

theorem OwnBools.small {w : World} {lo : Nat} {v : Value} {l : List Bool} (h : OwnBools w lo v l) : l.length ≤ maxLen := by
  rcases h.2 with ⟨_, h0⟩ | ⟨g, cap, cur, _, _, _, h1, h2, _⟩
  · rw [h0]; exact Nat.zero_le _
  · omega

/-- What it is, cell by cell. -/
theorem OwnBools.row {w : World} {lo : Nat} {v : Value} {l : List Bool} (h : OwnBools w lo v l) :
    ∃ a cap, v = .slice a l.length cap ∧ (0 < l.length → ∃ g, a = some ⟨g, 0, none⟩ ∧ lo ≤ g ∧ g < w.heap.size ∧ (∀ i, i < l.length → w.cell? ⟨g, i, none⟩ = some (.bool (l.getD i false))) ∧ ∀ i, w.frozen? ⟨g, i, none⟩ = false) := by
  rcases h.2 with ⟨rfl, h0⟩ | ⟨g, cap, cur, rfl, hlo, hg, h1, h2, h3, h4⟩
  · exact ⟨none, 0, by rw [h0], fun hp => absurd hp (by omega)⟩
  · refine ⟨_, cap, rfl, fun hp => ⟨g, rfl, hlo, (Array.getElem?_eq_some_iff.1 hg).1, fun i hi => ?_, fun i => ?_⟩⟩
    · have hs : i < cur.size := by omega
      have e : cur[i]? = some (.bool (l.getD i false)) := by
        have e1 : (cur.toList.take (l.length * 1))[i]? = cur[i]? := by rw [List.getElem?_take]; simp [hi]
        rw [← e1, h4, List.getElem?_map]
        simp [List.getD, hi]
      simp [World.cell?, hg, e]
    · simp [World.frozen?, hg]

theorem OwnBools.at {w : World} {lo : Nat} {v : Value} {l : List Bool} (h : OwnBools w lo v l) : BoolsAt w v l := by
  have hs := h.small
  obtain ⟨a, cap, rfl, hc⟩ := h.row
  refine ⟨a, cap, rfl, by have : maxLen ≤ 9223372036854775807 := by decide
                          omega, fun hp => ?_⟩
  obtain ⟨g, rfl, _, _, hd, _⟩ := hc hp
  exact ⟨g, 0, rfl, fun i hi => by simpa using hd i hi⟩

theorem ownsRow_laterB {w w' : World} {lo : Nat} {e : TypeId} {s : Nat} {v : Value} {k : Nat} {xs : List Value} (h : w.ownsRow lo e s v k xs) (hb : Below w.heap.size w w') : w'.ownsRow lo e s v k xs := by
  obtain ⟨h0, h1⟩ := h
  refine ⟨h0, ?_⟩
  rcases h1 with h1 | ⟨g, cap, cur, rfl, hlo, hg, h2⟩
  · exact .inl h1
  · exact .inr ⟨g, cap, cur, rfl, hlo, (hb.block g (Array.getElem?_eq_some_iff.1 hg).1).trans hg, h2⟩
theorem OwnBools.keep {w w' : World} {lo : Nat} {v : Value} {l : List Bool} (h : OwnBools w lo v l) (hb : Below w.heap.size w w') : OwnBools w' lo v l := ownsRow_laterB h hb
theorem ownsRow_lowB {w : World} {lo lo' : Nat} {e : TypeId} {s : Nat} {v : Value} {k : Nat} {xs : List Value} (h : w.ownsRow lo e s v k xs) (hl : lo' ≤ lo) : w.ownsRow lo' e s v k xs := by
  obtain ⟨h0, h1⟩ := h
  refine ⟨h0, ?_⟩
  rcases h1 with h1 | ⟨g, cap, cur, rfl, hlo, h2⟩
  · exact .inl h1
  · exact .inr ⟨g, cap, cur, rfl, Nat.le_trans hl hlo, h2⟩
theorem OwnBools.low {w : World} {lo lo' : Nat} {v : Value} {l : List Bool} (h : OwnBools w lo v l) (hl : lo' ≤ lo) : OwnBools w lo' v l := ownsRow_lowB h hl
/-- What was made below lo stays when what lies from lo on turns. -/
theorem BoolsAt.under {w w' : World} {v : Value} {l : List Bool} (h : BoolsAt w v l) {lo : Nat} (hb : Below lo w w') (hv : ∀ a, v.ownBlock = some a → a < lo) : BoolsAt w' v l := by
  obtain ⟨a, cap, rfl, hm, hc⟩ := h
  refine ⟨a, cap, rfl, hm, fun hp => ?_⟩
  obtain ⟨b, off, rfl, hd⟩ := hc hp
  exact ⟨b, off, rfl, fun i hi => by rw [hb.cell (p := ⟨b, off + i, none⟩) (hv b rfl)]; exact hd i hi⟩

/-- A list of numbers is given, in new memory. -/
def GivesOwnB (w : World) (l : List Bool) (e : Ending) (w' : World) : Prop := ∃ v, e = .returned v ∧ OwnBools w' w.heap.size v l ∧ Below w.heap.size w w'

/-- An empty list that was laid. -/
theorem ownBools_new (w : World) : OwnBools (w.alloc (.cells #[] 4)) w.heap.size (.slice (some ⟨w.heap.size, 0, none⟩) 0 0) [] :=
  ⟨rfl, .inr ⟨w.heap.size, 0, #[], rfl, Nat.le_refl _, World.alloc_heap_new w _, Nat.le_refl _, Nat.zero_le _, rfl, rfl⟩⟩

theorem OwnBools.marked {w w' : World} {lo hi b : Nat} {v : Value} {l : List Bool} (h : OwnBools w b v l) (m : Marked lo hi w w') (hv : ∀ g, v.ownBlock = some g → g < lo ∨ hi ≤ g) : OwnBools w' b v l := ownsRow_marked h m hv
theorem OwnBools.lt {w : World} {b : Nat} {v : Value} {l : List Bool} (h : OwnBools w b v l) : ∀ g, v.ownBlock = some g → b ≤ g ∧ g < w.heap.size := World.ownsRow.lt h
end Go.Proofs.Ytlmkipmkanhcfaa

namespace Go.Proofs.Ytlmkipmkanhcfaa
open Go.ChangeShapes Go.WideShapes Go.ChangeAt Go.RowKit Go.Shelf
set_option linter.unusedVariables false

theorem SeenRow.own {w : World} {g n lo : Nat} {S : List Nat} (h : SeenRow w g n S) (hlo : lo ≤ g) (hn : n ≤ 100) : OwnBools w lo (.slice (some ⟨g, 0, none⟩) n n) ((List.range n).map (fun i => decide (i ∈ S))) := by
  refine ⟨by simp, .inr ⟨g, n, seenCells n S, by simp, hlo, h, by simp, Nat.le_trans hn (by decide), by simp [seenCells], ?_⟩⟩
  simp [seenCells]
  rw [List.take_of_length_le (by simp)]
  simp

/-- What was told of a list of blocks is what was come to. -/
theorem order_mem {F : FnD} (h : FnShape F) (x : Nat) : x ∈ (((wayOf F).2.reverse).map Int.toNat).reverse ↔ x ∈ (wayOf F).1 := by
  rw [wayOf_same, List.mem_reverse, List.mem_map]
  constructor
  · rintro ⟨y, hy, rfl⟩
    rw [List.mem_reverse] at hy
    have := ((wayOf_len h).2.2 y hy).1
    rw [Int.toNat_of_nonneg this]
    exact hy
  · intro hx
    exact ⟨(x : Int), by rw [List.mem_reverse]; exact hx, by simp⟩

theorem ownBools_nil {w : World} {g lo : Nat} (hg : w.heap.size = g) (hl : lo ≤ g) : OwnBools (w.alloc (.cells #[] 4)) lo (.slice (some ⟨g, 0, none⟩) 0 0) [] := by
  subst hg
  exact (ownBools_new w).low hl

set_option maxRecDepth 100000 in
set_option maxHeartbeats 4000000 in
theorem spec_reached (v : Value) (F : FnD) (w : World) (hF : FnAt w v F) :
    Calls Try.prog 21 #[v] w fun e w' => GivesOwnB w (reachedOf F) e w' := by
  have HF : Hid (FnAt w v F) := hF
  obtain ⟨n, HN⟩ : ∃ n, Hid (F.blocks.length = n) := ⟨_, rfl⟩
  obtain ⟨vals, HV⟩ : ∃ x, Hid (F.values = x) := ⟨_, rfl⟩
  obtain ⟨ba, bcap, rfl⟩ := hF.out HN.out HV.out
  clear hF
  go_enter Try.func21, Try.ntmps21
  go_wp2_with fail
  refine (spec_shapeOk _ F _ (HF.out.later (by repeat (first | exact Below.refl _ _ | apply Below.drew | refine Below.alloc ?_ (by simp <;> omega) _ | refine Below.setCell ?_ (by simp <;> omega) _)))).mono ?_
  rintro e w1 ⟨s1, rfl, hs1, b1⟩
  have S1 : Hid (s1 = true ↔ FnShape F) := hs1
  have B1 : Hid (Below w.heap.size w w1) := Bel.after (by repeat (first | exact Below.refl _ _ | apply Below.drew | refine Below.alloc ?_ (by simp <;> omega) _ | refine Below.setCell ?_ (by simp <;> omega) _)) b1
  have c0 : w1.cell? ⟨w.heap.size, 0, none⟩ = some (.slice ba n bcap) := Bel.keeps b1 (by simp [go_sem])
  have c1 : w1.cell? ⟨w.heap.size, 1, none⟩ = some (.int .i64 vals) := Bel.keeps b1 (by simp [go_sem])
  have hs01 : w.heap.size < w1.heap.size := by have h := b1.size; simp at h; omega
  clear b1 hs1
  cases s1 with
  | false =>
    have HE : Hid (reachedOf F = []) := reachedOf_no (fun h => by have := S1.out.2 h; cases this)
    go_wp2_with fail
    go_ret
    rw [HE.out]
    exact ⟨_, rfl, ownBools_nil rfl B1.out.size, Bel.after B1.out (by repeat (first | exact Below.refl _ _ | apply Below.drew | refine Below.alloc ?_ (by simp <;> omega) _ | refine Below.setCell ?_ (by simp <;> omega) _))⟩
  | true =>
    have hyes : Hid (FnShape F) := S1.out.1 rfl
    have HE : Hid (reachedOf F = reachedN F) := reachedOf_yes hyes.out
    have h16 : n ≤ 16 := by rw [← HN.out]; exact hyes.out.2.1
    have hmk := make_bools n (by omega) w1
    go_wp2_with fail
    obtain ⟨wB, hwB⟩ : ∃ wB, w1.alloc (.cells (madeCells #[.bool false] n) 4) = wB := ⟨_, rfl⟩
    have hsB : wB.heap.size = w1.heap.size + 1 := by rw [← hwB]; simp
    have BB : Hid (Below w1.heap.size w1 wB) := by rw [← hwB]; exact Bel.alloc _ _
    have SB : Hid (SeenRow wB w1.heap.size n []) := by rw [← hwB]; exact seen_new rfl
    try rw [hwB]
    clear hwB hmk
    refine (l3Order_any _ F _ (HF.out.later (Bel.after B1.out BB.out)) hyes.out).mono ?_
    rintro e w2 ⟨v2, rfl, o2, b2⟩
    obtain ⟨O, HOO⟩ : ∃ O, Hid ((wayOf F).2.reverse = O) := ⟨_, rfl⟩
    rw [HOO.out] at o2
    have HOI : Hid (∀ x ∈ O, 0 ≤ x ∧ x < (n : Int)) := by
      rw [← HOO.out, ← HN.out]
      exact fun x hx => (wayOf_len hyes.out).2.2 x (List.mem_reverse.1 hx)
    have OL : Hid (IntsAt w2 v2 O) := o2.at
    have OLT : Hid (∀ k, v2.ownBlock = some k → wB.heap.size ≤ k) := fun k hk => (World.ownsRow.lt o2 k hk).1
    have S2 : Hid (SeenRow w2 w1.heap.size n []) := SB.out.later b2
    have B2 : Hid (Below w1.heap.size w1 w2) := Bel.after BB.out b2
    obtain ⟨m, HM⟩ : ∃ m, Hid (O.length = m) := ⟨_, rfl⟩
    obtain ⟨la, lcap, hv2, hlm, _⟩ := OL.out
    rw [HM.out] at hv2 hlm
    subst hv2
    clear o2 b2 c0 c1
    go_wp2_with fail
    go_loopw [5] (fun i wr => ∃ k : Nat, k ≤ m ∧ i = .int .i64 (k : Int) ∧ SeenRow wr w1.heap.size n ((O.take k).map Int.toNat).reverse ∧ Below w1.heap.size w1 wr ∧ IntsAt wr (.slice la m lcap) O) (fun i _ => m - (intOf i).toNat)
    case atStart => exact ⟨0, Nat.zero_le _, rfl, S2.out, B2.out, OL.out⟩
    case round =>
      obtain ⟨k, hk, rfl, s3, b3, i3⟩ := hrel
      have S3 : Hid (SeenRow wr w1.heap.size n ((O.take k).map Int.toNat).reverse) := s3
      have B3 : Hid (Below w1.heap.size w1 wr) := b3
      have I3 : Hid (IntsAt wr (.slice la m lcap) O) := i3
      clear s3 b3 i3
      by_cases hlt : (k : Int) < (m : Int)
      · have hkm : k < O.length := by have := HM.out; omega
        obtain ⟨la', lcap', hla, _, hlc⟩ := I3.out
        obtain ⟨lb, loff, e0, hld⟩ := hlc (by omega)
        subst e0
        simp only [Value.slice.injEq] at hla
        obtain ⟨hla1, hla2, hla3⟩ := hla
        subst hla1 hla3
        clear hla2
        have q1 := hld k hkm
        obtain ⟨x, HX⟩ : ∃ x, Hid (O.getD k 0 = x) := ⟨_, rfl⟩
        rw [HX.out] at q1
        have hx := HOI.out x (by rw [← HX.out]; simp [List.getD, hkm])
        obtain ⟨xn, rfl⟩ : ∃ xn : Nat, x = (xn : Int) := ⟨x.toNat, by omega⟩
        have hxn : xn < n := by omega
        have hxi : (xn : Int) < (n : Int) := by omega
        have q2 := S3.out.cell hxn
        have q3 := S3.out.frozen xn
        have s4 : SeenRow (wr.setCell ⟨w1.heap.size, xn, none⟩ (.bool true)) w1.heap.size n ((O.take (k + 1)).map Int.toNat).reverse := by
          rw [take_next hkm, HX.out]
          have h := S3.out.put xn
          simpa using h
        have S4 : Hid (SeenRow (wr.setCell ⟨w1.heap.size, xn, none⟩ (.bool true)) w1.heap.size n ((O.take (k + 1)).map Int.toNat).reverse) := s4
        clear s4
        have hlb : lb ≠ w1.heap.size := by
          have h := OLT.out lb rfl
          omega
        have I4 : Hid (IntsAt (wr.setCell ⟨w1.heap.size, xn, none⟩ (.bool true)) (.slice (some ⟨lb, loff, none⟩) m lcap) O) := by
          refine IntsAt.apart (g := w1.heap.size) (ov := .slice none 0 0) I3.out ⟨by simp [World.setCell], fun j _ h1 _ => Below.heap_setCell _ _ _ j h1⟩ (fun j hj => ?_) (fun j _ => by simp [Value.ownBlock])
          obtain rfl : lb = j := by simpa [Value.ownBlock] using hj
          exact ⟨World.block_lt_of_cell? wr _ q1, hlb⟩
        clear hld hlc hx
        go_wp2_with fail
        go_roundw
        case rel => exact ⟨k + 1, by omega, by go_num, S4.out, B3.out.setCell (p := ⟨w1.heap.size, xn, none⟩) (Nat.le_refl _) _, I4.out⟩
        case measure => simp [intOf]; omega
      · have hkm : k = m := by omega
        subst hkm
        go_wp2_with fail
        go_ret
        rw [HE.out]
        refine ⟨_, rfl, ?_, Bel.after B1.out B3.out⟩
        have h := S3.out
        rw [← HM.out, List.take_length, ← HOO.out] at h
        have h2 := (h.congr (fun i _ => order_mem hyes.out i)).own B1.out.size (by omega)
        unfold reachedN
        rw [HN.out]
        exact h2

theorem WalkSt.aside {w w' : World} {P0 mb lo g : Nat} {x0 x1 : Value} {st : Way} {lv : Value} {n : Nat} {S : List Nat} (h : WalkSt w P0 mb lo x0 x1 st lv) (hs : SeenRow w g n S) (hg : w.grownBy w' (some g)) : WalkSt w' P0 mb lo x0 x1 st lv := by
  refine ⟨(hg.block P0 (Array.getElem?_eq_some_iff.1 h.box).1 (fun e => ?_)).trans h.box, ?_, World.ownsRow.kept h.left hg (.inr (hs.not_row h.left).symm)⟩
  · obtain rfl : P0 = g := by simpa using e
    have := h.box.symm.trans hs
    simp at this
  · obtain ⟨es, ck, e⟩ := h.seen.isMap
    refine h.seen.kept (hg.block mb (Array.getElem?_eq_some_iff.1 e).1 (fun e2 => ?_))
    obtain rfl : mb = g := by simpa using e2
    have := e.symm.trans hs
    simp at this

set_option maxRecDepth 100000 in
set_option maxHeartbeats 4000000 in
theorem impl_reached (v : Value) (F : FnD) (w : World) (hF : FnAt w v F) :
    Calls Try.prog 19 #[v] w fun e w' => GivesOwnB w (reachedOf F) e w' := by
  have HF : Hid (FnAt w v F) := hF
  obtain ⟨n, HN⟩ : ∃ n, Hid (F.blocks.length = n) := ⟨_, rfl⟩
  obtain ⟨vals, HV⟩ : ∃ x, Hid (F.values = x) := ⟨_, rfl⟩
  obtain ⟨ba, bcap, rfl⟩ := hF.out HN.out HV.out
  clear hF
  go_enter Try.func19, Try.ntmps19
  go_wp2_with fail
  refine (impl_shapeOk _ F _ (HF.out.later (by repeat (first | exact Below.refl _ _ | apply Below.drew | refine Below.alloc ?_ (by simp <;> omega) _ | refine Below.setCell ?_ (by simp <;> omega) _)))).mono ?_
  rintro e w1 ⟨s1, rfl, hs1, b1⟩
  have S1 : Hid (s1 = true ↔ FnShape F) := hs1
  have B1 : Hid (Below w.heap.size w w1) := Bel.after (by repeat (first | exact Below.refl _ _ | apply Below.drew | refine Below.alloc ?_ (by simp <;> omega) _ | refine Below.setCell ?_ (by simp <;> omega) _)) b1
  have c0 : w1.cell? ⟨w.heap.size, 0, none⟩ = some (.slice ba n bcap) := Bel.keeps b1 (by simp [go_sem])
  have c1 : w1.cell? ⟨w.heap.size, 1, none⟩ = some (.int .i64 vals) := Bel.keeps b1 (by simp [go_sem])
  have hs01 : w.heap.size < w1.heap.size := by have h := b1.size; simp at h; omega
  clear b1 hs1
  cases s1 with
  | false =>
    have HE : Hid (reachedOf F = []) := reachedOf_no (fun h => by have := S1.out.2 h; cases this)
    go_wp2_with fail
    go_ret
    rw [HE.out]
    exact ⟨_, rfl, ownBools_nil rfl B1.out.size, Bel.after B1.out (by repeat (first | exact Below.refl _ _ | apply Below.drew | refine Below.alloc ?_ (by simp <;> omega) _ | refine Below.setCell ?_ (by simp <;> omega) _))⟩
  | true =>
    have hyes : Hid (FnShape F) := S1.out.1 rfl
    have HE : Hid (reachedOf F = reachedN F) := reachedOf_yes hyes.out
    have h16 : n ≤ 16 := by rw [← HN.out]; exact hyes.out.2.1
    go_wp2_with fail
    refine (walkAll_any F ba n bcap vals _ (HF.out.later B1.out) hyes.out HN.out).mono ?_
    rintro e w2 ⟨P0, mb, lv, rfl, hP, hm, hne, ws, b2⟩
    have WS : Hid (WalkSt w2 P0 mb w1.heap.size (.slice ba n bcap) (.int .i64 vals) (wayOf F) lv) := ws
    have B2 : Hid (Below w1.heap.size w1 w2) := b2
    have hs12 : w1.heap.size ≤ w2.heap.size := b2.size
    replace c0 := Bel.keeps b2 c0
    replace c1 := Bel.keeps b2 c1
    have hmk := make_bools n (by omega) w2
    clear ws b2
    go_wp2_with fail
    obtain ⟨wB, hwB⟩ : ∃ wB, w2.alloc (.cells (madeCells #[.bool false] n) 4) = wB := ⟨_, rfl⟩
    have BB : Hid (Below w2.heap.size w2 wB) := by rw [← hwB]; exact Bel.alloc _ _
    have SB : Hid (SeenRow wB w2.heap.size n []) := by rw [← hwB]; exact seen_new rfl
    have WB : Hid (WalkSt wB P0 mb w1.heap.size (.slice ba n bcap) (.int .i64 vals) (wayOf F) lv) := WS.out.later BB.out
    try rw [hwB]
    clear hwB hmk c0 c1
    go_loopw [18] (fun i wr => ∃ k : Nat, k ≤ n ∧ i = .int .i64 (k : Int) ∧ SeenRow wr w2.heap.size n ((List.range k).filter (fun x => decide (x ∈ (wayOf F).1))) ∧ Below w2.heap.size w2 wr ∧ WalkSt wr P0 mb w1.heap.size (.slice ba n bcap) (.int .i64 vals) (wayOf F) lv) (fun i _ => n - (intOf i).toNat)
    case atStart => exact ⟨0, Nat.zero_le _, rfl, SB.out, BB.out, WB.out⟩
    case round =>
      obtain ⟨k, hk, rfl, s3, b3, ws3⟩ := hrel
      have S3 : Hid (SeenRow wr w2.heap.size n ((List.range k).filter (fun x => decide (x ∈ (wayOf F).1)))) := s3
      have B3 : Hid (Below w2.heap.size w2 wr) := b3
      have W3 : Hid (WalkSt wr P0 mb w1.heap.size (.slice ba n bcap) (.int .i64 vals) (wayOf F) lv) := ws3
      clear s3 b3 ws3
      by_cases hlt : (k : Int) < (n : Int)
      · go_wp2_with fail
        refine (has_any P0 mb w1.heap.size _ _ (wayOf F) lv k _ W3.out (by omega)).mono ?_
        rintro e w4 ⟨rfl, b4⟩
        have S4 : Hid (SeenRow w4 w2.heap.size n ((List.range k).filter (fun x => decide (x ∈ (wayOf F).1)))) := S3.out.later b4
        have B4 : Hid (Below w2.heap.size w2 w4) := B3.out.trans (b4.mono B3.out.size)
        have W4 : Hid (WalkSt w4 P0 mb w1.heap.size (.slice ba n bcap) (.int .i64 vals) (wayOf F) lv) := W3.out.later b4
        obtain ⟨bb, HBB⟩ : ∃ bb, Hid (decide (k ∈ (wayOf F).1) = bb) := ⟨_, rfl⟩
        rw [HBB.out]
        have hkn : k < n := by omega
        have q2 := S4.out.cell hkn
        have q3 := S4.out.frozen k
        have s5 : SeenRow (w4.setCell ⟨w2.heap.size, k, none⟩ (.bool bb)) w2.heap.size n ((List.range (k + 1)).filter (fun x => decide (x ∈ (wayOf F).1))) := by
          refine S4.out.store k bb (fun i hi => ?_)
          rw [← HBB.out, List.range_succ]
          by_cases e : i = k
          · subst e
            simp
          · have e2 : ¬ i = k := e
            simp [e2]
        have S5 : Hid (SeenRow (w4.setCell ⟨w2.heap.size, k, none⟩ (.bool bb)) w2.heap.size n ((List.range (k + 1)).filter (fun x => decide (x ∈ (wayOf F).1)))) := s5
        have W5 : Hid (WalkSt (w4.setCell ⟨w2.heap.size, k, none⟩ (.bool bb)) P0 mb w1.heap.size (.slice ba n bcap) (.int .i64 vals) (wayOf F) lv) := W4.out.aside S4.out (grown_set _ _ _ _)
        clear b4 s5
        go_wp2_with fail
        go_roundw
        case rel => exact ⟨k + 1, by omega, by go_num, S5.out, B4.out.setCell (p := ⟨w2.heap.size, k, none⟩) (Nat.le_refl _) _, W5.out⟩
        case measure => simp [intOf]; omega
      · have hkm : k = n := by omega
        subst hkm
        go_wp2_with fail
        go_ret
        rw [HE.out]
        refine ⟨_, rfl, ?_, Bel.after B1.out (Bel.after B2.out B3.out)⟩
        have h2 := (S3.out.congr (b := (wayOf F).1) (fun i hi => by simp [hi])).own (Nat.le_trans B1.out.size hs12) (by omega)
        unfold reachedN
        rw [HN.out]
        exact h2
end Go.Proofs.Ytlmkipmkanhcfaa

namespace Go.Proofs.Ytlmkipmkanhcfaa
set_option linter.unusedVariables false

theorem mem_predsUp {F : FnD} {b x : Int} {k : Nat} : x ∈ predsUp F b k ↔ ∃ p : Nat, p < k ∧ b ∈ succsN F p ∧ (p : Int) = x := by
  simp [predsUp, and_assoc]
theorem graph_next {F : FnD} {b s : Int} (h : s ∈ succsOf F b) : b ∈ predsOf F s := by
  by_cases hp : FnShape F ∧ 0 ≤ b ∧ b < F.blocks.length
  · obtain ⟨hS, h0, h1⟩ := hp
    rw [succsOf_yes hS h0 h1] at h
    have hs := succs_in hS _ s h
    rw [predsOf_yes hS hs.1 hs.2]
    exact mem_predsUp.2 ⟨b.toNat, by omega, h, by omega⟩
  · rw [succsOf_no hp] at h
    cases h
theorem graph_prev {F : FnD} {c p : Int} (h : p ∈ predsOf F c) : c ∈ succsOf F p := by
  by_cases hp : FnShape F ∧ 0 ≤ c ∧ c < F.blocks.length
  · obtain ⟨hS, h0, h1⟩ := hp
    rw [predsOf_yes hS h0 h1] at h
    obtain ⟨q, hq, hm, rfl⟩ := mem_predsUp.1 h
    rw [succsOf_yes hS (by omega) (by omega)]
    simpa using hm
  · rw [predsOf_no hp] at h
    cases h
theorem predsUp_up (F : FnD) (b : Int) (k : Nat) : (predsUp F b k).Pairwise (· < ·) := by
  unfold predsUp
  rw [List.pairwise_map]
  refine (List.pairwise_lt_range.filter _).imp ?_
  intro a b h
  omega
theorem predsOf_up (F : FnD) (b : Int) : (predsOf F b).Pairwise (· < ·) := by
  unfold predsOf
  split
  · exact predsUp_up _ _ _
  · exact List.Pairwise.nil
theorem up_at {l : List Int} (h : l.Pairwise (· < ·)) {i : Nat} (h0 : 0 < i) (h1 : i < l.length) : l.getD (i - 1) 0 < l.getD i 0 := by
  have := List.pairwise_iff_getElem.1 h (i - 1) i (by omega) h1 (by omega)
  simpa [List.getD, h1, show i - 1 < l.length by omega] using this
theorem lawGetD_mem {l : List Int} {i : Nat} (h : i < l.length) : l.getD i 0 ∈ l := by
  have : l.getD i 0 = l[i] := by simp [List.getD, h]
  rw [this]
  exact List.getElem_mem h

theorem succsOf_two (F : FnD) (b : Int) : (succsOf F b).length ≤ 2 := by
  unfold succsOf
  split
  · exact succsN_small _ _
  · simp

/-! ### The order -/

/-- What is left behind is left once. -/
theorem leave_once {S : Nat → List Int} : ∀ (f b : Nat) (st : Way), b ∉ st.1 → st.2.Nodup → (∀ x ∈ st.2, 0 ≤ x ∧ x.toNat ∈ st.1) →
    (leave S f b st).2.Nodup ∧ (∀ x ∈ (leave S f b st).2, 0 ≤ x ∧ x.toNat ∈ (leave S f b st).1) ∧ (∀ x ∈ (leave S f b st).2, x ∈ st.2 ∨ x.toNat ∉ st.1)
  | 0, _, st, _, h1, h2 => ⟨h1, h2, fun x hx => .inl hx⟩
  | f + 1, b, st, hb, h1, h2 => by
    have hf : ∀ (l : List Int) (s0 : Way), (∀ x ∈ b :: st.1, x ∈ s0.1) → s0.2.Nodup → (∀ x ∈ s0.2, 0 ≤ x ∧ x.toNat ∈ s0.1) → (∀ x ∈ s0.2, x ∈ st.2 ∨ x.toNat ∉ b :: st.1) →
        (l.foldl (stepW (leave S f)) s0).2.Nodup ∧ (∀ x ∈ (l.foldl (stepW (leave S f)) s0).2, 0 ≤ x ∧ x.toNat ∈ (l.foldl (stepW (leave S f)) s0).1) ∧ (∀ x ∈ (l.foldl (stepW (leave S f)) s0).2, x ∈ st.2 ∨ x.toNat ∉ b :: st.1) := by
      intro l
      induction l with
      | nil => exact fun s0 _ a1 a2 a3 => ⟨a1, a2, a3⟩
      | cons y l ih =>
        intro s0 hsub a1 a2 a3
        by_cases hin : y.toNat ∈ s0.1
        · have e : (y :: l).foldl (stepW (leave S f)) s0 = l.foldl (stepW (leave S f)) s0 := by rw [List.foldl_cons, stepW_in hin]
          rw [e]
          exact ih s0 hsub a1 a2 a3
        · have e : (y :: l).foldl (stepW (leave S f)) s0 = l.foldl (stepW (leave S f)) (leave S f y.toNat s0) := by rw [List.foldl_cons, stepW_out hin]
          rw [e]
          obtain ⟨c1, c2, c3⟩ := leave_once f y.toNat s0 hin a1 a2
          refine ih _ (fun x hx => leave_sub S f _ _ x (hsub x hx)) c1 c2 (fun x hx => ?_)
          rcases c3 x hx with h | h
          · exact a3 x h
          · exact .inr (fun hm => h (hsub _ hm))
    obtain ⟨k1, k2, k3⟩ := hf (S b) (b :: st.1, st.2) (fun x hx => hx) h1 (fun x hx => ⟨(h2 x hx).1, List.mem_cons_of_mem _ (h2 x hx).2⟩) (fun x hx => .inl hx)
    have hsub : ∀ x ∈ b :: st.1, x ∈ (midW S f b st (S b)).1 := mid_sub S f b st (S b)
    rw [leave_eq]
    refine ⟨?_, fun x hx => ?_, fun x hx => ?_⟩
    · refine List.nodup_append.2 ⟨k1, by simp, ?_⟩
      intro x hx y hy
      simp at hy
      subst hy
      rintro rfl
      rcases k3 _ hx with h | h
      · exact hb (by simpa using (h2 _ h).2)
      · exact h (by simp)
    · rcases List.mem_append.1 hx with hx | hx
      · exact k2 x hx
      · simp at hx
        subst hx
        exact ⟨by omega, by simpa using hsub b (by simp)⟩
    · rcases List.mem_append.1 hx with hx | hx
      · rcases k3 x hx with h | h
        · exact .inl h
        · exact .inr (fun hm => h (List.mem_cons_of_mem _ hm))
      · simp at hx
        subst hx
        exact .inr (by simpa using hb)
theorem way_once (F : FnD) : (wayOf F).2.Nodup ∧ ∀ x ∈ (wayOf F).2, 0 ≤ x := by
  obtain ⟨h1, h2, _⟩ := leave_once (S := succsN F) F.blocks.length 0 ([], []) (by simp) List.nodup_nil (by simp)
  exact ⟨h1, fun x hx => (h2 x hx).1⟩
/-- The first of the order. -/
theorem order_first {F : FnD} (h : FnShape F) : (orderOf F).getD 0 0 = 0 ∧ 0 < (orderOf F).length := by
  rw [orderOf_yes h]
  obtain ⟨n, hn⟩ : ∃ n, F.blocks.length = n + 1 := ⟨F.blocks.length - 1, by have := h.1; omega⟩
  unfold wayOf
  rw [hn, leave_eq]
  simp
/-- Whether a block is reached, by its number. -/
noncomputable def reaB (F : FnD) (b : Nat) : Bool := decide (b ∈ (wayOf F).1)
theorem reaB_iff {F : FnD} {b : Nat} : reaB F b = true ↔ b ∈ (wayOf F).1 := by simp [reaB]
theorem reached_at {F : FnD} (h : FnShape F) {b : Nat} (hb : b < F.blocks.length) : (reachedOf F).getD b false = reaB F b := by
  rw [reachedOf_yes h]
  simp [reachedN, List.getD, hb, reaB]
theorem reached_len {F : FnD} (h : FnShape F) : (reachedOf F).length = F.blocks.length := by
  rw [reachedOf_yes h]
  simp [reachedN]
theorem orderB_mem {F : FnD} (h : FnShape F) (b : Nat) : decide ((b : Int) ∈ orderOf F) = reaB F b := by
  rw [orderOf_yes h]
  unfold reaB
  refine decide_eq_decide.2 ?_
  rw [List.mem_reverse]
  exact (wayOf_same F b).symm
/-- How many of the first k are reached. -/
noncomputable def reaUp (F : FnD) (k : Nat) : Nat := ((List.range k).filter (reaB F)).length
theorem reaUp_zero (F : FnD) : reaUp F 0 = 0 := rfl
theorem reaUp_yes {F : FnD} {k : Nat} (h : reaB F k = true) : reaUp F (k + 1) = reaUp F k + 1 := by simp [reaUp, List.range_succ, h]
theorem reaUp_not {F : FnD} {k : Nat} (h : reaB F k = false) : reaUp F (k + 1) = reaUp F k := by simp [reaUp, List.range_succ, h]
theorem reaUp_le (F : FnD) (k : Nat) : reaUp F k ≤ k := by
  unfold reaUp
  exact Nat.le_trans (List.length_filter_le _ _) (by simp)
theorem order_count {F : FnD} (h : FnShape F) : reaUp F F.blocks.length = (orderOf F).length := by
  rw [orderOf_yes h, List.length_reverse]
  obtain ⟨h1, h2⟩ := way_once F
  have hp : (((List.range F.blocks.length).filter (reaB F)).map (fun (x : Nat) => (x : Int))).Perm (wayOf F).2 := by
    refine (List.perm_ext_iff_of_nodup ?_ h1).2 (fun x => ?_)
    · unfold List.Nodup
      rw [List.pairwise_map]
      refine (List.pairwise_lt_range.filter _).imp ?_
      intro a b hab
      omega
    · simp only [List.mem_map, List.mem_filter, List.mem_range]
      constructor
      · rintro ⟨y, ⟨_, hy⟩, rfl⟩
        exact (wayOf_same F y).1 (reaB_iff.1 hy)
      · intro hx
        have hx0 := h2 x hx
        have e : ((x.toNat : Nat) : Int) = x := by omega
        have hin : x.toNat ∈ (wayOf F).1 := (wayOf_same F _).2 (by rw [e]; exact hx)
        exact ⟨x.toNat, ⟨way_lt h hin, reaB_iff.2 hin⟩, e⟩
  have := hp.length_eq
  rw [List.length_map] at this
  exact this
/-- Who follows one that is reached is. -/
theorem reached_next {F : FnD} (h : FnShape F) {b : Nat} (hb : b < F.blocks.length) (hr : reaB F b = true) {s : Int} (hs : s ∈ succsOf F b) : 0 ≤ s ∧ s < F.blocks.length ∧ reaB F s.toNat = true := by
  rw [succsOf_yes h (by omega) (by omega)] at hs
  have h1 := succs_in h _ s hs
  refine ⟨h1.1, h1.2, reaB_iff.2 (way_step h (reaB_iff.1 hr) ?_)⟩
  have e : ((s.toNat : Nat) : Int) = s := by omega
  rw [e]
  simpa using hs

/-! ### Who comes first -/

theorem domsN_mem {F : FnD} (h : FnShape F) {a b : Nat} : decide ((a : Int) ∈ domsN F b) = domB F a b := by
  unfold domB
  refine decide_eq_decide.2 ?_
  unfold domsN domsUp
  simp only [List.mem_map, List.mem_filter, List.mem_range]
  constructor
  · rintro ⟨x, ⟨_, hx⟩, e⟩
    obtain rfl : x = a := by omega
    exact domB_iff.1 hx
  · intro hd
    exact ⟨a, ⟨(dom_lt h hd).1, domB_iff.2 hd⟩, rfl⟩
theorem doms_none {F : FnD} {b : Nat} (h : reaB F b = false) : domsN F b = [] := by
  unfold domsN domsUp
  rw [List.map_eq_nil_iff, List.filter_eq_nil_iff]
  intro a _ hd
  have := reaB_iff.2 (domB_iff.1 hd).2.1
  rw [h] at this
  cases this
/-- Of those that come ahead all that are reached are dominated. -/
noncomputable def allB (F : FnD) (a b : Nat) (k : Nat) : Bool := decide (b ≠ 0) && ((predsOf F b).take k).all (fun p => !reaB F p.toNat || domB F a p.toNat)
theorem allB_zero (F : FnD) (a b : Nat) : allB F a b 0 = decide (b ≠ 0) := by simp [allB]
theorem allB_next {F : FnD} {a b k : Nat} (hk : k < (predsOf F b).length) : allB F a b (k + 1) = (allB F a b k && (!reaB F ((predsOf F b).getD k 0).toNat || domB F a ((predsOf F b).getD k 0).toNat)) := by
  unfold allB
  rw [take_next hk]
  simp only [List.all_append, List.all_cons, List.all_nil, Bool.and_true, Bool.and_assoc]
theorem preds_in {F : FnD} {b p : Int} (h : p ∈ predsOf F b) : 0 ≤ p ∧ p < F.blocks.length := by
  by_cases hp : FnShape F ∧ 0 ≤ b ∧ b < F.blocks.length
  · rw [predsOf_yes hp.1 hp.2.1 hp.2.2] at h
    obtain ⟨q, hq, _, rfl⟩ := mem_predsUp.1 h
    omega
  · rw [predsOf_no hp] at h
    cases h
theorem doms_law {F : FnD} (h : FnShape F) {a b : Nat} (hb : b < F.blocks.length) (hrb : reaB F b = true) (hra : reaB F a = true) : (allB F a b (predsOf F b).length || decide (a = b)) = domB F a b := by
  have hpm : ∀ p : Int, p ∈ predsOf F b ↔ 0 ≤ p ∧ p < F.blocks.length ∧ (b : Int) ∈ succsN F p.toNat := by
    intro p
    rw [predsOf_yes h (by omega) (by omega)]
    unfold predsN
    rw [mem_predsUp]
    constructor
    · rintro ⟨q, hq, hm, rfl⟩
      exact ⟨by omega, by omega, by simpa using hm⟩
    · rintro ⟨h0, h1, h2⟩
      exact ⟨p.toNat, by omega, h2, by omega⟩
  apply Bool.eq_iff_iff.2
  rw [domB_iff]
  unfold allB
  rw [List.take_length]
  simp only [Bool.or_eq_true, Bool.and_eq_true, decide_eq_true_eq, List.all_eq_true, Bool.not_eq_true']
  constructor
  · rintro (⟨hne, hall⟩ | rfl)
    · refine ⟨reaB_iff.1 hra, reaB_iff.1 hrb, fun e => ?_⟩
      cases e with
      | base _ => exact hne rfl
      | @step x _ h1 h2 h3 =>
        have hx : x ∈ (wayOf F).1 := (way_rea h x).2 (h1.mono (by simp))
        have hxl := way_lt h hx
        rcases hall (x : Int) ((hpm _).2 ⟨by omega, by omega, by simpa using h2⟩) with hh | hh
        · rw [Int.toNat_natCast, reaB_iff.2 hx] at hh
          cases hh
        · rw [Int.toNat_natCast] at hh
          exact (domB_iff.1 hh).2.2 h1
    · exact dom_refl (reaB_iff.1 hrb)
  · intro hd
    by_cases e : a = b
    · exact .inr e
    · refine .inl ⟨fun e0 => ?_, fun p hp => ?_⟩
      · subst e0
        exact hd.2.2 (.base (fun e2 => e e2.symm))
      · cases hr : reaB F p.toNat with
        | false => exact .inl rfl
        | true =>
          refine .inr (domB_iff.2 ⟨reaB_iff.1 hra, reaB_iff.1 hr, fun er => ?_⟩)
          exact hd.2.2 (.step er ((hpm p).1 hp).2.2 (fun e2 => e e2.symm))
end Go.Proofs.Ytlmkipmkanhcfaa

namespace Go.Proofs.Ytlmkipmkanhcfaa
open Go.ChangeShapes Go.WideShapes Go.ChangeAt Go.RowKit Go.Shelf
set_option linter.unusedVariables false

/-- For each block the list of those that dominate it. -/
def DomsAt (w : World) (g n : Nat) (F : FnD) : Prop := ∀ i, i < n → ∃ a cap, w.cell? ⟨g, i, none⟩ = some (.slice a (domsN F i).length cap) ∧ IntsAt w (.slice a (domsN F i).length cap) (domsN F i)
theorem DomsAt.keep {w w' : World} {g n : Nat} {F : FnD} (h : DomsAt w g n F) (hb : Below w.heap.size w w') : DomsAt w' g n F := fun i hi => by
  obtain ⟨a, cap, h1, h2⟩ := h i hi
  exact ⟨a, cap, Bel.keeps hb h1, h2.keep hb⟩
theorem OwnLists.doms {w : World} {lo : Nat} {v : Value} {F : FnD} (h : OwnLists w lo v (domsOf F)) : ∃ g, v = .slice (some ⟨g, 0, none⟩) (domsOf F).length (domsOf F).length ∧ (FnShape F → DomsAt w g F.blocks.length F) := by
  obtain ⟨g, us, rfl, hr⟩ := h
  refine ⟨g, rfl, fun hS i hi => ?_⟩
  have hl : (domsOf F).length = F.blocks.length := by rw [domsOf_yes hS]; simp
  have e : (domsOf F).getD i [] = domsN F i := by rw [domsOf_yes hS]; simp [List.getD, hi]
  have h1 := hr.cell (i := i) (by omega)
  have h2 := (hr.row i (by omega)).at
  rw [e] at h2
  obtain ⟨a, cap, h3, _⟩ := h2
  have h2' := (hr.row i (by omega)).at
  rw [e] at h2'
  rw [h3] at h1 h2'
  exact ⟨a, cap, h1, h2'⟩
theorem domsOf_len {F : FnD} (hS : FnShape F) : (domsOf F).length = F.blocks.length := by rw [domsOf_yes hS]; simp
end Go.Proofs.Ytlmkipmkanhcfaa

namespace Go.Proofs.Ytlmkipmkanhcfaa
open Go.ChangeShapes Go.WideShapes Go.ChangeAt Go.RowKit
set_option linter.unusedVariables false

theorem big_any (a : Option Addr) (len cap : Nat) (w : World) : Calls Try.prog 8 #[.slice a len cap] w fun e w' => ∃ b : Bool, e = .returned (.bool b) ∧ w' = w := by
  go_enter Try.func8, Try.ntmps8
  go_wp2
  go_ret
  exact ⟨_, rfl, rfl⟩

set_option maxHeartbeats 1000000 in
theorem within_any (v : Value) (l : List Int) (x : Int) (w : World) (hl : IntsAt w v l) :
    Calls Try.prog 13 #[v, .int .i64 x] w fun e w' => e = .returned (.bool (decide (x ∈ l))) ∧ w' = w := by
  obtain ⟨a, cap, rfl, hm, hc⟩ := hl
  obtain ⟨n, HN⟩ : ∃ n, Hid (l.length = n) := ⟨_, rfl⟩
  rw [HN.out] at hm hc ⊢
  have HC : Hid (0 < n → ∃ b off, a = some ⟨b, off, none⟩ ∧ ∀ i, i < n → w.cell? ⟨b, off + i, none⟩ = some (.int .i64 (l.getD i 0))) := hc
  clear hc
  go_enter Try.func13, Try.ntmps13
  go_wp2
  go_loop [5] (fun i => ∃ k : Nat, k ≤ n ∧ i = .int .i64 k ∧ ∀ j, j < k → l.getD j 0 ≠ x) (fun i => n - (intOf i).toNat)
  case atStart => exact ⟨0, Nat.zero_le _, rfl, fun j hj => absurd hj (by omega)⟩
  case round =>
    obtain ⟨k, hk, rfl, hd⟩ := hrel
    have HD : Hid (∀ j, j < k → l.getD j 0 ≠ x) := hd
    clear hd
    by_cases hlt2 : (k : Int) < (n : Int)
    · obtain ⟨b, off, rfl, hc1⟩ := HC.out (by omega)
      have q1 := hc1 k (by omega)
      clear hc1
      obtain ⟨y, HY⟩ : ∃ y, Hid (l.getD k 0 = y) := ⟨_, rfl⟩
      rw [HY.out] at q1
      by_cases hyx : y = x
      · subst hyx
        go_wp2
        go_ret
        have hkl : k < l.length := by have := HN.out; omega
        have e : l[k] = y := by have := HY.out; simpa [List.getD, hkl] using this
        have hmem : y ∈ l := by rw [← e]; exact List.getElem_mem hkl
        rw [decide_eq_true hmem]
        exact ⟨rfl, rfl⟩
      · have hb : (y == x) = false := by simp [hyx]
        go_wp2
        go_round
        case rel =>
          refine ⟨k + 1, by omega, by go_num, fun j hj => ?_⟩
          by_cases hjk : j = k
          · subst hjk
            rw [HY.out]
            exact hyx
          · exact HD.out j (by omega)
        case measure => simp [intOf]; omega
    · have hkn : k = n := by omega
      subst hkn
      go_wp2
      go_ret
      have hno : ¬ x ∈ l := fun hx => by
        obtain ⟨j, hj, e⟩ := List.getElem_of_mem hx
        exact HD.out j (by have := HN.out; omega) (by simp [List.getD, hj, e])
      rw [decide_eq_false hno]
      exact ⟨rfl, rfl⟩
end Go.Proofs.Ytlmkipmkanhcfaa

namespace Go.Proofs.Ytlmkipmkanhcfaa
open Go.ChangeShapes Go.WideShapes Go.ChangeAt Go.RowKit Go.Shelf
set_option linter.unusedVariables false

set_option maxHeartbeats 1000000 in
theorem spec_preds (v : Value) (F : FnD) (b : Int) (w : World) (hF : FnAt w v F) :
    Calls Try.prog 16 #[v, .int .i64 b] w fun e w' => GivesOwn w (predsOf F b) e w' := by
  have HF : Hid (FnAt w v F) := hF
  obtain ⟨n, HN⟩ : ∃ n, Hid (F.blocks.length = n) := ⟨_, rfl⟩
  obtain ⟨vals, HV⟩ : ∃ x, Hid (F.values = x) := ⟨_, rfl⟩
  obtain ⟨ba, bcap, rfl⟩ := hF.out HN.out HV.out
  clear hF
  go_enter Try.func16, Try.ntmps16
  go_wp2_with fail
  refine (l3Right_any _ F b _ (HF.out.later (by repeat (first | exact Below.refl _ _ | apply Below.drew | refine Below.alloc ?_ (by simp <;> omega) _ | refine Below.setCell ?_ (by simp <;> omega) _)))).mono ?_
  rintro e w1 ⟨s1, rfl, hs1, b1⟩
  have c0 : w1.cell? ⟨w.heap.size, 0, none⟩ = some (.slice ba n bcap) := Bel.keeps b1 (by simp [go_sem])
  have c1 : w1.cell? ⟨w.heap.size, 1, none⟩ = some (.int .i64 vals) := Bel.keeps b1 (by simp [go_sem])
  have hB1 : Below w.heap.size w w1 := Bel.after (by repeat (first | exact Below.refl _ _ | apply Below.drew | refine Below.alloc ?_ (by simp <;> omega) _ | refine Below.setCell ?_ (by simp <;> omega) _)) b1
  have S1 : Hid (s1 = true ↔ RightAt F b) := hs1
  clear b1 hs1
  cases s1 with
  | false =>
    have HE : Hid (predsOf F b = []) := predsOf_no (fun h => by have := S1.out.2 h; cases this)
    go_wp2_with fail
    go_ret
    rw [HE.out]
    exact ⟨_, rfl, ownInts_nil rfl hB1.size, Bel.after hB1 (by repeat (first | exact Below.refl _ _ | apply Below.drew | refine Below.alloc ?_ (by simp <;> omega) _ | refine Below.setCell ?_ (by simp <;> omega) _))⟩
  | true =>
    obtain ⟨h1, h2, h3⟩ := S1.out.1 rfl
    have HE : Hid (predsOf F b = predsN F b) := predsOf_yes h1 h2 h3
    have h16 : F.blocks.length ≤ 16 := h1.2.1
    have H16 : Hid (F.blocks.length ≤ 16) := h16
    clear S1 h1 h2 h3 h16
    go_wp2_with fail
    refine (l3Preds_any _ F b _ (HF.out.later hB1) H16.out).mono ?_
    rintro e w2 ⟨v2, rfl, o2, b2⟩
    go_wp2_with fail
    go_ret
    rw [HE.out]
    exact ⟨_, rfl, o2.low hB1.size, Bel.after hB1 b2⟩

set_option maxRecDepth 100000 in
set_option maxHeartbeats 4000000 in
theorem impl_preds (v : Value) (F : FnD) (b : Int) (w : World) (hF : FnAt w v F) :
    Calls Try.prog 14 #[v, .int .i64 b] w fun e w' => GivesOwn w (predsOf F b) e w' := by
  have HF : Hid (FnAt w v F) := hF
  obtain ⟨n, HN⟩ : ∃ n, Hid (F.blocks.length = n) := ⟨_, rfl⟩
  obtain ⟨vals, HV⟩ : ∃ x, Hid (F.values = x) := ⟨_, rfl⟩
  obtain ⟨ba, bcap, rfl⟩ := hF.out HN.out HV.out
  clear hF
  obtain ⟨i0, hi, hz0, hz1, hz2⟩ := info_parts info_int
  have hmx : 100 ≤ maxLen := by decide
  go_enter Try.func14, Try.ntmps14
  go_wp2_with fail
  refine (impl_shapeOk _ F _ (HF.out.later (by repeat (first | exact Below.refl _ _ | apply Below.drew | refine Below.alloc ?_ (by simp <;> omega) _ | refine Below.setCell ?_ (by simp <;> omega) _)))).mono ?_
  rintro e w1 ⟨s1, rfl, hs1, b1⟩
  have S1 : Hid (s1 = true ↔ FnShape F) := hs1
  have HB1 : Hid (Below w.heap.size w w1) := Bel.after (by repeat (first | exact Below.refl _ _ | apply Below.drew | refine Below.alloc ?_ (by simp <;> omega) _ | refine Below.setCell ?_ (by simp <;> omega) _)) b1
  have c0 : w1.cell? ⟨w.heap.size, 0, none⟩ = some (.slice ba n bcap) := Bel.keeps b1 (by simp [go_sem])
  have c1 : w1.cell? ⟨w.heap.size, 1, none⟩ = some (.int .i64 vals) := Bel.keeps b1 (by simp [go_sem])
  have HX1 : Hid (w1.heap[w.heap.size]? = some (.cells #[.slice ba n bcap, .int .i64 vals] 26 (0, 0))) := by
    refine (b1.block _ (by simp <;> omega)).trans ?_
    rw [Below.heap_alloc _ _ _ (by simp)]
    exact World.alloc_heap_new w _
  have O1 : Hid (OwnInts w1 w.heap.size (.slice (some ⟨w.heap.size + 1, 0, none⟩) 0 0) []) := OwnInts.keep (ownInts_nil (by simp) (by omega)) b1
  clear b1 hs1
  cases s1 with
  | false =>
    have HE : Hid (predsOf F b = []) := predsOf_no (fun h => by have := S1.out.2 h.1; cases this)
    go_wp2_with fail
    go_ret
    rw [HE.out]
    exact ⟨_, rfl, O1.out, HB1.out⟩
  | true =>
    have hyes : Hid (FnShape F) := S1.out.1 rfl
    have h16 : n ≤ 16 := by have := hyes.out.2.1; rw [HN.out] at this; exact this
    go_wp2_with fail
    refine (blockIn_any ba n bcap vals b _).mono ?_
    rintro e w2 ⟨rfl, b2⟩
    have HB2 : Hid (Below w.heap.size w w2) := Bel.after HB1.out b2
    have HX2 : Hid (w2.heap[w.heap.size]? = some (.cells #[.slice ba n bcap, .int .i64 vals] 26 (0, 0))) := (b2.block _ (Array.getElem?_eq_some_iff.1 HX1.out).1).trans HX1.out
    have O2 : Hid (OwnInts w2 w.heap.size (.slice (some ⟨w.heap.size + 1, 0, none⟩) 0 0) []) := O1.out.keep b2
    replace c0 := Bel.keeps b2 c0
    replace c1 := Bel.keeps b2 c1
    clear b2
    cases hv : valIn (n : Int) b with
    | false =>
      have hn2 : ¬ (0 ≤ b ∧ b < (n : Int)) := fun h => by rw [valIn_yes h.1 h.2] at hv; cases hv
      have HE : Hid (predsOf F b = []) := predsOf_no (fun h => hn2 ⟨h.2.1, by have := h.2.2; rw [HN.out] at this; exact this⟩)
      clear hn2
      go_wp2_with fail
      go_ret
      rw [HE.out]
      exact ⟨_, rfl, O2.out, HB2.out⟩
    | true =>
      obtain ⟨hb0, hb1⟩ := valIn_iff.1 hv
      have HE : Hid (predsOf F b = predsN F b) := predsOf_yes hyes.out hb0 (by rw [HN.out]; exact hb1)
      clear hv
      go_wp2_with fail
      go_loopw [5, 21] (fun s i wr => ∃ k : Nat, k ≤ n ∧ i = .int .i64 k ∧ OwnInts wr w.heap.size s (predsUp F b k) ∧ Below w.heap.size w wr ∧ wr.heap[w.heap.size]? = some (.cells #[.slice ba n bcap, .int .i64 vals] 26 (0, 0))) (fun _ i _ => n - (intOf i).toNat)
      case atStart => exact ⟨0, Nat.zero_le _, rfl, O2.out, HB2.out, HX2.out⟩
      case round =>
        obtain ⟨k, hk, rfl, ho, hB, hbx⟩ := hrel
        have c0 : wr.cell? ⟨w.heap.size, 0, none⟩ = some (.slice ba n bcap) := by simp [World.cell?, hbx]
        have c1 : wr.cell? ⟨w.heap.size, 1, none⟩ = some (.int .i64 vals) := by simp [World.cell?, hbx]
        have HO : Hid (OwnInts wr w.heap.size u5 (predsUp F b k)) := ho
        have HB : Hid (Below w.heap.size w wr) := hB
        have HX : Hid (wr.heap[w.heap.size]? = some (.cells #[.slice ba n bcap, .int .i64 vals] 26 (0, 0))) := hbx
        have hpl := predsUp_len F b k
        clear ho hB hbx
        by_cases hlt2 : (k : Int) < (n : Int)
        · obtain ⟨bb, off, x, rfl, hx, t0, t1, t2, t3⟩ := (HF.out.later HB.out).end (j := k) (by omega)
          have HS : Hid (succsN F k = succsT x.term) := succsN_at hx
          obtain ⟨xp, xl, xk, xa, xt, xe⟩ := x
          dsimp only at t0 t1 t2 t3
          clear hx
          go_wp2_with fail
          refine (goesTo_any xk xa xt xe b _).mono ?_
          rintro e w3 ⟨rfl, b3⟩
          have HO1 : Hid (OwnInts w3 w.heap.size u5 (predsUp F b k)) := HO.out.keep b3
          have HB3 : Hid (Below w.heap.size w w3) := Bel.after HB.out b3
          have HX3 : Hid (w3.heap[w.heap.size]? = some (.cells #[.slice (some ⟨bb, off, none⟩) n bcap, .int .i64 vals] 26 (0, 0))) := (b3.block _ (Array.getElem?_eq_some_iff.1 HX.out).1).trans HX.out
          clear b3 c0 c1 t0 t1 t2 t3
          have hse : succsV xk xt xe = succsN F k := HS.out.symm
          rw [hse]
          by_cases hin : b ∈ succsN F k
          · rw [decide_eq_true hin]
            go_wp2_with (at_builtin; refine wpList_append_own _ rfl _ _ 29 rfl w.heap.size 3 i0 (.int .i64 0) 1 8 Try.underlying29 hi hz0 hz1 hz2 rfl (by decide) _ _ _ rfl (World.ownsRow.alloc HO1.out _) ⟨w3.heap.size, 0, none⟩ 1 1 [.int .i64 (k : Int)] rfl rfl (cell_one_new _ _ _) (by simp [Value.oneCell']) (by omega) (by omega) (by have := HB3.out.size; simp; omega) ?_; intro v' wa hown' hgrow _; have HO' : Hid (OwnInts wa w.heap.size v' (predsUp F b k ++ [(k : Int)])) := OwnInts.next hown'; have HG : Hid (World.grownBy _ _ _) := hgrow; clear hown' hgrow)
            go_roundw
            case rel => exact ⟨k + 1, by omega, by go_num, by rw [predsUp_yes hin]; exact HO'.out, HB3.out.trans (HO1.out.grown HB3.out.size HG.out), (HG.out.block _ (by have := (Array.getElem?_eq_some_iff.1 HX3.out).1; simp; omega) (HO1.out.not_box HX3.out (by decide))).trans ((Below.heap_alloc _ _ _ (Array.getElem?_eq_some_iff.1 HX3.out).1).trans HX3.out)⟩
            case measure => simp [intOf]; omega
          · rw [decide_eq_false hin]
            go_wp2_with fail
            go_roundw
            case rel => exact ⟨k + 1, by omega, by go_num, by rw [predsUp_not hin]; exact HO1.out, HB3.out, HX3.out⟩
            case measure => simp [intOf]; omega
        · have hkn : k = n := by omega
          subst hkn
          go_wp2_with fail
          go_ret
          rw [HE.out]
          refine ⟨_, rfl, ?_, HB.out⟩
          unfold predsN
          rw [HN.out]
          exact HO.out
end Go.Proofs.Ytlmkipmkanhcfaa

namespace Go.Proofs.Ytlmkipmkanhcfaa.fnDoms
open Go.ChangeShapes Go.WideShapes Go.ChangeAt Go.RowKit
open Go.ChangeMaps (open_string shut_string)
set_option linter.unusedVariables false

theorem own : ownKnob Try.prog.godebug = none := by kernel_rfl
theorem laidOut : laidOutB Try.prog = true := by kernel_rfl

set_option maxRecDepth 100000 in
set_option maxHeartbeats 64000000 in
set_option maxHeartbeats 4000000 in
theorem walk (w : World) (a0 : Option Addr) (len0 cap0 : Nat) (z0 : List Int) (r0 : IsRow .u8 w a0 len0 cap0 z0) :
    Calls Try.prog 5 #[.slice a0 len0 cap0] w fun e w' => e = .returned (.bool true) ∧ Below w.heap.size w w' := by
  have HR : Hid (IsRow .u8 w a0 len0 cap0 z0) := r0
  clear r0
  go_enter Try.func5, Try.ntmps5
  go_wp2_with fail
  refine (big_any a0 len0 cap0 _).mono ?_
  rintro e w1 ⟨t, rfl, rfl⟩
  cases t with
  | true =>
    go_wp2_with fail
    go_ret
    exact ⟨rfl, Below.refl _ _⟩
  | false =>
    go_wp2_with fail
    refine (drawDoms_any a0 len0 cap0 z0 _ HR.out).mono ?_
    rintro e w2 ⟨v, F, rfl, hF, hn0, hn9, b2⟩
    obtain ⟨n, HN⟩ : ∃ n, Hid (F.blocks.length = n) := ⟨_, rfl⟩
    obtain ⟨vals, HV⟩ : ∃ x, Hid (F.values = x) := ⟨_, rfl⟩
    have F2 : Hid (FnAt w2 v F) := FnAtLo.low (Nat.zero_le _) hF
    obtain ⟨ba, bcap, rfl⟩ := F2.out.out HN.out HV.out
    have B2 : Hid (Below w1.heap.size w1 w2) := b2
    clear hF b2 hn0 hn9
    obtain ⟨dn, HDN⟩ : ∃ x, Hid ((domsOf F).length = x) := ⟨_, rfl⟩
    obtain ⟨rn, HRN⟩ : ∃ x, Hid ((reachedOf F).length = x) := ⟨_, rfl⟩
    have hr9 : rn ≤ 100 := by rw [← HRN.out]; exact reachedOf_small F
    have hd9 : dn ≤ 100 := by
      by_cases h : FnShape F
      · rw [← HDN.out, domsOf_len h]
        have := h.2.1
        omega
      · rw [← HDN.out, domsOf_no h]
        simp
    have hdd : ((dn : Int) != (dn : Int)) = false := by simp
    go_wp2_with fail
    refine (impl_doms _ F _ (F2.out.later (Bel.alloc _ _))).mono ?_
    rintro e w3 ⟨ov, rfl, hov, b3⟩
    have B3 : Hid (Below w1.heap.size w1 w3) := Bel.after (Bel.after B2.out (Bel.alloc _ _)) b3
    have F3 : Hid (FnAt w3 (.agg #[.slice ba n bcap, .int .i64 vals]) F) := (F2.out.later (Bel.alloc _ _)).later b3
    have c0 := box_cell b3 0
    have c1 := box_cell b3 1
    simp at c0 c1
    clear b3 F2 B2
    obtain ⟨FB, hFB⟩ : ∃ x, w2.heap.size = x := ⟨_, rfl⟩
    rw [hFB] at c0 c1 ⊢
    clear hFB
    obtain ⟨g, rfl, hdo⟩ := hov.doms
    have O3 : Hid (FnShape F → DomsAt w3 g n F) := by rw [← HN.out]; exact hdo
    rw [HDN.out]
    clear hov hdo
    go_wp2_with fail
    refine (spec_doms _ F _ F3.out).mono ?_
    rintro e w4 ⟨sv, rfl, hsv, b4⟩
    obtain ⟨g', rfl, -⟩ := hsv.doms
    rw [HDN.out]
    have B4 : Hid (Below w1.heap.size w1 w4) := Bel.after B3.out b4
    have F4 : Hid (FnAt w4 (.agg #[.slice ba n bcap, .int .i64 vals]) F) := F3.out.later b4
    have O4 : Hid (FnShape F → DomsAt w4 g n F) := fun h => (O3.out h).keep b4
    replace c0 := Bel.keeps b4 c0
    replace c1 := Bel.keeps b4 c1
    clear hsv b4 B3 F3 O3
    go_wp2_with fail
    refine (impl_reached _ F _ F4.out).mono ?_
    rintro e w5 ⟨rv, rfl, hrv, b5⟩
    have B5 : Hid (Below w1.heap.size w1 w5) := Bel.after B4.out b5
    have F5 : Hid (FnAt w5 (.agg #[.slice ba n bcap, .int .i64 vals]) F) := F4.out.later b5
    have O5 : Hid (FnShape F → DomsAt w5 g n F) := fun h => (O4.out h).keep b5
    have R5 : Hid (BoolsAt w5 rv (reachedOf F)) := hrv.at
    obtain ⟨ra, rcap, rfl⟩ : ∃ a cap, rv = .slice a rn cap := by
      obtain ⟨a, cap, h, _⟩ := R5.out
      exact ⟨a, cap, by rw [h, HRN.out]⟩
    replace c0 := Bel.keeps b5 c0
    replace c1 := Bel.keeps b5 c1
    clear hrv b5 B4 F4 O4
    go_wp2_with fail
    go_loopw [6] (fun i wr => ∃ k : Nat, k ≤ dn ∧ i = .int .i64 k ∧ Below w5.heap.size w5 wr) (fun i _ => dn - (intOf i).toNat)
    case atStart => exact ⟨0, Nat.zero_le _, rfl, Below.refl _ _⟩
    case round =>
      obtain ⟨wq, hwq⟩ : ∃ x, x = wr := ⟨_, rfl⟩
      subst hwq
      obtain ⟨k, hk, rfl, hB⟩ := hrel
      have HW : Hid (Below w5.heap.size w5 wq) := hB
      have Bq : Hid (Below w1.heap.size w1 wq) := Bel.after B5.out hB
      have Fq : Hid (FnAt wq (.agg #[.slice ba n bcap, .int .i64 vals]) F) := F5.out.later hB
      have Oq : Hid (FnShape F → DomsAt wq g n F) := fun h => (O5.out h).keep hB
      have Rq : Hid (BoolsAt wq (.slice ra rn rcap) (reachedOf F)) := R5.out.keep hB
      replace c0 := Bel.keeps hB c0
      replace c1 := Bel.keeps hB c1
      clear hB
      by_cases hlt : (k : Int) < (dn : Int)
      · have hS : FnShape F := Classical.byContradiction fun h => by
          have h1 := HDN.out
          rw [domsOf_no h] at h1
          simp at h1
          omega
        have HS : Hid (FnShape F) := hS
        have hdn : n = dn := by rw [← HN.out, ← HDN.out, domsOf_len hS]
        have hrn : rn = dn := by rw [← HRN.out, ← HDN.out, domsOf_len hS, reached_len hS]
        subst hdn
        subst hrn
        have DQ : Hid (DomsAt wq g rn F) := Oq.out hS
        clear hS Oq
        obtain ⟨rb, roff, hra, hcell⟩ : ∃ b off, ra = some ⟨b, off, none⟩ ∧ ∀ i, i < rn → wq.cell? ⟨b, off + i, none⟩ = some (.bool (reaB F i)) := by
          obtain ⟨a, cap, h, _, hc⟩ := Rq.out
          rw [HRN.out] at h hc
          obtain ⟨b, off, ha, hd⟩ := hc (by omega)
          simp at h
          refine ⟨b, off, h.1.trans ha, fun i hi => ?_⟩
          have := hd i hi
          rw [reached_at HS.out (by have := HN.out; omega)] at this
          exact this
        subst hra
        have HC : Hid (∀ i, i < rn → wq.cell? ⟨rb, roff + i, none⟩ = some (.bool (reaB F i))) := hcell
        clear hcell Rq
        obtain ⟨r, HRK⟩ : ∃ r, Hid (reaB F k = r) := ⟨_, rfl⟩
        have q0 := HC.out k (by omega)
        rw [HRK.out] at q0
        obtain ⟨da, dcap, q1, hda⟩ := DQ.out k (by omega)
        have HDA : Hid (IntsAt wq (.slice da (domsN F k).length dcap) (domsN F k)) := hda
        clear hda
        obtain ⟨dl, HDL⟩ : ∃ x, Hid ((domsN F k).length = x) := ⟨_, rfl⟩
        rw [HDL.out] at q1 HDA
        cases r with
        | false =>
          have e0 : dl = 0 := by rw [← HDL.out, doms_none HRK.out]; rfl
          subst e0
          go_wp2_with fail
          go_roundw
          case rel => exact ⟨k + 1, by omega, by go_num, HW.out⟩
          case measure => simp [intOf]; omega
        | true =>
          have HK0 : Hid (decide ((0 : Int) ∈ domsN F k) = true) := by
            have h1 := domsN_mem HS.out (a := 0) (b := k)
            rw [domB_iff.2 (dom_zero HS.out (reaB_iff.1 HRK.out))] at h1
            exact h1
          have HKK : Hid (decide ((k : Int) ∈ domsN F k) = true) := by
            have h1 := domsN_mem HS.out (a := k) (b := k)
            rw [domB_iff.2 (dom_refl (reaB_iff.1 HRK.out))] at h1
            exact h1
          go_wp2_with fail
          refine (within_any _ (domsN F k) 0 _ HDA.out).mono ?_
          rw [HK0.out]
          rintro e wx ⟨rfl, hwx⟩
          have hwx' := hwx
          subst hwx'
          clear hwx
          go_wp2_with fail
          refine (within_any _ (domsN F k) (k : Int) _ HDA.out).mono ?_
          rw [HKK.out]
          rintro e wx2 ⟨rfl, hwx⟩
          subst hwx
          obtain ⟨pn, HPN⟩ : ∃ x, Hid ((predsOf F k).length = x) := ⟨_, rfl⟩
          have hp9 : pn ≤ 100 := by rw [← HPN.out]; exact predsOf_small F k
          go_wp2_with fail
          refine (impl_preds _ F k _ Fq.out).mono ?_
          rintro e w6 ⟨pv, rfl, hpv, b6⟩
          have P6 : Hid (IntsAt w6 pv (predsOf F k)) := hpv.at
          obtain ⟨pa, pcap, rfl⟩ : ∃ a cap, pv = .slice a pn cap := by
            obtain ⟨a, cap, h, _⟩ := P6.out
            exact ⟨a, cap, by rw [h, HPN.out]⟩
          have HW6 : Hid (Below w5.heap.size w5 w6) := Bel.after HW.out b6
          have D6 : Hid (DomsAt w6 g rn F) := DQ.out.keep b6
          have HC6 : Hid (∀ i, i < rn → w6.cell? ⟨rb, roff + i, none⟩ = some (.bool (reaB F i))) := fun i hi => Bel.keeps b6 (HC.out i hi)
          have HDA6 : Hid (IntsAt w6 (.slice da dl dcap) (domsN F k)) := HDA.out.keep b6
          have q16 := Bel.keeps b6 q1
          clear hpv b6 q0 q1 c0 c1 Fq DQ HC HDA HK0 HKK
          go_wp2_with fail
          go_loopw [8] (fun i wr => ∃ j : Nat, j ≤ rn ∧ i = .int .i64 j ∧ wr = w6) (fun i _ => rn - (intOf i).toNat)
          case atStart => exact ⟨0, Nat.zero_le _, rfl, rfl⟩
          case round =>
            obtain ⟨j, hj, rfl, hwr⟩ := hrel
            have hwr' := hwr.symm
            subst hwr'
            clear hwr
            by_cases hltj : (j : Int) < (rn : Int)
            · obtain ⟨t0, HT0⟩ : ∃ t, Hid (((k : Int) != 0) = t) := ⟨_, rfl⟩
              have ht0 : ((k : Int) != 0) = t0 := HT0.out
              have ha0 : t0 = allB F j k 0 := by
                rw [allB_zero, ← HT0.out]
                by_cases h : k = 0
                · subst h; rfl
                · rw [decide_eq_true h]
                  simp [h]
              have HA0 : Hid (t0 = allB F j k 0) := ha0
              clear ha0
              go_wp2_with fail
              try rw [ht0]
              go_loopw [9, 10] (fun av i wr => ∃ (i' : Nat), i' ≤ pn ∧ i = .int .i64 i' ∧ av = .bool (allB F j k i') ∧ wr = w6) (fun _ i _ => pn - (intOf i).toNat)
              case atStart => exact ⟨0, Nat.zero_le _, rfl, by rw [← HA0.out, ← HT0.out], rfl⟩
              case round =>
                obtain ⟨i, hi, rfl, rfl, hwr⟩ := hrel
                have hwr' := hwr.symm
                subst hwr'
                clear hwr
                obtain ⟨al, HAL⟩ : ∃ x, Hid (allB F j k i = x) := ⟨_, rfl⟩
                rw [HAL.out]
                by_cases hlti : (i : Int) < (pn : Int)
                · have HNX : Hid (allB F j k (i + 1) = (al && (!reaB F ((predsOf F k).getD i 0).toNat || domB F j ((predsOf F k).getD i 0).toNat))) := by
                    have h1 := allB_next (F := F) (a := j) (b := k) (k := i) (by have := HPN.out; omega)
                    rw [HAL.out] at h1
                    exact h1
                  obtain ⟨pb, poff, hpa, p0⟩ : ∃ b off, pa = some ⟨b, off, none⟩ ∧ w6.cell? ⟨b, off + i, none⟩ = some (.int .i64 ((predsOf F k).getD i 0)) := by
                    obtain ⟨a, cap, h, _, hc⟩ := P6.out
                    rw [HPN.out] at h hc
                    obtain ⟨b, off, ha, hd⟩ := hc (by omega)
                    simp at h
                    exact ⟨b, off, h.1.trans ha, hd i (by omega)⟩
                  subst hpa
                  have hin := preds_in (lawGetD_mem (l := predsOf F k) (i := i) (by have := HPN.out; omega))
                  obtain ⟨pm, hpm⟩ : ∃ m : Nat, (predsOf F k).getD i 0 = (m : Int) := ⟨((predsOf F k).getD i 0).toNat, by omega⟩
                  rw [hpm] at p0 hin HNX
                  simp only [Int.toNat_natCast] at HNX
                  have hpl : pm < rn := by have := HN.out; omega
                  obtain ⟨rp, HRP⟩ : ∃ x, Hid (reaB F pm = x) := ⟨_, rfl⟩
                  obtain ⟨dp, HDP⟩ : ∃ x, Hid (domB F j pm = x) := ⟨_, rfl⟩
                  rw [HRP.out, HDP.out] at HNX
                  have p1 := HC6.out pm hpl
                  rw [HRP.out] at p1
                  obtain ⟨ea, ecap, p2, hea⟩ := D6.out pm hpl
                  have HEA : Hid (IntsAt w6 (.slice ea (domsN F pm).length ecap) (domsN F pm)) := hea
                  obtain ⟨el, HEL⟩ : ∃ x, Hid ((domsN F pm).length = x) := ⟨_, rfl⟩
                  rw [HEL.out] at p2 HEA
                  have HDJ : Hid (decide ((j : Int) ∈ domsN F pm) = dp) := (domsN_mem HS.out).trans HDP.out
                  clear hea hpm hin
                  cases al with
                  | false =>
                    go_wp2_with fail
                    go_roundw
                    case rel => exact ⟨i + 1, by omega, by go_num, by rw [HNX.out]; rfl, by first | rfl | trivial⟩
                    case measure => simp [intOf]; omega
                  | true =>
                    cases rp with
                    | false =>
                      go_wp2_with fail
                      go_roundw
                      case rel => exact ⟨i + 1, by omega, by go_num, by rw [HNX.out]; rfl, by first | rfl | trivial⟩
                      case measure => simp [intOf]; omega
                    | true =>
                      go_wp2_with fail
                      refine (within_any _ (domsN F pm) (j : Int) _ HEA.out).mono ?_
                      rw [HDJ.out]
                      rintro e wx3 ⟨rfl, hwx⟩
                      have hwx' := hwx.symm
                      subst hwx'
                      clear hwx
                      go_wp2_with fail
                      go_roundw
                      case rel => exact ⟨i + 1, by omega, by go_num, by rw [HNX.out]; simp, by first | rfl | trivial⟩
                      case measure => simp [intOf]; omega
                · have hin : pn = i := by omega
                  subst hin
                  obtain ⟨ej, hej⟩ : ∃ x, ((j : Int) == (k : Int)) = x := ⟨_, rfl⟩
                  obtain ⟨dj, HDJ⟩ : ∃ x, Hid (domB F j k = x) := ⟨_, rfl⟩
                  obtain ⟨rj, HRJ⟩ : ∃ x, Hid (reaB F j = x) := ⟨_, rfl⟩
                  have HLAW : Hid (rj = true → (al || ej) = dj) := fun h => by
                    have h1 := doms_law HS.out (a := j) (b := k) (by have := HN.out; omega) HRK.out (HRJ.out.trans h)
                    rw [HPN.out, HAL.out, HDJ.out] at h1
                    rw [← h1, ← hej]
                    congr 1
                    by_cases e : j = k
                    · subst e; simp
                    · have e2 : ¬ (j : Int) = (k : Int) := by omega
                      simp [e, e2]
                  have p1 := HC6.out j (by omega)
                  rw [HRJ.out] at p1
                  have HWJ : Hid (decide ((j : Int) ∈ domsN F k) = dj) := (domsN_mem HS.out).trans HDJ.out
                  clear HA0
                  cases al <;> cases ej <;> cases dj <;> cases rj
                  all_goals first
                    | (exfalso; have h := HLAW.out rfl; exact absurd h (by decide))
                    | (go_wp2_with fail
                       refine (within_any _ (domsN F k) (j : Int) _ HDA6.out).mono ?_
                       rw [HWJ.out]
                       rintro e wx3 ⟨rfl, hwx⟩
                       have hwx' := hwx.symm
                       subst hwx'
                       clear hwx
                       go_wp2_with fail
                       go_roundw
                       case rel => exact ⟨j + 1, by omega, by go_num, by first | rfl | trivial⟩
                       case measure => simp [intOf]; omega)
            · have hjn : rn = j := by omega
              subst hjn
              go_wp2_with fail
              go_roundw
              case rel => exact ⟨k + 1, by omega, by go_num, HW6.out⟩
              case measure => simp [intOf]; omega
      · go_wp2_with fail
        go_ret
        exact ⟨rfl, Bq.out⟩

set_option maxRecDepth 100000 in
theorem lifted (os : Os) (started : os.Started) (H : Type) (enc : TypeId × Value → H) :
    ReturnsInHanded {} Try.checked os 5 .any (Rows.fnDomsSpec.pre6 enc Try.prog Try.f5 Rows.fnDomsRow.domain false) (Rows.fnDomsSpec.post enc Try.prog Try.f5 false true false false) := by
  refine returnsInHanded_of_change (C := Try.checked) own started (by kernel_rfl) Try.func5
    (ChangeSpec.witness6 (enc := enc) (C := Try.checked) false ⟨#[], #[.slice none 0 0], []⟩ 8 (by kernel_rfl) (by kernel_rfl) (by kernel_rfl) (by kernel_rfl)) ?_
  intro W base args ds gs before hval0 hW hcnd _
  have hval : ∀ (j : Nat) t v, Try.f5.params[j]? = some t → args[j]? = some v → Value.okWide Try.prog W .any base t v := hval0
  have hW' := hW
  obtain ⟨p, q, hA0, hV, rfl, hfz, hnd⟩ := hW
  have hA : DataW.TrodAll enc Try.prog W 0 (fun _ => true) true Try.f5.params.toList args.toList ds p := hA0
  rw [Try.params5] at hA hval
  obtain ⟨v0, vs0, d0, ds0, p0, q0, hargs, rfl, rfl, h0, r0x⟩ := trodAll_cons hA
  obtain ⟨rfl, rfl, rfl⟩ := trodAll_nil r0x
  obtain rfl : args = #[v0] := by cases args; simp_all
  obtain ⟨rfl, rfl⟩ := trodVars_none hV
  have k0 := h0
  have lt0 : ∀ x ∈ p0, x.block < W.heap.size := by obtain ⟨m, hm⟩ := k0; exact DataW.trod_lt m _ _ _ hm
  obtain ⟨a0, len0, cap0, rfl⟩ := okWide_slice Try.underlying22 (hval 0 22 v0 rfl rfl)
  obtain ⟨z0, r0⟩ : ∃ zs, IsRow .u8 W a0 len0 cap0 zs := by
    obtain ⟨fuel, hf⟩ := h0
    rcases open_ints Try.underlying22 Try.underlying5 (by kernel_rfl) hf with ⟨hcs, _⟩ | ⟨x, l, c, zs, hcs, _, hl, hm, hz, _, hcell, hwz⟩
    · simp [Value.cells] at hcs
      obtain ⟨rfl, rfl, rfl⟩ := hcs
      exact ⟨[], .inl ⟨rfl, rfl, rfl, rfl⟩⟩
    · simp [Value.cells] at hcs
      obtain ⟨rfl, rfl, rfl⟩ := hcs
      exact ⟨zs, .inr ⟨_, rfl, hl, hm, by simpa using hz, hcell, hwz⟩⟩
  clear hA0 hval0
  refine (walk W a0 len0 cap0 z0 r0).mono fun e W' ⟨he, bel⟩ => ?_
  subst he
  exact ⟨_, rfl, _, _, _, [], _, [], hW', trodAll_mk1 (shut_bool Try.underlying4 _), (trodAll_cons_mk (Below.trod laidOut (by kernel_rfl) (of_decide_eq_true (by kernel_rfl)) k0 bel lt0) trodAll_mk0), rfl, bel.frame _, fun h => by cases h⟩

theorem over : Rows.fnDomsRow.holds Try.pinned (OpenSpec.ofChange Rows.fnDomsSpec) :=
  OpenClaim.holds_of_wide 5 Try.f5 rfl rfl rfl rfl rfl rfl rfl ⟨rfl, rfl, rfl, rfl, rfl⟩ rfl rfl rfl rfl rfl (by kernel_rfl) Try.func5 (by kernel_rfl)
    (of_decide_eq_true (by kernel_rfl)) (by unfold Func.isWrapper; first | (rw [if_pos (by decide +kernel)]; kernel_rfl) | (rw [if_neg (by decide +kernel)]; exact ⟨rfl, rfl⟩))
    (fun os started H enc _ => lifted os started H enc)

/-- The statement. -/
theorem proved : Rows.FnDomsSaid := over
#print axioms proved
end Go.Proofs.Ytlmkipmkanhcfaa.fnDoms
