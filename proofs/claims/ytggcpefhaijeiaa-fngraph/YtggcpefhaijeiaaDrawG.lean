/- The draws of the laws over the graph. -/
import Derived.Test.YtggcpefhaijeiaaDrawAt
namespace Go.Proofs.Ytggcpefhaijeiaa
open Go.ChangeShapes Go.WideShapes Go.ChangeAt Go.RowKit
set_option linter.unusedVariables false

/-- A drawn program and two numbers are given. -/
def GivesAt2 (w : World) (e : Ending) (w' : World) : Prop := ∃ (v : Value) (F : FnD) (a b : Int), e = .returned (.tuple #[v, .int .i64 a, .int .i64 b]) ∧ FnAtLo w.heap.size w' v F ∧ 0 < F.blocks.length ∧ F.blocks.length ≤ 900 ∧ 0 ≤ a ∧ a < F.blocks.length ∧ -1 ≤ b ∧ b ≤ F.blocks.length ∧ Below w.heap.size w w'
/-- A drawn program is given. -/
def GivesOne (w : World) (e : Ending) (w' : World) : Prop := ∃ (v : Value) (F : FnD), e = .returned v ∧ FnAtLo w.heap.size w' v F ∧ 0 < F.blocks.length ∧ F.blocks.length ≤ 900 ∧ Below w.heap.size w w'
/-- What the two stores into the box of the result leave. -/
theorem box_end {w w5 : World} {R : Nat} {ba : Option Addr} {n bcap : Nat} {vals : Int} {F : FnD} (hR : R = w.heap.size) (x : w5.heap[R]? = some (.cells #[.slice none 0 0, .int .i64 0] 26 (0, 0))) (hF : FnAtLo (R + 1) w5 (.agg #[.slice ba n bcap, .int .i64 vals]) F) (hB : Below w.heap.size w w5) :
    ((w5.setCell ⟨R, 0, none⟩ (.slice ba n bcap)).setCell ⟨R, 1, none⟩ (.int .i64 vals)).cell? ⟨R, 0, none⟩ = some (.slice ba n bcap) ∧ ((w5.setCell ⟨R, 0, none⟩ (.slice ba n bcap)).setCell ⟨R, 1, none⟩ (.int .i64 vals)).cell? ⟨R, 1, none⟩ = some (.int .i64 vals) ∧
    FnAtLo w.heap.size ((w5.setCell ⟨R, 0, none⟩ (.slice ba n bcap)).setCell ⟨R, 1, none⟩ (.int .i64 vals)) (.agg #[.slice ba n bcap, .int .i64 vals]) F ∧ Below w.heap.size w ((w5.setCell ⟨R, 0, none⟩ (.slice ba n bcap)).setCell ⟨R, 1, none⟩ (.int .i64 vals)) := by
  have y0 : w5.cell? ⟨R, 0, none⟩ = some (.slice none 0 0) := by simp [World.cell?, x]
  have y1 : w5.cell? ⟨R, 1, none⟩ = some (.int .i64 0) := by simp [World.cell?, x]
  refine ⟨?_, World.cell?_setCell_same _ _ _ ((World.cell?_setCell_other _ _ _ _ (by simp)).trans y1), ?_, ?_⟩
  · rw [World.cell?_setCell_other _ _ _ _ (by simp)]
    exact World.cell?_setCell_same _ _ _ y0
  · exact FnAtLo.low (by omega) (hF.keep ((Keeps.setCell _ _ _ _ _ (by omega)).trans (Keeps.setCell _ _ _ _ _ (by omega))))
  · exact (hB.setCell (p := ⟨R, 0, none⟩) (by show w.heap.size ≤ R; omega) _).setCell (p := ⟨R, 1, none⟩) (by show w.heap.size ≤ R; omega) _

set_option maxRecDepth 100000 in
set_option maxHeartbeats 16000000 in
theorem drawSuccs_any (a : Option Addr) (len cap : Nat) (zs : List Int) (w : World) (hr : IsRow .u8 w a len cap zs) :
    Calls Try.prog 10 #[.slice a len cap] w fun e w' => GivesAt w e w' := by
  have HR : Hid (IsRow .u8 w a len cap zs) := hr
  clear hr
  go_enter Try.func10, Try.ntmps10
  go_wp2_with fail
  obtain ⟨wA, hwA⟩ : ∃ W, w.alloc (.cells #[.slice none 0 0, .int .i64 0] 26) = W := ⟨_, rfl⟩
  have bA : Below w.heap.size w wA := by rw [← hwA]; exact Bel.alloc _ _
  have xA : wA.heap[w.heap.size]? = some (.cells #[.slice none 0 0, .int .i64 0] 26 (0, 0)) := by rw [← hwA]; exact World.alloc_heap_new _ _
  have sA : wA.heap.size = w.heap.size + 1 := by rw [← hwA]; simp
  try rw [hwA]
  clear hwA
  obtain ⟨R, hR⟩ : ∃ x, w.heap.size = x := ⟨_, rfl⟩
  rw [hR] at xA sA ⊢
  refine (drawAt_any a len cap zs _ (HR.out.keep (p := w.heap.size) (fun x e c => Nat.ne_of_lt (HR.out.lt x e c)) (Fr.ofBelow bA))).mono ?_
  rintro e w2 ⟨v, F, b, rfl, hF, hn0, hn9, hb0, hb1, b2⟩
  obtain ⟨n, hn⟩ : ∃ n, F.blocks.length = n := ⟨_, rfl⟩
  have HN : Hid (F.blocks.length = n) := hn
  obtain ⟨ba, bcap, vals, rfl⟩ := hF.out hn
  rw [hn] at hn0 hn9 hb1
  rw [sA] at hF
  have X2 : w2.heap[R]? = some (.cells #[.slice none 0 0, .int .i64 0] 26 (0, 0)) := (b2.block _ (by omega)).trans xA
  have B2 : Below w.heap.size w w2 := bA.trans (b2.mono (by omega))
  obtain ⟨w3, hw3⟩ : ∃ W, w2.alloc (.cells #[.slice ba n bcap, .int .i64 vals] 26) = W := ⟨_, rfl⟩
  have b3 : Below w2.heap.size w2 w3 := by rw [← hw3]; exact Bel.alloc _ _
  have x3 : w3.heap[w2.heap.size]? = some (.cells #[.slice ba n bcap, .int .i64 vals] 26 (0, 0)) := by rw [← hw3]; exact World.alloc_heap_new _ _
  have hR2 : R < w2.heap.size := (Array.getElem?_eq_some_iff.1 X2).1
  have HF3 : Hid (FnAtLo (R + 1) w3 (.agg #[.slice ba n bcap, .int .i64 vals]) F) := hF.keep (Keeps.of_below b3 _)
  have x3R : w3.heap[R]? = some (.cells #[.slice none 0 0, .int .i64 0] 26 (0, 0)) := (b3.block _ hR2).trans X2
  have X3 : Hid (w3.heap[R]? = some (.cells #[.slice none 0 0, .int .i64 0] 26 (0, 0))) := x3R
  have B3 : Hid (Below w.heap.size w w3) := B2.trans (b3.mono (by omega))
  have c30 : w3.cell? ⟨w2.heap.size, 0, none⟩ = some (.slice ba n bcap) := by simp [World.cell?, x3]
  have c31 : w3.cell? ⟨w2.heap.size, 1, none⟩ = some (.int .i64 vals) := by simp [World.cell?, x3]
  have y0 : w3.cell? ⟨R, 0, none⟩ = some (.slice none 0 0) := by simp [World.cell?, x3R]
  have y1 : w3.cell? ⟨R, 1, none⟩ = some (.int .i64 0) := by simp [World.cell?, x3R]
  have u0 : w3.frozen? ⟨R, 0, none⟩ = false := by simp [World.frozen?, x3R]
  have u1 : w3.frozen? ⟨R, 1, none⟩ = false := by simp [World.frozen?, x3R]
  clear hn hF b2 X2 B2 x3 x3R bA xA
  go_wp2_with fail
  try rw [hw3]
  clear hw3
  obtain ⟨r0, r1, hF4, hB4⟩ := box_end hR.symm X3.out HF3.out B3.out
  go_wp2_with fail
  refine bodyPost_ret (v := .tuple #[.agg #[.slice ba n bcap, .int .i64 vals], .int .i64 b]) (by simp [results, Try.results10, go_sem, r0, r1]) rfl ?_
  exact ⟨_, F, b, rfl, hF4, by rw [HN.out]; exact hn0, by rw [HN.out]; exact hn9, hb0, by rw [HN.out]; exact hb1, hB4⟩

set_option maxRecDepth 100000 in
set_option maxHeartbeats 16000000 in
theorem drawPreds_any (a : Option Addr) (len cap : Nat) (zs : List Int) (w : World) (hr : IsRow .u8 w a len cap zs) :
    Calls Try.prog 16 #[.slice a len cap] w fun e w' => GivesAt w e w' := by
  have HR : Hid (IsRow .u8 w a len cap zs) := hr
  clear hr
  go_enter Try.func16, Try.ntmps16
  go_wp2_with fail
  obtain ⟨wA, hwA⟩ : ∃ W, w.alloc (.cells #[.slice none 0 0, .int .i64 0] 26) = W := ⟨_, rfl⟩
  have bA : Below w.heap.size w wA := by rw [← hwA]; exact Bel.alloc _ _
  have xA : wA.heap[w.heap.size]? = some (.cells #[.slice none 0 0, .int .i64 0] 26 (0, 0)) := by rw [← hwA]; exact World.alloc_heap_new _ _
  have sA : wA.heap.size = w.heap.size + 1 := by rw [← hwA]; simp
  try rw [hwA]
  clear hwA
  obtain ⟨R, hR⟩ : ∃ x, w.heap.size = x := ⟨_, rfl⟩
  rw [hR] at xA sA ⊢
  refine (drawAt_any a len cap zs _ (HR.out.keep (p := w.heap.size) (fun x e c => Nat.ne_of_lt (HR.out.lt x e c)) (Fr.ofBelow bA))).mono ?_
  rintro e w2 ⟨v, F, b, rfl, hF, hn0, hn9, hb0, hb1, b2⟩
  obtain ⟨n, hn⟩ : ∃ n, F.blocks.length = n := ⟨_, rfl⟩
  have HN : Hid (F.blocks.length = n) := hn
  obtain ⟨ba, bcap, vals, rfl⟩ := hF.out hn
  rw [hn] at hn0 hn9 hb1
  rw [sA] at hF
  have X2 : w2.heap[R]? = some (.cells #[.slice none 0 0, .int .i64 0] 26 (0, 0)) := (b2.block _ (by omega)).trans xA
  have B2 : Below w.heap.size w w2 := bA.trans (b2.mono (by omega))
  obtain ⟨w3, hw3⟩ : ∃ W, w2.alloc (.cells #[.slice ba n bcap, .int .i64 vals] 26) = W := ⟨_, rfl⟩
  have b3 : Below w2.heap.size w2 w3 := by rw [← hw3]; exact Bel.alloc _ _
  have x3 : w3.heap[w2.heap.size]? = some (.cells #[.slice ba n bcap, .int .i64 vals] 26 (0, 0)) := by rw [← hw3]; exact World.alloc_heap_new _ _
  have hR2 : R < w2.heap.size := (Array.getElem?_eq_some_iff.1 X2).1
  have HF3 : Hid (FnAtLo (R + 1) w3 (.agg #[.slice ba n bcap, .int .i64 vals]) F) := hF.keep (Keeps.of_below b3 _)
  have x3R : w3.heap[R]? = some (.cells #[.slice none 0 0, .int .i64 0] 26 (0, 0)) := (b3.block _ hR2).trans X2
  have X3 : Hid (w3.heap[R]? = some (.cells #[.slice none 0 0, .int .i64 0] 26 (0, 0))) := x3R
  have B3 : Hid (Below w.heap.size w w3) := B2.trans (b3.mono (by omega))
  have c30 : w3.cell? ⟨w2.heap.size, 0, none⟩ = some (.slice ba n bcap) := by simp [World.cell?, x3]
  have c31 : w3.cell? ⟨w2.heap.size, 1, none⟩ = some (.int .i64 vals) := by simp [World.cell?, x3]
  have y0 : w3.cell? ⟨R, 0, none⟩ = some (.slice none 0 0) := by simp [World.cell?, x3R]
  have y1 : w3.cell? ⟨R, 1, none⟩ = some (.int .i64 0) := by simp [World.cell?, x3R]
  have u0 : w3.frozen? ⟨R, 0, none⟩ = false := by simp [World.frozen?, x3R]
  have u1 : w3.frozen? ⟨R, 1, none⟩ = false := by simp [World.frozen?, x3R]
  clear hn hF b2 X2 B2 x3 x3R bA xA
  go_wp2_with fail
  try rw [hw3]
  clear hw3
  obtain ⟨r0, r1, hF4, hB4⟩ := box_end hR.symm X3.out HF3.out B3.out
  go_wp2_with fail
  refine bodyPost_ret (v := .tuple #[.agg #[.slice ba n bcap, .int .i64 vals], .int .i64 b]) (by simp [results, Try.results16, go_sem, r0, r1]) rfl ?_
  exact ⟨_, F, b, rfl, hF4, by rw [HN.out]; exact hn0, by rw [HN.out]; exact hn9, hb0, by rw [HN.out]; exact hb1, hB4⟩




end Go.Proofs.Ytggcpefhaijeiaa
