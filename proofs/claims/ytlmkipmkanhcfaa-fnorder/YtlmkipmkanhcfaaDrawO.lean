/- The drawn programs of the laws. -/
import Derived.Test.YtlmkipmkanhcfaaDrawG
namespace Go.Proofs.Ytlmkipmkanhcfaa
open Go.ChangeShapes Go.WideShapes Go.ChangeAt Go.RowKit
set_option linter.unusedVariables false

set_option maxRecDepth 100000 in
set_option maxHeartbeats 16000000 in
theorem drawOrder_any (a : Option Addr) (len cap : Nat) (zs : List Int) (w : World) (hr : IsRow .u8 w a len cap zs) :
    Calls Try.prog 17 #[.slice a len cap] w fun e w' => GivesOne w e w' := by
  have HR : Hid (IsRow .u8 w a len cap zs) := hr
  clear hr
  go_enter Try.func17, Try.ntmps17
  go_wp2_with fail
  obtain ⟨wA, hwA⟩ : ∃ W, w.alloc (.cells #[.slice none 0 0, .int .i64 0] 26) = W := ⟨_, rfl⟩
  have bA : Below w.heap.size w wA := by rw [← hwA]; exact Bel.alloc _ _
  have xA : wA.heap[w.heap.size]? = some (.cells #[.slice none 0 0, .int .i64 0] 26 (0, 0)) := by rw [← hwA]; exact World.alloc_heap_new _ _
  have sA : wA.heap.size = w.heap.size + 1 := by rw [← hwA]; simp
  try rw [hwA]
  clear hwA
  obtain ⟨R, hR⟩ : ∃ x, w.heap.size = x := ⟨_, rfl⟩
  rw [hR] at xA sA ⊢
  refine (new_any a len cap zs _ (HR.out.keep (p := w.heap.size) (fun x e c => Nat.ne_of_lt (HR.out.lt x e c)) (Fr.ofBelow bA))).mono ?_
  rintro e w1 ⟨rfl, b1, hc1, _⟩
  rw [sA] at b1 hc1 ⊢
  have x1 : w1.heap[R]? = some (.cells #[.slice none 0 0, .int .i64 0] 26 (0, 0)) := (b1.block _ (by omega)).trans xA
  have X1 : Hid (w1.heap[R]? = some (.cells #[.slice none 0 0, .int .i64 0] 26 (0, 0))) := x1
  have B1 : Hid (Below w.heap.size w w1) := bA.trans (b1.mono (by omega))
  have C1 : Hid (Cur w1 (R + 1)) := hc1
  clear b1 hc1 x1 xA bA
  go_wp2_with fail
  refine (draw_any (R + 1) _ C1.out).mono ?_
  rintro e w2 ⟨v, F, rfl, hF, hn0, hn9, b2, _⟩
  obtain ⟨n, hn⟩ : ∃ n, F.blocks.length = n := ⟨_, rfl⟩
  have HN : Hid (F.blocks.length = n) := hn
  obtain ⟨ba, bcap, vals, rfl⟩ := hF.out hn
  rw [hn] at hn0 hn9
  have x2 : w2.heap[R]? = some (.cells #[.slice none 0 0, .int .i64 0] 26 (0, 0)) := (b2.block _ (by omega)).trans X1.out
  have B2 : Below w.heap.size w w2 := B1.out.trans (b2.mono (by omega))
  have y0 : w2.cell? ⟨R, 0, none⟩ = some (.slice none 0 0) := by simp [World.cell?, x2]
  have y1 : w2.cell? ⟨R, 1, none⟩ = some (.int .i64 0) := by simp [World.cell?, x2]
  have u0 : w2.frozen? ⟨R, 0, none⟩ = false := by simp [World.frozen?, x2]
  have u1 : w2.frozen? ⟨R, 1, none⟩ = false := by simp [World.frozen?, x2]
  obtain ⟨r0, r1, hF6, hB6⟩ := box_end hR.symm x2 (FnAtLo.low (by omega) hF) B2
  have HF6 : Hid (FnAtLo w.heap.size ((w2.setCell ⟨R, 0, none⟩ (.slice ba n bcap)).setCell ⟨R, 1, none⟩ (.int .i64 vals)) (.agg #[.slice ba n bcap, .int .i64 vals]) F) := hF6
  have HB6 : Hid (Below w.heap.size w ((w2.setCell ⟨R, 0, none⟩ (.slice ba n bcap)).setCell ⟨R, 1, none⟩ (.int .i64 vals))) := hB6
  clear hF6 hB6 hF x2 B2 b2 hn
  go_wp2_with fail
  refine bodyPost_ret (v := .agg #[.slice ba n bcap, .int .i64 vals]) (by simp [results, Try.results17, go_sem, r0, r1]) rfl ?_
  exact ⟨_, F, rfl, HF6.out, by rw [HN.out]; exact hn0, by rw [HN.out]; exact hn9, HB6.out⟩

end Go.Proofs.Ytlmkipmkanhcfaa
