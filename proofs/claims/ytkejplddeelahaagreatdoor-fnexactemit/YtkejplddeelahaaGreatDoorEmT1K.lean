/- Code from homes: the end of a block, by the program's emitter. -/
import Derived.Test.YtkejplddeelahaaGreatDoorEmtDefK
import Derived.Test.YtkejplddeelahaaGreatDoorKEmB
namespace Go.Proofs.YtkejplddeelahaaGreatDoor
open Go.ChangeShapes Go.WideShapes Go.ChangeAt Go.RowKit
set_option linter.unusedVariables false

theorem stepsAt_duo (w : World) (x0 x1 x2 x3 x4 y0 y1 y2 y3 y4 : Int) : StepsAt (w.alloc (.cells #[.int .i64 x0, .int .i64 x1, .int .i64 x2, .int .i64 x3, .int .i64 x4, .int .i64 y0, .int .i64 y1, .int .i64 y2, .int .i64 y3, .int .i64 y4] 46)) (.slice (some ⟨w.heap.size, 0, none⟩) 2 2) [⟨x0, x1, x2, x3, x4⟩, ⟨y0, y1, y2, y3, y4⟩] := by
  have h : OwnSteps (w.alloc (.cells #[.int .i64 x0, .int .i64 x1, .int .i64 x2, .int .i64 x3, .int .i64 x4, .int .i64 y0, .int .i64 y1, .int .i64 y2, .int .i64 y3, .int .i64 y4] 46)) w.heap.size (.slice (some ⟨w.heap.size, 0, none⟩) 2 2) [⟨x0, x1, x2, x3, x4⟩, ⟨y0, y1, y2, y3, y4⟩] :=
    ⟨by simp [stC], .inr ⟨w.heap.size, 2, _, rfl, Nat.le_refl _, World.alloc_heap_new w _, Nat.le_refl _, by decide, rfl, by simp [stC]⟩⟩
  exact h.at
theorem put_two (lo E : Nat) (v : Value) (l : List InsD) (x0 x1 x2 x3 x4 y0 y1 y2 y3 y4 : Int) (w : World) (h : EmIs lo w E v l) (hlo : lo ≤ w.heap.size) (hn : l.length ≤ 1900000) :
    Calls Tryz.prog 45 #[.pointer (some ⟨E, 0, none⟩), .slice (some ⟨w.heap.size, 0, none⟩) 2 2] (w.alloc (.cells #[.int .i64 x0, .int .i64 x1, .int .i64 x2, .int .i64 x3, .int .i64 x4, .int .i64 y0, .int .i64 y1, .int .i64 y2, .int .i64 y3, .int .i64 y4] 46)) fun e w' => GivesEm lo E w v (fun _ => True) (l ++ [⟨x0, x1, x2, x3, x4⟩, ⟨y0, y1, y2, y3, y4⟩]) e w' := by
  refine (put_any lo E v _ l [⟨x0, x1, x2, x3, x4⟩, ⟨y0, y1, y2, y3, y4⟩] _ (h.grow (Bel.alloc _ _)) (by simp; omega) (stepsAt_duo w x0 x1 x2 x3 x4 y0 y1 y2 y3 y4) (by simp; omega)).mono ?_
  rintro e w' ⟨x, v', rfl, _, h1, h2⟩
  exact ⟨x, v', rfl, trivial, h1, (EmTo.grow v (Bel.alloc _ _) hlo).trans h2⟩

set_option maxRecDepth 100000 in
set_option maxHeartbeats 2000000 in
theorem term_any (lo E : Nat) (v : Value) (l : List InsD) (k a t e : Int) (w : World) (he : EmIs lo w E v l) (hlo : lo ≤ w.heap.size) (hn : l.length ≤ 800000) (hk : k = 1 ∨ k = 2 ∨ k = 3) (ha : k ≠ 1 → homeB a = true) :
    Calls Tryz.prog 47 #[.pointer (some ⟨E, 0, none⟩), .agg #[.int .i64 k, .int .i64 a, .int .i64 t, .int .i64 e]] w fun ee w' => GivesEm lo E w v (fun _ => True) (l ++ termL ⟨k, a, t, e⟩) ee w' := by
  obtain ⟨hbx, hto⟩ := BoxE.new he hlo #[.int .i64 k, .int .i64 a, .int .i64 t, .int .i64 e] 74
  obtain ⟨w0, hw0⟩ : ∃ W, w.alloc (.cells #[.int .i64 k, .int .i64 a, .int .i64 t, .int .i64 e] 74) = W := ⟨_, rfl⟩
  rw [hw0] at hbx hto
  have HBX : Hid (BoxE lo w0 E w.heap.size v l #[.int .i64 k, .int .i64 a, .int .i64 t, .int .i64 e] 74) := hbx
  have HTO : Hid (EmTo lo E w v w0 v) := hto
  have p0 : w0.cell? ⟨w.heap.size, 0, none⟩ = some (.int .i64 k) := HBX.out.cell 0
  have p1 : w0.cell? ⟨w.heap.size, 1, none⟩ = some (.int .i64 a) := HBX.out.cell 1
  have p2 : w0.cell? ⟨w.heap.size, 2, none⟩ = some (.int .i64 t) := HBX.out.cell 2
  have p3 : w0.cell? ⟨w.heap.size, 3, none⟩ = some (.int .i64 e) := HBX.out.cell 3
  clear hbx hto he
  rcases hk with rfl | rfl | rfl
  · go_enter Tryz.func47, Tryz.ntmps47
    go_wp2_with fail
    try rw [hw0]
    clear hw0
    refine (put_one lo E v l 9 0 0 0 t _ HBX.out.em HBX.out.hi (by omega)).mono ?_
    rintro e w9 ⟨x, v9, rfl, _, h1, h2⟩
    have H1 : Hid (EmIs lo w9 E v9 (l ++ [⟨9, 0, 0, 0, t⟩])) := h1
    have HT9 : Hid (EmTo lo E w v w9 v9) := HTO.out.trans h2
    clear h1 h2 p0 p1 p2 p3
    go_wp2
    refine ⟨rfl, _, results_none rfl _ _ _, _, v9, rfl, trivial, H1.out, HT9.out⟩
  · obtain ⟨r, HRR⟩ : ∃ r, Hid (takeR a 4 = r) := ⟨_, rfl⟩
    have hl2 : (l ++ takeL a 4).length ≤ 900000 := by have := takeL_len a 4; rw [List.length_append]; omega
    go_enter Tryz.func47, Tryz.ntmps47
    go_wp2_with fail
    try rw [hw0]
    clear hw0
    refine (take_any lo E v l a 4 _ HBX.out.em HBX.out.hi (by omega) (ha (by omega))).mono ?_
    rintro ee w2 ⟨x, v2, rfl, rfl, h1, h2⟩
    rw [HRR.out]
    have HB2 : Hid (BoxE lo w2 E w.heap.size v2 (l ++ takeL a 4) #[.int .i64 2, .int .i64 a, .int .i64 t, .int .i64 e] 74) := HBX.out.to h1 h2
    have HT2 : Hid (EmTo lo E w v w2 v2) := HTO.out.trans h2
    have q2 : w2.cell? ⟨w.heap.size, 2, none⟩ = some (.int .i64 t) := HB2.out.cell 2
    have q3 : w2.cell? ⟨w.heap.size, 3, none⟩ = some (.int .i64 e) := HB2.out.cell 3
    clear h1 h2 p0 p1 p2 p3
    go_wp2_with fail
    refine (put_two lo E v2 (l ++ takeL a 4) 10 0 r 0 e 9 0 0 0 t _ HB2.out.em HB2.out.hi (by omega)).mono ?_
    rintro ee w9 ⟨x, v9, rfl, _, h1, h2⟩
    have H1 : Hid (EmIs lo w9 E v9 ((l ++ takeL a 4) ++ [⟨10, 0, r, 0, e⟩, ⟨9, 0, 0, 0, t⟩])) := h1
    have HT9 : Hid (EmTo lo E w v w9 v9) := HT2.out.trans h2
    clear h1 h2 q2 q3
    go_wp2
    refine ⟨rfl, _, results_none rfl _ _ _, _, v9, rfl, trivial, ?_, HT9.out⟩
    have e9 : l ++ termL ⟨2, a, t, e⟩ = (l ++ takeL a 4) ++ [⟨10, 0, r, 0, e⟩, ⟨9, 0, 0, 0, t⟩] := by unfold termL; simp [HRR.out]
    rw [e9]
    exact H1.out
  · obtain ⟨r, HRR⟩ : ∃ r, Hid (takeR a 4 = r) := ⟨_, rfl⟩
    have hl2 : (l ++ takeL a 4).length ≤ 900000 := by have := takeL_len a 4; rw [List.length_append]; omega
    go_enter Tryz.func47, Tryz.ntmps47
    go_wp2_with fail
    try rw [hw0]
    clear hw0
    refine (take_any lo E v l a 4 _ HBX.out.em HBX.out.hi (by omega) (ha (by omega))).mono ?_
    rintro ee w2 ⟨x, v2, rfl, rfl, h1, h2⟩
    rw [HRR.out]
    have HB2 : Hid (BoxE lo w2 E w.heap.size v2 (l ++ takeL a 4) #[.int .i64 3, .int .i64 a, .int .i64 t, .int .i64 e] 74) := HBX.out.to h1 h2
    have HT2 : Hid (EmTo lo E w v w2 v2) := HTO.out.trans h2
    clear h1 h2 p0 p1 p2 p3
    go_wp2_with fail
    refine (put_one lo E v2 (l ++ takeL a 4) 11 0 r 0 0 _ HB2.out.em HB2.out.hi (by omega)).mono ?_
    rintro ee w9 ⟨x, v9, rfl, _, h1, h2⟩
    have H1 : Hid (EmIs lo w9 E v9 ((l ++ takeL a 4) ++ [⟨11, 0, r, 0, 0⟩])) := h1
    have HT9 : Hid (EmTo lo E w v w9 v9) := HT2.out.trans h2
    clear h1 h2
    go_wp2
    refine ⟨rfl, _, results_none rfl _ _ _, _, v9, rfl, trivial, ?_, HT9.out⟩
    have e9 : l ++ termL ⟨3, a, t, e⟩ = (l ++ takeL a 4) ++ [⟨11, 0, r, 0, 0⟩] := by unfold termL; simp [HRR.out]
    rw [e9]
    exact H1.out
end Go.Proofs.YtkejplddeelahaaGreatDoor
