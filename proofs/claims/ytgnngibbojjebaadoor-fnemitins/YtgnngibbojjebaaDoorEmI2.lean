/- Code from homes, the program's parts: what a home has is taken, given, copied. -/
import Derived.Test.YtgnngibbojjebaaDoorEmI1
namespace Go.Proofs.YtgnngibbojjebaaDoor
open Go.ChangeShapes Go.WideShapes Go.ChangeAt Go.RowKit
set_option linter.unusedVariables false

set_option maxHeartbeats 1000000 in
theorem take_any (lo E : Nat) (v : Value) (l : List InsD) (h way : Int) (w : World) (he : EmIs lo w E v l) (hlo : lo ≤ w.heap.size) (hn : l.length ≤ 1000000) (hh : homeB h = true) :
    Calls Tryd.prog 61 #[.pointer (some ⟨E, 0, none⟩), .int .i64 h, .int .i64 way] w fun e w' => GivesEm lo E w v (fun x => x = .int .i64 (takeR h way)) (l ++ takeL h way) e w' := by
  have HE : Hid (EmIs lo w E v l) := he
  obtain ⟨c0, c1, f0, hE⟩ := he.cells
  have hb := homeB_iff.1 hh
  obtain ⟨r, HRR⟩ : ∃ r, Hid (takeR h way = r) := ⟨_, rfl⟩
  rw [HRR.out]
  clear he
  by_cases h4 : 4 ≤ h
  · have hd : decide (4 ≤ h) = true := by simpa using h4
    have e9 : takeL h way = [⟨3, way, 0, 0, h - 4⟩] := by unfold takeL; rw [if_pos h4]
    have e8 : way = r := by rw [← HRR.out]; unfold takeR; rw [if_pos h4]
    obtain ⟨hs, HHS⟩ : ∃ z, Hid (h - 4 = z) := ⟨_, rfl⟩
    rw [e9, e8, HHS.out]
    rw [e8] at HRR
    clear e8 e9
    go_enter Tryd.func61, Tryd.ntmps61
    go_wp2_with fail
    refine (registerOf_any h r _).mono ?_
    rw [HRR.out]
    rintro e w1 ⟨rfl, hw1⟩
    subst hw1
    go_wp2_with fail
    refine (isSlot_any h _).mono ?_
    rw [hd]
    rintro e w2 ⟨rfl, hw2⟩
    subst hw2
    go_wp2_with fail
    refine (slotOf_any h _ hb).mono ?_
    rintro e w3 ⟨rfl, hw3⟩
    subst hw3
    rw [HHS.out]
    clear c0 c1 f0
    go_wp2_with fail
    refine (put_one lo E v l 3 r 0 0 hs _ HE.out hlo (by omega)).mono ?_
    rintro e w4 ⟨x, v', rfl, _, h1, h2⟩
    have H1 : Hid (EmIs lo w4 E v' (l ++ [⟨3, r, 0, 0, hs⟩])) := h1
    have H2 : Hid (EmTo lo E _ v w4 v') := h2
    clear h1 h2
    go_wp2
    go_ret
    exact ⟨_, v', rfl, rfl, H1.out, H2.out⟩
  · have hd : decide (4 ≤ h) = false := by simpa using h4
    have e9 : takeL h way = [] := by unfold takeL; rw [if_neg h4]
    rw [e9, List.append_nil]
    go_enter Tryd.func61, Tryd.ntmps61
    go_wp2_with fail
    refine (registerOf_any h way _).mono ?_
    rw [HRR.out]
    rintro e w1 ⟨rfl, hw1⟩
    subst hw1
    go_wp2_with fail
    refine (isSlot_any h _).mono ?_
    rw [hd]
    rintro e w2 ⟨rfl, hw2⟩
    subst hw2
    go_wp2
    go_ret
    exact ⟨_, v, rfl, rfl, HE.out, EmTo.refl _ _ _ _⟩

set_option maxRecDepth 100000 in
set_option maxHeartbeats 1000000 in
theorem give_any (lo E : Nat) (v : Value) (l : List InsD) (h op r0 a b n : Int) (w : World) (he : EmIs lo w E v l) (hlo : lo ≤ w.heap.size) (hn : l.length ≤ 1000000) (hh : homeB h = true) :
    Calls Tryd.prog 62 #[.pointer (some ⟨E, 0, none⟩), .int .i64 h, .agg #[.int .i64 op, .int .i64 r0, .int .i64 a, .int .i64 b, .int .i64 n]] w fun e w' => GivesEm lo E w v (fun _ => True) (l ++ giveL h op a b n) e w' := by
  have HE : Hid (EmIs lo w E v l) := he
  obtain ⟨c0, c1, f0, hE⟩ := he.cells
  have hb := homeB_iff.1 hh
  obtain ⟨r, HRR⟩ : ∃ r, Hid (takeR h 6 = r) := ⟨_, rfl⟩
  obtain ⟨w0, hw0⟩ : ∃ W, w.alloc (.cells #[.int .i64 op, .int .i64 r0, .int .i64 a, .int .i64 b, .int .i64 n] 32) = W := ⟨_, rfl⟩
  have HB0 : Hid (Below w.heap.size w w0) := by show Below _ _ _; rw [← hw0]; exact Bel.alloc _ _
  have HX0 : Hid (w0.heap[w.heap.size]? = some (.cells #[.int .i64 op, .int .i64 r0, .int .i64 a, .int .i64 b, .int .i64 n] 32 (0, 0))) := by show _ = _; rw [← hw0]; exact World.alloc_heap_new _ _
  have hz0 : w0.heap.size = w.heap.size + 1 := by rw [← hw0]; simp
  have HE0 : Hid (EmIs lo w0 E v l) := he.grow HB0.out
  -- the register is put into the box
  obtain ⟨w1, hw1⟩ : ∃ W, w0.setCell ⟨w.heap.size, 1, none⟩ (.int .i64 r) = W := ⟨_, rfl⟩
  have HX1 : Hid (w1.heap[w.heap.size]? = some (.cells #[.int .i64 op, .int .i64 r, .int .i64 a, .int .i64 b, .int .i64 n] 32 (0, 0))) := by
    show _ = _
    rw [← hw1]
    have h9 := HX0.out
    simp [World.setCell, Array.getElem?_modify, h9]
  have HB1 : Hid (Below w.heap.size w w1) := by show Below _ _ _; rw [← hw1]; exact HB0.out.setCell (p := ⟨w.heap.size, 1, none⟩) (Nat.le_refl _) _
  have HZ1 : Hid (w1.heap.size = w.heap.size + 1) := by show _ = _; rw [← hw1]; simpa using hz0
  have HE1 : Hid (EmIs lo w1 E v l) := he.grow HB1.out
  have q0 : w1.cell? ⟨w.heap.size, 0, none⟩ = some (.int .i64 op) := by simp [World.cell?, HX1.out]
  have q1 : w1.cell? ⟨w.heap.size, 1, none⟩ = some (.int .i64 r) := by simp [World.cell?, HX1.out]
  have q2 : w1.cell? ⟨w.heap.size, 2, none⟩ = some (.int .i64 a) := by simp [World.cell?, HX1.out]
  have q3 : w1.cell? ⟨w.heap.size, 3, none⟩ = some (.int .i64 b) := by simp [World.cell?, HX1.out]
  have q4 : w1.cell? ⟨w.heap.size, 4, none⟩ = some (.int .i64 n) := by simp [World.cell?, HX1.out]
  have p1 : w0.cell? ⟨w.heap.size, 1, none⟩ = some (.int .i64 r0) := by simp [World.cell?, HX0.out]
  have g1 : w0.frozen? ⟨w.heap.size, 1, none⟩ = false := by simp [World.frozen?, HX0.out]
  have d1 : w0.cell? ⟨E, 1, none⟩ = some (.func (.func 56) #[] #[]) := HE0.out.cells.2.1
  clear he c0 c1 f0 hz0
  go_enter Tryd.func62, Tryd.ntmps62
  go_wp2_with fail
  try rw [hw0]
  refine (registerOf_any h 6 _).mono ?_
  rw [HRR.out]
  rintro e w2 ⟨rfl, hw2⟩
  subst hw2
  clear hw0 d1
  go_wp2_with fail
  try rw [hw1]
  clear hw1 p1 g1 q0 q1 q2 q3 q4
  refine (put_one lo E v l op r a b n _ HE1.out (by have := HZ1.out; omega) (by omega)).mono ?_
  rintro e w3 ⟨x, v3, rfl, _, h1, h2⟩
  have HE3 : Hid (EmIs lo w3 E v3 (l ++ [⟨op, r, a, b, n⟩])) := h1
  have HTO : Hid (EmTo lo E w v w3 v3) := (EmTo.grow v HB1.out hlo).trans h2
  have hvlt : some w.heap.size ≠ v.ownBlock := fun e => by
    have := (HE.out.own.lt _ e.symm).2
    omega
  have hX3 : w3.heap[w.heap.size]? = some (.cells #[.int .i64 op, .int .i64 r, .int .i64 a, .int .i64 b, .int .i64 n] 32 (0, 0)) := (h2.same _ (by have := HZ1.out; omega) (by omega) hvlt).trans HX1.out
  have t1 : w3.cell? ⟨w.heap.size, 1, none⟩ = some (.int .i64 r) := by simp [World.cell?, hX3]
  have HZ3 : Hid (w.heap.size ≤ w3.heap.size) := by show _ ≤ _; have h8 := h2.bel.size; have := HZ1.out; omega
  have HNV : Hid (some w.heap.size ≠ v3.ownBlock) := fun e9 => by
    rcases h2.new with e5 | ⟨g5, e5, h5⟩
    · rw [e5] at e9; exact hvlt e9
    · rw [e5] at e9
      simp at e9
      have := HZ1.out
      omega
  have hlt3 : w.heap.size < w3.heap.size := by have h8 := h2.bel.size; have := HZ1.out; omega
  clear h1 h2 hX3 hvlt
  by_cases h4 : 4 ≤ h
  · have hd : decide (4 ≤ h) = true := by simpa using h4
    obtain ⟨hs, HHS⟩ : ∃ z, Hid (h - 4 = z) := ⟨_, rfl⟩
    have e6 : r = 6 := by rw [← HRR.out]; unfold takeR; rw [if_pos h4]
    subst e6
    have e9 : l ++ giveL h op a b n = (l ++ [⟨op, 6, a, b, n⟩]) ++ [⟨4, 0, 6, 0, hs⟩] := by unfold giveL; rw [if_pos h4, HHS.out]; simp
    have HE9 : Hid (l ++ giveL h op a b n = (l ++ [⟨op, 6, a, b, n⟩]) ++ [⟨4, 0, 6, 0, hs⟩]) := e9
    clear e9
    go_wp2_with fail
    refine (isSlot_any h _).mono ?_
    rw [hd]
    rintro e w4 ⟨rfl, hw4⟩
    subst hw4
    go_wp2_with fail
    refine wp_region_held_drew (S := fun w' => w'.cell? ⟨w.heap.size, 1, none⟩ = some (.int .i64 6)) (by kernel_rfl) t1 (fun hHeld => ?_)
    refine wpAnyH_take (i := 0) (oi := { dst := some 19, op := Go.Op.move (Go.Operand.tmp 0), type := 50, pos := "l15_emit.go:108", after := #[], guard := none }) (v := ?_) rfl (by kernel_rfl) (by kernel_rfl) (by kernel_rfl) (fun _ _ _ h => h) (Or.inl ⟨by rfl, ?_⟩) (by assumption) ?_
    rotate_left
    · intro w hSw
      (try dsimp only at hSw)
      go_simp
      (try with_reducible rfl)
    try simp only [Act.put, List.setIfInBounds_toArray, List.set_cons_zero, List.set_cons_succ]
    refine wpAnyH_take (i := 1) (oi := { dst := some 20, op := Go.Op.fieldAddr 32 (Go.Operand.tmp 5) 1, type := 0, pos := "l15_emit.go:108", after := #[], guard := none }) (v := ?_) rfl (by kernel_rfl) (by kernel_rfl) (by kernel_rfl) (fun _ _ _ h => h) (Or.inl ⟨by rfl, ?_⟩) (by assumption) ?_
    rotate_left
    · intro w hSw
      (try dsimp only at hSw)
      go_simp
      (try with_reducible rfl)
    try simp only [Act.put, List.setIfInBounds_toArray, List.set_cons_zero, List.set_cons_succ]
    refine wpAnyH_take (i := 2) (oi := { dst := some 21, op := Go.Op.load 3 (Go.Operand.tmp 20), type := 3, pos := "l15_emit.go:108", after := #[{ on := 1, ground := Go.Ground.data }], guard := none }) (v := ?_) rfl (by kernel_rfl) (by kernel_rfl) (by kernel_rfl) (fun _ _ _ h => h) (Or.inl ⟨by rfl, ?_⟩) (by assumption) ?_
    rotate_left
    · intro w hSw
      (try dsimp only at hSw)
      go_simp
      (try with_reducible rfl)
    try simp only [Act.put, List.setIfInBounds_toArray, List.set_cons_zero, List.set_cons_succ]
    refine wpAnyH_take (i := 3) (oi := { dst := some 22, op := Go.Op.move (Go.Operand.tmp 1), type := 3, pos := "l15_emit.go:108", after := #[], guard := none }) (v := ?_) rfl (by kernel_rfl) (by kernel_rfl) (by kernel_rfl) (fun _ _ _ h => h) (Or.inl ⟨by rfl, ?_⟩) (by assumption) ?_
    rotate_left
    · intro w hSw
      (try dsimp only at hSw)
      go_simp
      (try with_reducible rfl)
    try simp only [Act.put, List.setIfInBounds_toArray, List.set_cons_zero, List.set_cons_succ]
    refine ckAnyH_oneK (i := 4) (o := { dst := some 23, op := Go.Op.call { callee := Go.Callee.value (Go.Operand.func 72), args := #[Go.Operand.tmp 22], argTypes := #[3] }, type := 3, pos := "l15_emit.go:108", after := #[{ on := 3, ground := Go.Ground.data }], guard := none }) rfl rfl (by kernel_rfl) (fun K9 hK9 => ?_)
    refine wp_call_of (f := 72) (args := #[.int .i64 h]) (by go_simp) (slotOf_any h _ hb) ?_
    rintro e w5 ⟨rfl, hw5⟩
    subst hw5
    rw [HHS.out]
    refine ⟨_, rfl, hK9 _ _ ⟨hHeld, ?_⟩⟩
    try simp only [Act.put, List.setIfInBounds_toArray, List.set_cons_zero, List.set_cons_succ]
    clear hK9
    refine wpAnyH_take (i := 5) (oi := { dst := some 24, op := Go.Op.build 32 #[(0, Go.Operand.const (Go.Value.int Go.IntKind.i64 4)), (2, Go.Operand.tmp 21), (4, Go.Operand.tmp 23)], type := 32, pos := "l15_emit.go:108", after := #[{ on := 2, ground := Go.Ground.data }, { on := 4, ground := Go.Ground.data }], guard := none }) (v := ?_) rfl (by kernel_rfl) (by kernel_rfl) (by kernel_rfl) (fun _ _ _ h => h) (Or.inl ⟨by rfl, ?_⟩) (by assumption) ?_
    rotate_left
    · intro w hSw
      (try dsimp only at hSw)
      go_simp
      (try with_reducible rfl)
    try simp only [Act.put, List.setIfInBounds_toArray, List.set_cons_zero, List.set_cons_succ]
    refine ckAnyH_oneK (i := 6) (o := { dst := some 25, op := Go.Op.buildSlice 27 1 #[(0, Go.Operand.tmp 24)], type := 27, pos := "l15_emit.go:108", after := #[{ on := 5, ground := Go.Ground.data }], guard := none }) rfl rfl (by kernel_rfl) (fun K9 hK9 => ?_)
    have hS6 : (w4.drew.alloc (.cells #[.int .i64 4, .int .i64 0, .int .i64 6, .int .i64 0, .int .i64 hs] 32)).cell? ⟨w.heap.size, 1, none⟩ = some (.int .i64 6) := Bel.keeps (Bel.alloc _ _) hHeld
    refine wp_value (v := .slice (some ⟨w4.drew.heap.size, 0, none⟩) 1 1) (w' := w4.drew.alloc (.cells #[.int .i64 4, .int .i64 0, .int .i64 6, .int .i64 0, .int .i64 hs] 32)) (by simp [execOp, Instr.buildSlice, go_sem]) (hK9 _ _ ⟨hS6, ?_⟩)
    try simp only [Act.put, List.setIfInBounds_toArray, List.set_cons_zero, List.set_cons_succ]
    clear hK9
    refine ckAnyH_oneK (i := 7) (o := { dst := some 26, op := Go.Op.call { callee := Go.Callee.value (Go.Operand.func 63), args := #[Go.Operand.tmp 19, Go.Operand.tmp 25], argTypes := #[50, 27] }, type := 0, pos := "l15_emit.go:108", after := #[{ on := 0, ground := Go.Ground.data }, { on := 6, ground := Go.Ground.data }, { on := 4, ground := Go.Ground.chain }], guard := none }) rfl rfl (by kernel_rfl) (fun K9 hK9 => ?_)
    have hdr : Below w4.heap.size w4 w4.drew := (Below.refl _ w4).drew
    refine wp_call_of (f := 63) (args := #[.pointer (some ⟨E, 0, none⟩), .slice (some ⟨w4.drew.heap.size, 0, none⟩) 1 1]) (by go_simp) (put_one lo E v3 (l ++ [⟨op, 6, a, b, n⟩]) 4 0 6 0 hs w4.drew (HE3.out.grow hdr) (by have h8 := HZ3.out; have h9 := hdr.size; omega) (by rw [List.length_append, List.length_singleton]; omega)) ?_
    rintro e w6 ⟨x, v6, rfl, _, h1, h2⟩
    have HTO6 : EmTo lo E w v w6 v6 := (HTO.out.trans (EmTo.grow v3 hdr (by have h8 := HZ3.out; omega))).trans h2
    refine ⟨_, rfl, hK9 _ _ ⟨?_, ?_⟩⟩
    · have e8 := h2.same w.heap.size (Nat.lt_of_lt_of_le hlt3 hdr.size) (by omega) HNV.out
      exact (World.cell?_of_block (a := ⟨w.heap.size, 1, none⟩) e8).trans hHeld
    · refine wpAnyH_done (by kernel_rfl) ?_ _
      refine ⟨rfl, _, results_none rfl _ _ _, _, v6, rfl, trivial, by rw [HE9.out]; exact h1, HTO6⟩
  · have hd : decide (4 ≤ h) = false := by simpa using h4
    have e6 : r = h := by rw [← HRR.out]; unfold takeR; rw [if_neg h4]
    have HE9 : Hid (l ++ giveL h op a b n = l ++ [⟨op, r, a, b, n⟩]) := by show _ = _; unfold giveL; rw [if_neg h4, e6]
    clear e6
    go_wp2_with fail
    refine (isSlot_any h _).mono ?_
    rw [hd]
    rintro e w4 ⟨rfl, hw4⟩
    subst hw4
    go_wp2
    refine ⟨rfl, _, results_none rfl _ _ _, _, v3, rfl, trivial, by rw [HE9.out]; exact HE3.out, HTO.out⟩
end Go.Proofs.YtgnngibbojjebaaDoor
