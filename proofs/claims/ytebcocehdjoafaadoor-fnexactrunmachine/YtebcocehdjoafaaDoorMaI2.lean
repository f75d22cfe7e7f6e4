/- What each step of the program's machine does. -/
import Derived.Test.YtebcocehdjoafaaDoorMaI1
import Derived.Test.YtebcocehdjoafaaDoorMaSt
import Derived.Test.YtebcocehdjoafaaDoorCmOne
import Derived.Test.YtebcocehdjoafaaDoorCks
namespace Go.Proofs.YtebcocehdjoafaaDoor
open Go.ChangeShapes Go.WideShapes Go.ChangeAt Go.RowKit Go.Shelf
set_option linter.unusedVariables false

theorem keep_reg {w : World} {M d a : Nat} {y : Int} (c : w.cell? ⟨M, 12 + a, none⟩ = some (.int .i64 y)) : (w.setCell ⟨M, 12 + d, none⟩ (.int .i64 y)).cell? ⟨M, 12 + a, none⟩ = some (.int .i64 y) := by
  by_cases e : a = d
  · subst e
    exact World.cell?_setCell_same _ _ _ c
  · exact far_off c (by omega)

section
variable {P : Program} {ops : Array Oper} {Q : Exit → Act → World → Prop} {md : Region.Mode} {S : World → Prop} {m : Nat}
theorem cmAnyM_twoK {i j : Nat} {o o2 : Oper} {fuel : Nat} {li : Array Bool} {a : Act} {w : World} (ho : ops[i]? = some o) (hg : o.guard = none) (ho2 : ops[j]? = some o2) (hg2 : o2.guard = none) (hr : Region.ready md ops li = [i, j])
    (h : ∀ K : Act → World → Prop, (∀ a' w', ((i ≠ m → S w') ∧ wpAnyM P md ops Q m S fuel (li.setIfInBounds i true) a' w') → K a' w') → o.wp P a w K Q)
    (h2 : ∀ K : Act → World → Prop, (∀ a' w', ((j ≠ m → S w') ∧ wpAnyM P md ops Q m S fuel (li.setIfInBounds j true) a' w') → K a' w') → o2.wp P a w K Q) : wpAnyM P md ops Q m S (fuel + 1) li a w := by
  refine ⟨fun h0 => (by rw [hr] at h0; simp at h0), fun q hq => ?_⟩
  rw [hr] at hq
  have hq2 : q = i ∨ q = j := by simpa using hq
  rcases hq2 with e | e
  · subst e
    unfold wpOp
    simp only [ho]
    rw [if_pos (by simp [Region.wanted, hg])]
    exact .inl (h _ (fun _ _ h => h))
  · subst e
    unfold wpOp
    simp only [ho2]
    rw [if_pos (by simp [Region.wanted, hg2])]
    exact .inl (h2 _ (fun _ _ h => h))
end

section
variable {W0 : World} {M : Nat} {m : MacS} {x : MacE}

set_option maxRecDepth 100000 in
set_option maxHeartbeats 4000000 in
theorem mset_any (d : Nat) (n : Int) (hd : d < 8) (w : World) (h : MacIs W0 w M m x) :
    Calls Tryd.prog 55 #[.pointer (some ⟨M, 0, none⟩), .agg #[.int .i64 1, .int .i64 (d : Int), .int .i64 0, .int .i64 0, .int .i64 n]] w fun e w' => (∃ v, e = .returned v) ∧ MacTo W0 M w { m with regs := updN m.regs d n } x w' := by
  have HH0 : Hid (MacIs W0 w M m x) := h
  clear h
  go_enter Tryd.func55, Tryd.ntmps55
  go_wp2_with fail
  obtain ⟨x0, x1, x2, x3, x4⟩ := insBox_new w 25 (1) ((d : Int)) (0) (0) (n)
  have h := HH0.out.later (Bel.alloc w (.cells #[.int .i64 1, .int .i64 (d : Int), .int .i64 0, .int .i64 0, .int .i64 n] 25))
  have HF : Hid (FrR M M w (w.alloc (.cells #[.int .i64 1, .int .i64 (d : Int), .int .i64 0, .int .i64 0, .int .i64 n] 25))) := FrR.ofBelow (Bel.alloc _ _)
  have hMB : M ≠ w.heap.size := by have := HH0.out.lt; omega
  have HBX : Hid ((w.alloc (.cells #[.int .i64 1, .int .i64 (d : Int), .int .i64 0, .int .i64 0, .int .i64 n] 25)).heap[w.heap.size]? = some (.cells #[.int .i64 (1), .int .i64 ((d : Int)), .int .i64 (0), .int .i64 (0), .int .i64 (n)] 25 (0, 0))) := World.alloc_heap_new w _
  generalize w.alloc (.cells #[.int .i64 1, .int .i64 (d : Int), .int .i64 0, .int .i64 0, .int .i64 n] 25) = w1 at x0 x1 x2 x3 x4 h HF HBX ⊢
  generalize w.heap.size = B at x0 x1 x2 x3 x4 hMB HBX ⊢
  obtain ⟨rv, tv, h⟩ := h
  have HH : Hid (MacAt W0 w1 M m x rv tv) := h
  have cd := h.cells.cr d hd
  have fz := h.frozen (12 + d)
  have hd2 : (d : Int) < 8 := by omega
  clear h
  go_region_held3 (fun w' => w'.cell? ⟨B, 1, none⟩ = some (.int .i64 ((d : Int))) ∧ w'.cell? ⟨B, 4, none⟩ = some (.int .i64 (n))) (first | exact ⟨far_block x1 hMB, far_block x4 hMB⟩ | go_keep) (fail)
  go_end0
  refine ⟨⟨_, rfl⟩, ⟨rv, tv, ?_⟩, ?_⟩
  · first | exact (HH.out.setReg hd n).drew.drew | exact (HH.out.setReg hd n).drew | exact HH.out.setReg hd n
  · refine HF.out.trans ?_
    repeat (first | exact FrR.setR _ _ _ _ _ | refine FrR.trans ?_ (FrR.drew _ _ _))

set_option maxRecDepth 100000 in
set_option maxHeartbeats 4000000 in
theorem mmove_any (d a : Nat) (hd : d < 8) (ha : a < 8) (w : World) (h : MacIs W0 w M m x) :
    Calls Tryd.prog 56 #[.pointer (some ⟨M, 0, none⟩), .agg #[.int .i64 2, .int .i64 (d : Int), .int .i64 (a : Int), .int .i64 0, .int .i64 0]] w fun e w' => (∃ v, e = .returned v) ∧ MacTo W0 M w { m with regs := updN m.regs d (m.regs a) } x w' := by
  have HH0 : Hid (MacIs W0 w M m x) := h
  clear h
  go_enter Tryd.func56, Tryd.ntmps56
  go_wp2_with fail
  obtain ⟨x0, x1, x2, x3, x4⟩ := insBox_new w 25 (2) ((d : Int)) ((a : Int)) (0) (0)
  have h := HH0.out.later (Bel.alloc w (.cells #[.int .i64 2, .int .i64 (d : Int), .int .i64 (a : Int), .int .i64 0, .int .i64 0] 25))
  have HF : Hid (FrR M M w (w.alloc (.cells #[.int .i64 2, .int .i64 (d : Int), .int .i64 (a : Int), .int .i64 0, .int .i64 0] 25))) := FrR.ofBelow (Bel.alloc _ _)
  have hMB : M ≠ w.heap.size := by have := HH0.out.lt; omega
  have HBX : Hid ((w.alloc (.cells #[.int .i64 2, .int .i64 (d : Int), .int .i64 (a : Int), .int .i64 0, .int .i64 0] 25)).heap[w.heap.size]? = some (.cells #[.int .i64 (2), .int .i64 ((d : Int)), .int .i64 ((a : Int)), .int .i64 (0), .int .i64 (0)] 25 (0, 0))) := World.alloc_heap_new w _
  generalize w.alloc (.cells #[.int .i64 2, .int .i64 (d : Int), .int .i64 (a : Int), .int .i64 0, .int .i64 0] 25) = w1 at x0 x1 x2 x3 x4 h HF HBX ⊢
  generalize w.heap.size = B at x0 x1 x2 x3 x4 hMB HBX ⊢
  obtain ⟨rv, tv, h⟩ := h
  have HH : Hid (MacAt W0 w1 M m x rv tv) := h
  have cd := h.cells.cr d hd
  have ca := h.cells.cr a ha
  obtain ⟨y, HY⟩ : ∃ y, Hid (m.regs a = y) := ⟨_, rfl⟩
  rw [HY.out] at ca
  have fz := h.frozen (12 + d)
  have hd2 : (d : Int) < 8 := by omega
  have ha2 : (a : Int) < 8 := by omega
  clear h
  go_region_held3 (fun w' => w'.cell? ⟨B, 1, none⟩ = some (.int .i64 ((d : Int))) ∧ w'.cell? ⟨B, 2, none⟩ = some (.int .i64 ((a : Int))) ∧ w'.cell? ⟨M, 12 + a, none⟩ = some (.int .i64 y)) (first | exact ⟨far_block x1 hMB, far_block x2 hMB, keep_reg ca⟩ | go_keep) (fail)
  go_end0
  rw [HY.out]
  refine ⟨⟨_, rfl⟩, ⟨rv, tv, ?_⟩, ?_⟩
  · first | exact (HH.out.setReg hd y).drew.drew | exact (HH.out.setReg hd y).drew | exact HH.out.setReg hd y
  · refine HF.out.trans ?_
    repeat (first | exact FrR.setR _ _ _ _ _ | refine FrR.trans ?_ (FrR.drew _ _ _))

set_option maxRecDepth 100000 in
set_option maxHeartbeats 4000000 in
theorem mget_any (d n : Nat) (hd : d < 8) (hn : n < 40) (w : World) (h : MacIs W0 w M m x) :
    Calls Tryd.prog 57 #[.pointer (some ⟨M, 0, none⟩), .agg #[.int .i64 3, .int .i64 (d : Int), .int .i64 0, .int .i64 0, .int .i64 (n : Int)]] w fun e w' => (∃ v, e = .returned v) ∧ MacTo W0 M w { m with regs := updN m.regs d (m.slots n) } x w' := by
  have HH0 : Hid (MacIs W0 w M m x) := h
  clear h
  go_enter Tryd.func57, Tryd.ntmps57
  go_wp2_with fail
  obtain ⟨x0, x1, x2, x3, x4⟩ := insBox_new w 25 (3) ((d : Int)) (0) (0) ((n : Int))
  have h := HH0.out.later (Bel.alloc w (.cells #[.int .i64 3, .int .i64 (d : Int), .int .i64 0, .int .i64 0, .int .i64 (n : Int)] 25))
  have HF : Hid (FrR M M w (w.alloc (.cells #[.int .i64 3, .int .i64 (d : Int), .int .i64 0, .int .i64 0, .int .i64 (n : Int)] 25))) := FrR.ofBelow (Bel.alloc _ _)
  have hMB : M ≠ w.heap.size := by have := HH0.out.lt; omega
  have HBX : Hid ((w.alloc (.cells #[.int .i64 3, .int .i64 (d : Int), .int .i64 0, .int .i64 0, .int .i64 (n : Int)] 25)).heap[w.heap.size]? = some (.cells #[.int .i64 (3), .int .i64 ((d : Int)), .int .i64 (0), .int .i64 (0), .int .i64 ((n : Int))] 25 (0, 0))) := World.alloc_heap_new w _
  generalize w.alloc (.cells #[.int .i64 3, .int .i64 (d : Int), .int .i64 0, .int .i64 0, .int .i64 (n : Int)] 25) = w1 at x0 x1 x2 x3 x4 h HF HBX ⊢
  generalize w.heap.size = B at x0 x1 x2 x3 x4 hMB HBX ⊢
  obtain ⟨rv, tv, h⟩ := h
  have HH : Hid (MacAt W0 w1 M m x rv tv) := h
  have cd := h.cells.cr d hd
  have ca := h.cells.cs n hn
  obtain ⟨y, HY⟩ : ∃ y, Hid (m.slots n = y) := ⟨_, rfl⟩
  rw [HY.out] at ca
  have fz := h.frozen (12 + d)
  have hd2 : (d : Int) < 8 := by omega
  have hn2 : (n : Int) < 40 := by omega
  clear h
  go_region_held3 (fun w' => w'.cell? ⟨B, 1, none⟩ = some (.int .i64 ((d : Int))) ∧ w'.cell? ⟨B, 4, none⟩ = some (.int .i64 ((n : Int))) ∧ w'.cell? ⟨M, 20 + n, none⟩ = some (.int .i64 y)) (first | exact ⟨far_block x1 hMB, far_block x4 hMB, far_off ca (by omega)⟩ | go_keep) (fail)
  go_end0
  rw [HY.out]
  refine ⟨⟨_, rfl⟩, ⟨rv, tv, ?_⟩, ?_⟩
  · first | exact (HH.out.setReg hd y).drew.drew | exact (HH.out.setReg hd y).drew | exact HH.out.setReg hd y
  · refine HF.out.trans ?_
    repeat (first | exact FrR.setR _ _ _ _ _ | refine FrR.trans ?_ (FrR.drew _ _ _))

set_option maxRecDepth 100000 in
set_option maxHeartbeats 4000000 in
theorem mput_any (a n : Nat) (ha : a < 8) (hn : n < 40) (w : World) (h : MacIs W0 w M m x) :
    Calls Tryd.prog 58 #[.pointer (some ⟨M, 0, none⟩), .agg #[.int .i64 4, .int .i64 0, .int .i64 (a : Int), .int .i64 0, .int .i64 (n : Int)]] w fun e w' => (∃ v, e = .returned v) ∧ MacTo W0 M w { m with slots := updN m.slots n (m.regs a) } x w' := by
  have HH0 : Hid (MacIs W0 w M m x) := h
  clear h
  go_enter Tryd.func58, Tryd.ntmps58
  go_wp2_with fail
  obtain ⟨x0, x1, x2, x3, x4⟩ := insBox_new w 25 (4) (0) ((a : Int)) (0) ((n : Int))
  have h := HH0.out.later (Bel.alloc w (.cells #[.int .i64 4, .int .i64 0, .int .i64 (a : Int), .int .i64 0, .int .i64 (n : Int)] 25))
  have HF : Hid (FrR M M w (w.alloc (.cells #[.int .i64 4, .int .i64 0, .int .i64 (a : Int), .int .i64 0, .int .i64 (n : Int)] 25))) := FrR.ofBelow (Bel.alloc _ _)
  have hMB : M ≠ w.heap.size := by have := HH0.out.lt; omega
  have HBX : Hid ((w.alloc (.cells #[.int .i64 4, .int .i64 0, .int .i64 (a : Int), .int .i64 0, .int .i64 (n : Int)] 25)).heap[w.heap.size]? = some (.cells #[.int .i64 (4), .int .i64 (0), .int .i64 ((a : Int)), .int .i64 (0), .int .i64 ((n : Int))] 25 (0, 0))) := World.alloc_heap_new w _
  generalize w.alloc (.cells #[.int .i64 4, .int .i64 0, .int .i64 (a : Int), .int .i64 0, .int .i64 (n : Int)] 25) = w1 at x0 x1 x2 x3 x4 h HF HBX ⊢
  generalize w.heap.size = B at x0 x1 x2 x3 x4 hMB HBX ⊢
  obtain ⟨rv, tv, h⟩ := h
  have HH : Hid (MacAt W0 w1 M m x rv tv) := h
  have cd := h.cells.cs n hn
  have ca := h.cells.cr a ha
  obtain ⟨y, HY⟩ : ∃ y, Hid (m.regs a = y) := ⟨_, rfl⟩
  rw [HY.out] at ca
  have fz := h.frozen (20 + n)
  have ha2 : (a : Int) < 8 := by omega
  have hn2 : (n : Int) < 40 := by omega
  clear h
  go_region_held3 (fun w' => w'.cell? ⟨B, 2, none⟩ = some (.int .i64 ((a : Int))) ∧ w'.cell? ⟨B, 4, none⟩ = some (.int .i64 ((n : Int))) ∧ w'.cell? ⟨M, 12 + a, none⟩ = some (.int .i64 y)) (first | exact ⟨far_block x2 hMB, far_block x4 hMB, far_off ca (by omega)⟩ | go_keep) (fail)
  go_end0
  rw [HY.out]
  refine ⟨⟨_, rfl⟩, ⟨rv, tv, ?_⟩, ?_⟩
  · first | exact (HH.out.setSlot hn y).drew.drew | exact (HH.out.setSlot hn y).drew | exact HH.out.setSlot hn y
  · refine HF.out.trans ?_
    repeat (first | exact FrR.setR _ _ _ _ _ | refine FrR.trans ?_ (FrR.drew _ _ _))

set_option maxRecDepth 100000 in
set_option maxHeartbeats 4000000 in
theorem mload_yes (d a c : Nat) (hd : d < 8) (ha : a < 8) (hc : c < 8) (hv : m.regs a = (c : Int)) (w : World) (h : MacIs W0 w M m x) :
    Calls Tryd.prog 59 #[.pointer (some ⟨M, 0, none⟩), .agg #[.int .i64 5, .int .i64 (d : Int), .int .i64 (a : Int), .int .i64 0, .int .i64 0]] w fun e w' => (∃ v, e = .returned v) ∧ MacTo W0 M w { m with regs := updN m.regs d (m.cells c) } x w' := by
  have HH0 : Hid (MacIs W0 w M m x) := h
  clear h
  go_enter Tryd.func59, Tryd.ntmps59
  go_wp2_with fail
  obtain ⟨x0, x1, x2, x3, x4⟩ := insBox_new w 25 (5) ((d : Int)) ((a : Int)) (0) (0)
  have h := HH0.out.later (Bel.alloc w (.cells #[.int .i64 5, .int .i64 (d : Int), .int .i64 (a : Int), .int .i64 0, .int .i64 0] 25))
  have HF : Hid (FrR M M w (w.alloc (.cells #[.int .i64 5, .int .i64 (d : Int), .int .i64 (a : Int), .int .i64 0, .int .i64 0] 25))) := FrR.ofBelow (Bel.alloc _ _)
  have hMB : M ≠ w.heap.size := by have := HH0.out.lt; omega
  have HBX : Hid ((w.alloc (.cells #[.int .i64 5, .int .i64 (d : Int), .int .i64 (a : Int), .int .i64 0, .int .i64 0] 25)).heap[w.heap.size]? = some (.cells #[.int .i64 (5), .int .i64 ((d : Int)), .int .i64 ((a : Int)), .int .i64 (0), .int .i64 (0)] 25 (0, 0))) := World.alloc_heap_new w _
  generalize w.alloc (.cells #[.int .i64 5, .int .i64 (d : Int), .int .i64 (a : Int), .int .i64 0, .int .i64 0] 25) = w1 at x0 x1 x2 x3 x4 h HF HBX ⊢
  generalize w.heap.size = B at x0 x1 x2 x3 x4 hMB HBX ⊢
  obtain ⟨rv, tv, h⟩ := h
  have HH : Hid (MacAt W0 w1 M m x rv tv) := h
  have cd := h.cells.cr d hd
  have ca := h.cells.cr a ha
  have cc := h.cells.cc c hc
  rw [hv] at ca
  obtain ⟨y, HY⟩ : ∃ y, Hid (m.cells c = y) := ⟨_, rfl⟩
  rw [HY.out] at cc
  have fz := h.frozen (12 + d)
  have hd2 : (d : Int) < 8 := by omega
  have ha2 : (a : Int) < 8 := by omega
  clear hv
  clear h
  go_region_held3 (fun w' => w'.cell? ⟨M, 12 + a, none⟩ = some (.int .i64 (c : Int)) ∧ w'.cell? ⟨B, 2, none⟩ = some (.int .i64 ((a : Int)))) (go_keep) (first | (go_at_call 70; refine (mcell_yes c hc _).mono ?_; rintro e w2 ⟨rfl, hw2⟩; subst hw2))
  simp only [Exit.then]
  go_at_K
  go_wp2
  go_region_held3 (fun w' => w'.cell? ⟨B, 1, none⟩ = some (.int .i64 ((d : Int))) ∧ w'.cell? ⟨M, 2 + c, none⟩ = some (.int .i64 y)) (first | exact ⟨far_block x1 hMB, far_off cc (by omega)⟩ | go_keep) (fail)
  go_end0
  rw [HY.out]
  refine ⟨⟨_, rfl⟩, ⟨rv, tv, ?_⟩, ?_⟩
  · first | exact (HH.out.setReg hd y).drew.drew | exact (HH.out.setReg hd y).drew | exact HH.out.setReg hd y
  · refine HF.out.trans ?_
    repeat (first | exact FrR.setR _ _ _ _ _ | refine FrR.trans ?_ (FrR.drew _ _ _))

set_option maxRecDepth 100000 in
set_option maxHeartbeats 4000000 in
theorem mload_no (d a : Nat) (ha : a < 8) (hv : ¬ cellOk (m.regs a)) (w : World) (h : MacIs W0 w M m x) :
    Calls Tryd.prog 59 #[.pointer (some ⟨M, 0, none⟩), .agg #[.int .i64 5, .int .i64 (d : Int), .int .i64 (a : Int), .int .i64 0, .int .i64 0]] w fun e w' => (∃ v, e = .returned v) ∧ MacTo W0 M w m ⟨x.fuel, true, 2, 0⟩ w' := by
  have HH0 : Hid (MacIs W0 w M m x) := h
  clear h
  go_enter Tryd.func59, Tryd.ntmps59
  go_wp2_with fail
  obtain ⟨x0, x1, x2, x3, x4⟩ := insBox_new w 25 (5) ((d : Int)) ((a : Int)) (0) (0)
  have h := HH0.out.later (Bel.alloc w (.cells #[.int .i64 5, .int .i64 (d : Int), .int .i64 (a : Int), .int .i64 0, .int .i64 0] 25))
  have HF : Hid (FrR M M w (w.alloc (.cells #[.int .i64 5, .int .i64 (d : Int), .int .i64 (a : Int), .int .i64 0, .int .i64 0] 25))) := FrR.ofBelow (Bel.alloc _ _)
  have hMB : M ≠ w.heap.size := by have := HH0.out.lt; omega
  have HBX : Hid ((w.alloc (.cells #[.int .i64 5, .int .i64 (d : Int), .int .i64 (a : Int), .int .i64 0, .int .i64 0] 25)).heap[w.heap.size]? = some (.cells #[.int .i64 (5), .int .i64 ((d : Int)), .int .i64 ((a : Int)), .int .i64 (0), .int .i64 (0)] 25 (0, 0))) := World.alloc_heap_new w _
  generalize w.alloc (.cells #[.int .i64 5, .int .i64 (d : Int), .int .i64 (a : Int), .int .i64 0, .int .i64 0] 25) = w1 at x0 x1 x2 x3 x4 h HF HBX ⊢
  generalize w.heap.size = B at x0 x1 x2 x3 x4 hMB HBX ⊢
  obtain ⟨rv, tv, h⟩ := h
  have HH : Hid (MacAt W0 w1 M m x rv tv) := h
  have ca := h.cells.cr a ha
  obtain ⟨y, HY⟩ : ∃ y, Hid (m.regs a = y) := ⟨_, rfl⟩
  rw [HY.out] at ca
  have HV2 : Hid (¬ cellOk y) := by
    show ¬ cellOk y
    rw [← HY.out]; exact hv
  have ha2 : (a : Int) < 8 := by omega
  clear hv
  clear h
  go_region_held3 (fun w' => w'.cell? ⟨M, 12 + a, none⟩ = some (.int .i64 y) ∧ w'.cell? ⟨B, 2, none⟩ = some (.int .i64 ((a : Int)))) (go_keep) (first | (go_at_call 70; refine (mcell_no y HV2.out _).mono ?_; rintro e w2 ⟨rfl, hw2⟩; subst hw2))
  simp only [Exit.then]
  go_at_K
  go_wp2_with fail
  refine (mstop_any 2 0 _ ⟨rv, tv, by first | exact HH.out.drew.drew | exact HH.out.drew | exact HH.out⟩).mono ?_
  rintro e w3 ⟨⟨v3, rfl⟩, h3, f3⟩
  have H3 : Hid (MacIs W0 w3 M m ⟨x.fuel, true, 2, 0⟩) := h3
  have HF3 : Hid (FrR M M w w3) := HF.out.trans ((by first | exact FrR.drew M M w1 | exact FrR.refl M M w1 : FrR M M w1 _).trans f3)
  clear h3 f3
  go_wp2_with fail
  refine bodyPost_ret (results_none rfl _ _ _) rfl ?_
  exact ⟨⟨_, rfl⟩, H3.out, HF3.out⟩

set_option maxRecDepth 100000 in
set_option maxHeartbeats 4000000 in
theorem mstore_no (a b : Nat) (ha : a < 8) (hv : ¬ cellOk (m.regs a)) (w : World) (h : MacIs W0 w M m x) :
    Calls Tryd.prog 60 #[.pointer (some ⟨M, 0, none⟩), .agg #[.int .i64 6, .int .i64 0, .int .i64 (a : Int), .int .i64 (b : Int), .int .i64 0]] w fun e w' => (∃ v, e = .returned v) ∧ MacTo W0 M w m ⟨x.fuel, true, 2, 0⟩ w' := by
  have HH0 : Hid (MacIs W0 w M m x) := h
  clear h
  go_enter Tryd.func60, Tryd.ntmps60
  go_wp2_with fail
  obtain ⟨x0, x1, x2, x3, x4⟩ := insBox_new w 25 (6) (0) ((a : Int)) ((b : Int)) (0)
  have h := HH0.out.later (Bel.alloc w (.cells #[.int .i64 6, .int .i64 0, .int .i64 (a : Int), .int .i64 (b : Int), .int .i64 0] 25))
  have HF : Hid (FrR M M w (w.alloc (.cells #[.int .i64 6, .int .i64 0, .int .i64 (a : Int), .int .i64 (b : Int), .int .i64 0] 25))) := FrR.ofBelow (Bel.alloc _ _)
  have hMB : M ≠ w.heap.size := by have := HH0.out.lt; omega
  have HBX : Hid ((w.alloc (.cells #[.int .i64 6, .int .i64 0, .int .i64 (a : Int), .int .i64 (b : Int), .int .i64 0] 25)).heap[w.heap.size]? = some (.cells #[.int .i64 (6), .int .i64 (0), .int .i64 ((a : Int)), .int .i64 ((b : Int)), .int .i64 (0)] 25 (0, 0))) := World.alloc_heap_new w _
  generalize w.alloc (.cells #[.int .i64 6, .int .i64 0, .int .i64 (a : Int), .int .i64 (b : Int), .int .i64 0] 25) = w1 at x0 x1 x2 x3 x4 h HF HBX ⊢
  generalize w.heap.size = B at x0 x1 x2 x3 x4 hMB HBX ⊢
  obtain ⟨rv, tv, h⟩ := h
  have HH : Hid (MacAt W0 w1 M m x rv tv) := h
  have ca := h.cells.cr a ha
  obtain ⟨y, HY⟩ : ∃ y, Hid (m.regs a = y) := ⟨_, rfl⟩
  rw [HY.out] at ca
  have HV2 : Hid (¬ cellOk y) := by
    show ¬ cellOk y
    rw [← HY.out]; exact hv
  have ha2 : (a : Int) < 8 := by omega
  clear hv
  clear h
  go_region_held3 (fun w' => w'.cell? ⟨M, 12 + a, none⟩ = some (.int .i64 y) ∧ w'.cell? ⟨B, 2, none⟩ = some (.int .i64 ((a : Int)))) (go_keep) (first | (go_at_call 70; refine (mcell_no y HV2.out _).mono ?_; rintro e w2 ⟨rfl, hw2⟩; subst hw2))
  simp only [Exit.then]
  go_at_K
  go_wp2_with fail
  refine (mstop_any 2 0 _ ⟨rv, tv, by first | exact HH.out.drew.drew | exact HH.out.drew | exact HH.out⟩).mono ?_
  rintro e w3 ⟨⟨v3, rfl⟩, h3, f3⟩
  have H3 : Hid (MacIs W0 w3 M m ⟨x.fuel, true, 2, 0⟩) := h3
  have HF3 : Hid (FrR M M w w3) := HF.out.trans ((by first | exact FrR.drew M M w1 | exact FrR.refl M M w1 : FrR M M w1 _).trans f3)
  clear h3 f3
  go_wp2_with fail
  refine bodyPost_ret (results_none rfl _ _ _) rfl ?_
  exact ⟨⟨_, rfl⟩, H3.out, HF3.out⟩

set_option maxRecDepth 100000 in
set_option maxHeartbeats 4000000 in
theorem mstore_yes (a b c : Nat) (ha : a < 8) (hb : b < 8) (hc : c < 8) (hv : m.regs a = (c : Int)) (w : World) (h : MacIs W0 w M m x) :
    Calls Tryd.prog 60 #[.pointer (some ⟨M, 0, none⟩), .agg #[.int .i64 6, .int .i64 0, .int .i64 (a : Int), .int .i64 (b : Int), .int .i64 0]] w fun e w' => (∃ v, e = .returned v) ∧ MacTo W0 M w { m with cells := updN m.cells c (m.regs b) } x w' := by
  have HH0 : Hid (MacIs W0 w M m x) := h
  clear h
  go_enter Tryd.func60, Tryd.ntmps60
  go_wp2_with fail
  obtain ⟨x0, x1, x2, x3, x4⟩ := insBox_new w 25 (6) (0) ((a : Int)) ((b : Int)) (0)
  have h := HH0.out.later (Bel.alloc w (.cells #[.int .i64 6, .int .i64 0, .int .i64 (a : Int), .int .i64 (b : Int), .int .i64 0] 25))
  have HF : Hid (FrR M M w (w.alloc (.cells #[.int .i64 6, .int .i64 0, .int .i64 (a : Int), .int .i64 (b : Int), .int .i64 0] 25))) := FrR.ofBelow (Bel.alloc _ _)
  have hMB : M ≠ w.heap.size := by have := HH0.out.lt; omega
  have HBX : Hid ((w.alloc (.cells #[.int .i64 6, .int .i64 0, .int .i64 (a : Int), .int .i64 (b : Int), .int .i64 0] 25)).heap[w.heap.size]? = some (.cells #[.int .i64 (6), .int .i64 (0), .int .i64 ((a : Int)), .int .i64 ((b : Int)), .int .i64 (0)] 25 (0, 0))) := World.alloc_heap_new w _
  generalize w.alloc (.cells #[.int .i64 6, .int .i64 0, .int .i64 (a : Int), .int .i64 (b : Int), .int .i64 0] 25) = w1 at x0 x1 x2 x3 x4 h HF HBX ⊢
  generalize w.heap.size = B at x0 x1 x2 x3 x4 hMB HBX ⊢
  obtain ⟨rv, tv, h⟩ := h
  have HH : Hid (MacAt W0 w1 M m x rv tv) := h
  have cb := h.cells.cr b hb
  have ca := h.cells.cr a ha
  have cc := h.cells.cc c hc
  rw [hv] at ca
  obtain ⟨y, HY⟩ : ∃ y, Hid (m.regs b = y) := ⟨_, rfl⟩
  rw [HY.out] at cb
  have fz := h.frozen (2 + c)
  have hb2 : (b : Int) < 8 := by omega
  have ha2 : (a : Int) < 8 := by omega
  clear hv
  clear h
  go_region_held3 (fun w' => w'.cell? ⟨M, 12 + a, none⟩ = some (.int .i64 (c : Int)) ∧ w'.cell? ⟨B, 2, none⟩ = some (.int .i64 ((a : Int)))) (go_keep) (first | (go_at_call 70; refine (mcell_yes c hc _).mono ?_; rintro e w2 ⟨rfl, hw2⟩; subst hw2))
  simp only [Exit.then]
  go_at_K
  go_wp2
  go_region_held3 (fun w' => w'.cell? ⟨B, 3, none⟩ = some (.int .i64 ((b : Int))) ∧ w'.cell? ⟨M, 12 + b, none⟩ = some (.int .i64 y)) (first | exact ⟨far_block x3 hMB, far_off cb (by omega)⟩ | go_keep) (fail)
  go_end0
  rw [HY.out]
  refine ⟨⟨_, rfl⟩, ⟨rv, tv, ?_⟩, ?_⟩
  · first | exact (HH.out.setCell hc y).drew.drew | exact (HH.out.setCell hc y).drew | exact HH.out.setCell hc y
  · refine HF.out.trans ?_
    repeat (first | exact FrR.setR _ _ _ _ _ | refine FrR.trans ?_ (FrR.drew _ _ _))

set_option maxRecDepth 100000 in
set_option maxHeartbeats 4000000 in
theorem mout_any (a : Nat) (ha : a < 8) (hl : m.told.length ≤ 40000) (w : World) (h : MacIs W0 w M m x) :
    Calls Tryd.prog 61 #[.pointer (some ⟨M, 0, none⟩), .agg #[.int .i64 7, .int .i64 0, .int .i64 (a : Int), .int .i64 0, .int .i64 0]] w fun e w' => (∃ v, e = .returned v) ∧ MacTo W0 M w { m with told := m.told ++ [m.regs a] } x w' := by
  have HH0 : Hid (MacIs W0 w M m x) := h
  clear h
  go_enter Tryd.func61, Tryd.ntmps61
  go_wp2_with fail
  obtain ⟨x0, x1, x2, x3, x4⟩ := insBox_new w 25 (7) (0) ((a : Int)) (0) (0)
  have h := HH0.out.later (Bel.alloc w (.cells #[.int .i64 7, .int .i64 0, .int .i64 (a : Int), .int .i64 0, .int .i64 0] 25))
  have HF : Hid (FrR M M w (w.alloc (.cells #[.int .i64 7, .int .i64 0, .int .i64 (a : Int), .int .i64 0, .int .i64 0] 25))) := FrR.ofBelow (Bel.alloc _ _)
  have hMB : M ≠ w.heap.size := by have := HH0.out.lt; omega
  have HBX : Hid ((w.alloc (.cells #[.int .i64 7, .int .i64 0, .int .i64 (a : Int), .int .i64 0, .int .i64 0] 25)).heap[w.heap.size]? = some (.cells #[.int .i64 (7), .int .i64 (0), .int .i64 ((a : Int)), .int .i64 (0), .int .i64 (0)] 25 (0, 0))) := World.alloc_heap_new w _
  generalize w.alloc (.cells #[.int .i64 7, .int .i64 0, .int .i64 (a : Int), .int .i64 0, .int .i64 0] 25) = w1 at x0 x1 x2 x3 x4 h HF HBX ⊢
  generalize w.heap.size = B at x0 x1 x2 x3 x4 hMB HBX ⊢
  obtain ⟨rv, tv, h⟩ := h
  have HH : Hid (MacAt W0 w1 M m x rv tv) := h
  have ca := h.cells.cr a ha
  obtain ⟨y, HY⟩ : ∃ y, Hid (m.regs a = y) := ⟨_, rfl⟩
  rw [HY.out] at ca
  have ha2 : (a : Int) < 8 := by omega
  clear h
  go_region_held3 (fun w' => w'.cell? ⟨B, 2, none⟩ = some (.int .i64 ((a : Int))) ∧ w'.cell? ⟨M, 12 + a, none⟩ = some (.int .i64 y)) (first | exact ⟨z0, z1⟩ | go_keep)
    (first | (go_at_call 71; refine (mtell_any (W0 := W0) (m := m) (x := x) y _ ⟨rv, tv, HH.out.drew⟩ hl).mono ?_; rintro e w4 ⟨⟨v4, rfl⟩, h4, f4⟩; have z0 : w4.cell? ⟨B, 2, none⟩ = some (.int .i64 (a : Int)) := (by have hb := f4.box (B := B) HBX.out (fun e => hMB e.symm) (fun e => hMB e.symm) (by decide); simp [World.cell?, hb]); have HF4 : Hid (FrR M M w w4) := HF.out.trans ((FrR.drew M M w1).trans f4); have HH4 : Hid (MacIs W0 w4 M { m with told := m.told ++ [y] } x) := h4; have z1 : w4.cell? ⟨M, 12 + a, none⟩ = some (.int .i64 y) := (by obtain ⟨r4, t4, h5⟩ := h4; have q := h5.cells.cr a ha; rw [show ({ m with told := m.told ++ [y] } : MacS).regs a = y from HY.out] at q; exact q); clear h4 f4))
  go_end0
  rw [HY.out]
  exact ⟨⟨_, rfl⟩, HH4.out, HF4.out⟩

set_option maxRecDepth 100000 in
set_option maxHeartbeats 4000000 in
theorem mreadstep_any (d : Nat) (hd : d < 8) (w : World) (h : MacIs W0 w M m x) :
    Calls Tryd.prog 62 #[.pointer (some ⟨M, 0, none⟩), .agg #[.int .i64 8, .int .i64 (d : Int), .int .i64 0, .int .i64 0, .int .i64 0]] w fun e w' => (∃ v, e = .returned v) ∧ MacTo W0 M w { m with regs := updN m.regs d (m.reads.headD 0), reads := m.reads.tail } x w' := by
  have HH0 : Hid (MacIs W0 w M m x) := h
  clear h
  go_enter Tryd.func62, Tryd.ntmps62
  go_wp2_with fail
  obtain ⟨x0, x1, x2, x3, x4⟩ := insBox_new w 25 (8) ((d : Int)) (0) (0) (0)
  have h := HH0.out.later (Bel.alloc w (.cells #[.int .i64 8, .int .i64 (d : Int), .int .i64 0, .int .i64 0, .int .i64 0] 25))
  have HF : Hid (FrR M M w (w.alloc (.cells #[.int .i64 8, .int .i64 (d : Int), .int .i64 0, .int .i64 0, .int .i64 0] 25))) := FrR.ofBelow (Bel.alloc _ _)
  have hMB : M ≠ w.heap.size := by have := HH0.out.lt; omega
  have HBX : Hid ((w.alloc (.cells #[.int .i64 8, .int .i64 (d : Int), .int .i64 0, .int .i64 0, .int .i64 0] 25)).heap[w.heap.size]? = some (.cells #[.int .i64 (8), .int .i64 ((d : Int)), .int .i64 (0), .int .i64 (0), .int .i64 (0)] 25 (0, 0))) := World.alloc_heap_new w _
  generalize w.alloc (.cells #[.int .i64 8, .int .i64 (d : Int), .int .i64 0, .int .i64 0, .int .i64 0] 25) = w1 at x0 x1 x2 x3 x4 h HF HBX ⊢
  generalize w.heap.size = B at x0 x1 x2 x3 x4 hMB HBX ⊢
  obtain ⟨rv, tv, h⟩ := h
  have HH : Hid (MacAt W0 w1 M m x rv tv) := h
  obtain ⟨y, HY⟩ : ∃ y, Hid (m.reads.headD 0 = y) := ⟨_, rfl⟩
  have hd2 : (d : Int) < 8 := by omega
  clear h
  go_region_held3 (fun w' => w'.cell? ⟨B, 1, none⟩ = some (.int .i64 ((d : Int)))) (first | exact far_block z0 hMB | exact z0 | go_keep)
    (first | (go_at_call 72; refine (mread_any (W0 := W0) (m := m) (x := x) _ ⟨rv, tv, HH.out.drew⟩).mono ?_; rintro e w4 ⟨he, h4, f4⟩; rw [HY.out] at he; subst he; have z0 : w4.cell? ⟨B, 1, none⟩ = some (.int .i64 (d : Int)) := (by have hb := f4.box (B := B) HBX.out (fun e => hMB e.symm) (fun e => hMB e.symm) (by decide); simp [World.cell?, hb]); have HF4 : Hid (FrR M M w w4) := HF.out.trans ((FrR.drew M M w1).trans f4); obtain ⟨rv4, tv4, h4⟩ := h4; have cd4 := h4.cells.cr d hd; have fz4 := h4.frozen (12 + d); have HH4 : Hid (MacAt W0 w4 M { m with reads := m.reads.tail } x rv4 tv4) := h4; clear h4 f4))
  go_end0
  rw [HY.out]
  refine ⟨⟨_, rfl⟩, ⟨rv4, tv4, ?_⟩, ?_⟩
  · first | exact (HH4.out.setReg hd y).drew | exact HH4.out.setReg hd y
  · refine HF4.out.trans ?_
    repeat (first | exact FrR.setR _ _ _ _ _ | refine FrR.trans ?_ (FrR.drew _ _ _))

set_option maxHeartbeats 1000000 in
theorem mjump_any (n : Nat) (w : World) (h : MacIs W0 w M m x) :
    Calls Tryd.prog 63 #[.pointer (some ⟨M, 0, none⟩), .agg #[.int .i64 9, .int .i64 0, .int .i64 0, .int .i64 0, .int .i64 (n : Int)]] w fun e w' => (∃ v, e = .returned v) ∧ MacTo W0 M w { m with pc := n } x w' := by
  have hlt := h.lt
  obtain ⟨rv, tv, h⟩ := h
  have HH : Hid (MacAt W0 w M m x rv tv) := h
  have cp := h.cells.c11
  have fz := h.frozen 11
  clear h
  go_enter Tryd.func63, Tryd.ntmps63
  go_wp2
  go_end0
  exact ⟨⟨_, rfl⟩, ⟨rv, tv, (HH.out.setPc n).later (Bel.alloc _ _)⟩, (FrR.setR _ _ _ _ _).trans (FrR.ofBelow (Bel.alloc _ _))⟩
set_option maxRecDepth 100000 in
set_option maxHeartbeats 4000000 in
theorem mzero_yes (a n : Nat) (ha : a < 8) (hv : m.regs a = 0) (w : World) (h : MacIs W0 w M m x) :
    Calls Tryd.prog 63 #[.pointer (some ⟨M, 0, none⟩), .agg #[.int .i64 10, .int .i64 0, .int .i64 (a : Int), .int .i64 0, .int .i64 (n : Int)]] w fun e w' => (∃ v, e = .returned v) ∧ MacTo W0 M w { m with pc := n } x w' := by
  have HH0 : Hid (MacIs W0 w M m x) := h
  clear h
  go_enter Tryd.func63, Tryd.ntmps63
  go_wp2_with fail
  obtain ⟨x0, x1, x2, x3, x4⟩ := insBox_new w 25 (10) (0) ((a : Int)) (0) ((n : Int))
  have h := HH0.out.later (Bel.alloc w (.cells #[.int .i64 10, .int .i64 0, .int .i64 (a : Int), .int .i64 0, .int .i64 (n : Int)] 25))
  have HF : Hid (FrR M M w (w.alloc (.cells #[.int .i64 10, .int .i64 0, .int .i64 (a : Int), .int .i64 0, .int .i64 (n : Int)] 25))) := FrR.ofBelow (Bel.alloc _ _)
  have hMB : M ≠ w.heap.size := by have := HH0.out.lt; omega
  have HBX : Hid ((w.alloc (.cells #[.int .i64 10, .int .i64 0, .int .i64 (a : Int), .int .i64 0, .int .i64 (n : Int)] 25)).heap[w.heap.size]? = some (.cells #[.int .i64 (10), .int .i64 (0), .int .i64 ((a : Int)), .int .i64 (0), .int .i64 ((n : Int))] 25 (0, 0))) := World.alloc_heap_new w _
  generalize w.alloc (.cells #[.int .i64 10, .int .i64 0, .int .i64 (a : Int), .int .i64 0, .int .i64 (n : Int)] 25) = w1 at x0 x1 x2 x3 x4 h HF HBX ⊢
  generalize w.heap.size = B at x0 x1 x2 x3 x4 hMB HBX ⊢
  obtain ⟨rv, tv, h⟩ := h
  have HH : Hid (MacAt W0 w1 M m x rv tv) := h
  have cp := h.cells.c11
  have fz := h.frozen 11
  have ca := h.cells.cr a ha
  rw [hv] at ca
  have ha2 : (a : Int) < 8 := by omega
  clear hv
  clear h
  go_wp2_with fail
  go_region_held3 (fun w' => w'.cell? ⟨B, 2, none⟩ = some (.int .i64 ((a : Int))) ∧ w'.cell? ⟨M, 12 + a, none⟩ = some (.int .i64 0)) (go_keep) (fail)
  simp only [Exit.then]
  go_at_K
  go_wp2_with fail
  go_end0
  refine ⟨⟨_, rfl⟩, ⟨rv, tv, ?_⟩, ?_⟩
  · first | exact HH.out.drew.setPc n | exact HH.out.setPc n
  · refine HF.out.trans ?_
    repeat (first | exact FrR.setR _ _ _ _ _ | refine FrR.trans ?_ (FrR.drew _ _ _))

set_option maxRecDepth 100000 in
set_option maxHeartbeats 4000000 in
theorem mzero_no (a n : Nat) (ha : a < 8) (hv : ¬ m.regs a = 0) (w : World) (h : MacIs W0 w M m x) :
    Calls Tryd.prog 63 #[.pointer (some ⟨M, 0, none⟩), .agg #[.int .i64 10, .int .i64 0, .int .i64 (a : Int), .int .i64 0, .int .i64 (n : Int)]] w fun e w' => (∃ v, e = .returned v) ∧ MacTo W0 M w m x w' := by
  have HH0 : Hid (MacIs W0 w M m x) := h
  clear h
  go_enter Tryd.func63, Tryd.ntmps63
  go_wp2_with fail
  obtain ⟨x0, x1, x2, x3, x4⟩ := insBox_new w 25 (10) (0) ((a : Int)) (0) ((n : Int))
  have h := HH0.out.later (Bel.alloc w (.cells #[.int .i64 10, .int .i64 0, .int .i64 (a : Int), .int .i64 0, .int .i64 (n : Int)] 25))
  have HF : Hid (FrR M M w (w.alloc (.cells #[.int .i64 10, .int .i64 0, .int .i64 (a : Int), .int .i64 0, .int .i64 (n : Int)] 25))) := FrR.ofBelow (Bel.alloc _ _)
  have hMB : M ≠ w.heap.size := by have := HH0.out.lt; omega
  have HBX : Hid ((w.alloc (.cells #[.int .i64 10, .int .i64 0, .int .i64 (a : Int), .int .i64 0, .int .i64 (n : Int)] 25)).heap[w.heap.size]? = some (.cells #[.int .i64 (10), .int .i64 (0), .int .i64 ((a : Int)), .int .i64 (0), .int .i64 ((n : Int))] 25 (0, 0))) := World.alloc_heap_new w _
  generalize w.alloc (.cells #[.int .i64 10, .int .i64 0, .int .i64 (a : Int), .int .i64 0, .int .i64 (n : Int)] 25) = w1 at x0 x1 x2 x3 x4 h HF HBX ⊢
  generalize w.heap.size = B at x0 x1 x2 x3 x4 hMB HBX ⊢
  obtain ⟨rv, tv, h⟩ := h
  have HH : Hid (MacAt W0 w1 M m x rv tv) := h
  have ca := h.cells.cr a ha
  obtain ⟨y, HY⟩ : ∃ y, Hid (m.regs a = y) := ⟨_, rfl⟩
  rw [HY.out] at ca
  have hy0 : (y != 0) = true := by rw [← HY.out]; simpa using hv
  have ha2 : (a : Int) < 8 := by omega
  clear hv
  clear h
  go_wp2_with fail
  go_region_held3 (fun w' => w'.cell? ⟨B, 2, none⟩ = some (.int .i64 ((a : Int))) ∧ w'.cell? ⟨M, 12 + a, none⟩ = some (.int .i64 y)) (go_keep) (fail)
  simp only [Exit.then]
  go_at_K
  go_wp2_with fail
  go_end0
  refine ⟨⟨_, rfl⟩, ⟨rv, tv, ?_⟩, ?_⟩
  · first | exact HH.out.drew | exact HH.out
  · refine HF.out.trans ?_
    first | exact FrR.drew _ _ _ | exact FrR.refl _ _ _

set_option maxRecDepth 100000 in
set_option maxHeartbeats 4000000 in
theorem mend_any (a : Nat) (ha : a < 8) (w : World) (h : MacIs W0 w M m x) :
    Calls Tryd.prog 64 #[.pointer (some ⟨M, 0, none⟩), .agg #[.int .i64 11, .int .i64 0, .int .i64 (a : Int), .int .i64 0, .int .i64 0]] w fun e w' => (∃ v, e = .returned v) ∧ MacTo W0 M w m ⟨x.fuel, true, 0, m.regs a⟩ w' := by
  have HH0 : Hid (MacIs W0 w M m x) := h
  clear h
  go_enter Tryd.func64, Tryd.ntmps64
  go_wp2_with fail
  obtain ⟨x0, x1, x2, x3, x4⟩ := insBox_new w 25 (11) (0) ((a : Int)) (0) (0)
  have h := HH0.out.later (Bel.alloc w (.cells #[.int .i64 11, .int .i64 0, .int .i64 (a : Int), .int .i64 0, .int .i64 0] 25))
  have HF : Hid (FrR M M w (w.alloc (.cells #[.int .i64 11, .int .i64 0, .int .i64 (a : Int), .int .i64 0, .int .i64 0] 25))) := FrR.ofBelow (Bel.alloc _ _)
  have hMB : M ≠ w.heap.size := by have := HH0.out.lt; omega
  have HBX : Hid ((w.alloc (.cells #[.int .i64 11, .int .i64 0, .int .i64 (a : Int), .int .i64 0, .int .i64 0] 25)).heap[w.heap.size]? = some (.cells #[.int .i64 (11), .int .i64 (0), .int .i64 ((a : Int)), .int .i64 (0), .int .i64 (0)] 25 (0, 0))) := World.alloc_heap_new w _
  generalize w.alloc (.cells #[.int .i64 11, .int .i64 0, .int .i64 (a : Int), .int .i64 0, .int .i64 0] 25) = w1 at x0 x1 x2 x3 x4 h HF HBX ⊢
  generalize w.heap.size = B at x0 x1 x2 x3 x4 hMB HBX ⊢
  obtain ⟨rv, tv, h⟩ := h
  have HH : Hid (MacAt W0 w1 M m x rv tv) := h
  have ca := h.cells.cr a ha
  obtain ⟨y, HY⟩ : ∃ y, Hid (m.regs a = y) := ⟨_, rfl⟩
  rw [HY.out] at ca
  have ha2 : (a : Int) < 8 := by omega
  clear h
  go_region_held3 (fun w' => w'.cell? ⟨B, 2, none⟩ = some (.int .i64 ((a : Int))) ∧ w'.cell? ⟨M, 12 + a, none⟩ = some (.int .i64 y)) (first | exact ⟨z0, z1⟩ | go_keep)
    (first | (go_at_call 50; refine (mstop_any (W0 := W0) (m := m) (x := x) 0 y _ ⟨rv, tv, HH.out.drew⟩).mono ?_; rintro e w4 ⟨⟨v4, rfl⟩, h4, f4⟩; have z0 : w4.cell? ⟨B, 2, none⟩ = some (.int .i64 (a : Int)) := (by have hb := f4.box (B := B) HBX.out (fun e => hMB e.symm) (fun e => hMB e.symm) (by decide); simp [World.cell?, hb]); have HF4 : Hid (FrR M M w w4) := HF.out.trans ((FrR.drew M M w1).trans f4); have HH4 : Hid (MacIs W0 w4 M m ⟨x.fuel, true, 0, y⟩) := h4; have z1 : w4.cell? ⟨M, 12 + a, none⟩ = some (.int .i64 y) := (by obtain ⟨r4, t4, h5⟩ := h4; have q := h5.cells.cr a ha; rw [HY.out] at q; exact q); clear h4 f4))
  go_end0
  rw [HY.out]
  exact ⟨⟨_, rfl⟩, HH4.out, HF4.out⟩

set_option maxRecDepth 100000 in
set_option maxHeartbeats 4000000 in
theorem mword_any (op : Int) (d a b : Nat) (hd : d < 8) (ha : a < 8) (hb : b < 8) (hop : 12 ≤ op ∧ op ≤ 21) (w : World) (h : MacIs W0 w M m x) :
    Calls Tryd.prog 65 #[.pointer (some ⟨M, 0, none⟩), .agg #[.int .i64 op, .int .i64 (d : Int), .int .i64 (a : Int), .int .i64 (b : Int), .int .i64 0]] w fun e w' => (∃ v, e = .returned v) ∧ MacTo W0 M w { m with regs := updN m.regs d (wordV (op - 11) (m.regs a) (m.regs b)) } x w' := by
  have HH0 : Hid (MacIs W0 w M m x) := h
  clear h
  go_enter Tryd.func65, Tryd.ntmps65
  go_wp2_with fail
  obtain ⟨x0, x1, x2, x3, x4⟩ := insBox_new w 25 (op) ((d : Int)) ((a : Int)) ((b : Int)) (0)
  have h := HH0.out.later (Bel.alloc w (.cells #[.int .i64 op, .int .i64 (d : Int), .int .i64 (a : Int), .int .i64 (b : Int), .int .i64 0] 25))
  have HF : Hid (FrR M M w (w.alloc (.cells #[.int .i64 op, .int .i64 (d : Int), .int .i64 (a : Int), .int .i64 (b : Int), .int .i64 0] 25))) := FrR.ofBelow (Bel.alloc _ _)
  have hMB : M ≠ w.heap.size := by have := HH0.out.lt; omega
  have HBX : Hid ((w.alloc (.cells #[.int .i64 op, .int .i64 (d : Int), .int .i64 (a : Int), .int .i64 (b : Int), .int .i64 0] 25)).heap[w.heap.size]? = some (.cells #[.int .i64 (op), .int .i64 ((d : Int)), .int .i64 ((a : Int)), .int .i64 ((b : Int)), .int .i64 (0)] 25 (0, 0))) := World.alloc_heap_new w _
  generalize w.alloc (.cells #[.int .i64 op, .int .i64 (d : Int), .int .i64 (a : Int), .int .i64 (b : Int), .int .i64 0] 25) = w1 at x0 x1 x2 x3 x4 h HF HBX ⊢
  generalize w.heap.size = B at x0 x1 x2 x3 x4 hMB HBX ⊢
  obtain ⟨rv, tv, h⟩ := h
  have HH : Hid (MacAt W0 w1 M m x rv tv) := h
  have ca := h.cells.cr a ha
  have cb := h.cells.cr b hb
  obtain ⟨y, HY⟩ : ∃ y, Hid (m.regs a = y) := ⟨_, rfl⟩
  obtain ⟨z, HZ⟩ : ∃ z, Hid (m.regs b = z) := ⟨_, rfl⟩
  rw [HY.out] at ca
  rw [HZ.out] at cb
  have hd2 : (d : Int) < 8 := by omega
  have ha2 : (a : Int) < 8 := by omega
  have hb2 : (b : Int) < 8 := by omega
  have hw11 : IntKind.i64.wrap (op - 11) = op - 11 := IntWalk.i64_in _ (by omega)
  clear h
  refine wp_noThrow (region_M 24 (fun w' => w'.cell? ⟨B, 0, none⟩ = some (.int .i64 op) ∧ w'.cell? ⟨B, 1, none⟩ = some (.int .i64 (d : Int)) ∧ w'.cell? ⟨B, 2, none⟩ = some (.int .i64 (a : Int)) ∧ w'.cell? ⟨B, 3, none⟩ = some (.int .i64 (b : Int)) ∧ w'.cell? ⟨M, 12 + a, none⟩ = some (.int .i64 y) ∧ w'.cell? ⟨M, 12 + b, none⟩ = some (.int .i64 z)) (by kernel_rfl) ?_)
  have hHeld : (fun w' => w'.cell? ⟨B, 0, none⟩ = some (.int .i64 op) ∧ w'.cell? ⟨B, 1, none⟩ = some (.int .i64 (d : Int)) ∧ w'.cell? ⟨B, 2, none⟩ = some (.int .i64 (a : Int)) ∧ w'.cell? ⟨B, 3, none⟩ = some (.int .i64 (b : Int)) ∧ w'.cell? ⟨M, 12 + a, none⟩ = some (.int .i64 y) ∧ w'.cell? ⟨M, 12 + b, none⟩ = some (.int .i64 z)) w1.drew := ⟨x0, x1, x2, x3, ca, cb⟩
  refine wpAnyM_take (i := 0) (oi := { dst := some 4, op := Go.Op.move (Go.Operand.tmp 0), type := 71, pos := "l14_machine.go:231", after := #[], guard := none }) (v := ?_) rfl (by kernel_rfl) (by kernel_rfl) (by kernel_rfl) (by kernel_rfl) (fun _ _ _ h => h) (Or.inl ⟨by rfl, ?_⟩) (by assumption) ?_
  rotate_left
  · intro w hSw
    (try dsimp only at hSw)
    go_simp
    (try with_reducible rfl)
  try simp only [Act.put, List.setIfInBounds_toArray, List.set_cons_zero, List.set_cons_succ]
  refine wpAnyM_take (i := 1) (oi := { dst := some 5, op := Go.Op.fieldAddr 25 (Go.Operand.tmp 3) 1, type := 0, pos := "l14_machine.go:231", after := #[], guard := none }) (v := ?_) rfl (by kernel_rfl) (by kernel_rfl) (by kernel_rfl) (by kernel_rfl) (fun _ _ _ h => h) (Or.inl ⟨by rfl, ?_⟩) (by assumption) ?_
  rotate_left
  · intro w hSw
    (try dsimp only at hSw)
    go_simp
    (try with_reducible rfl)
  try simp only [Act.put, List.setIfInBounds_toArray, List.set_cons_zero, List.set_cons_succ]
  refine wpAnyM_take (i := 2) (oi := { dst := some 6, op := Go.Op.load 3 (Go.Operand.tmp 5), type := 3, pos := "l14_machine.go:231", after := #[{ on := 1, ground := Go.Ground.data }], guard := none }) (v := ?_) rfl (by kernel_rfl) (by kernel_rfl) (by kernel_rfl) (by kernel_rfl) (fun _ _ _ h => h) (Or.inl ⟨by rfl, ?_⟩) (by assumption) ?_
  rotate_left
  · intro w hSw
    (try dsimp only at hSw)
    go_simp
    (try with_reducible rfl)
  try simp only [Act.put, List.setIfInBounds_toArray, List.set_cons_zero, List.set_cons_succ]
  refine wpAnyM_take (i := 3) (oi := { dst := some 7, op := Go.Op.fieldAddr 25 (Go.Operand.tmp 3) 0, type := 0, pos := "l14_machine.go:231", after := #[], guard := none }) (v := ?_) rfl (by kernel_rfl) (by kernel_rfl) (by kernel_rfl) (by kernel_rfl) (fun _ _ _ h => h) (Or.inl ⟨by rfl, ?_⟩) (by assumption) ?_
  rotate_left
  · intro w hSw
    (try dsimp only at hSw)
    go_simp
    (try with_reducible rfl)
  try simp only [Act.put, List.setIfInBounds_toArray, List.set_cons_zero, List.set_cons_succ]
  refine wpAnyM_take (i := 4) (oi := { dst := some 8, op := Go.Op.load 3 (Go.Operand.tmp 7), type := 3, pos := "l14_machine.go:231", after := #[{ on := 3, ground := Go.Ground.data }], guard := none }) (v := ?_) rfl (by kernel_rfl) (by kernel_rfl) (by kernel_rfl) (by kernel_rfl) (fun _ _ _ h => h) (Or.inl ⟨by rfl, ?_⟩) (by assumption) ?_
  rotate_left
  · intro w hSw
    (try dsimp only at hSw)
    go_simp
    (try with_reducible rfl)
  try simp only [Act.put, List.setIfInBounds_toArray, List.set_cons_zero, List.set_cons_succ]
  refine wpAnyM_take (i := 5) (oi := { dst := some 9, op := Go.Op.binOp Go.BinOp.sub 3 (Go.Operand.tmp 8) (Go.Operand.const (Go.Value.int Go.IntKind.i64 11)) 3, type := 3, pos := "l14_machine.go:231", after := #[{ on := 4, ground := Go.Ground.data }], guard := none }) (v := ?_) rfl (by kernel_rfl) (by kernel_rfl) (by kernel_rfl) (by kernel_rfl) (fun _ _ _ h => h) (Or.inl ⟨by rfl, ?_⟩) (by assumption) ?_
  rotate_left
  · intro w hSw
    (try dsimp only at hSw)
    go_simp
    (try with_reducible rfl)
  try simp only [Act.put, List.setIfInBounds_toArray, List.set_cons_zero, List.set_cons_succ]
  refine wpAnyM_take (i := 6) (oi := { dst := some 10, op := Go.Op.move (Go.Operand.tmp 0), type := 71, pos := "l14_machine.go:231", after := #[], guard := none }) (v := ?_) rfl (by kernel_rfl) (by kernel_rfl) (by kernel_rfl) (by kernel_rfl) (fun _ _ _ h => h) (Or.inl ⟨by rfl, ?_⟩) (by assumption) ?_
  rotate_left
  · intro w hSw
    (try dsimp only at hSw)
    go_simp
    (try with_reducible rfl)
  try simp only [Act.put, List.setIfInBounds_toArray, List.set_cons_zero, List.set_cons_succ]
  refine wpAnyM_take (i := 7) (oi := { dst := some 11, op := Go.Op.fieldAddr 25 (Go.Operand.tmp 3) 2, type := 0, pos := "l14_machine.go:231", after := #[], guard := none }) (v := ?_) rfl (by kernel_rfl) (by kernel_rfl) (by kernel_rfl) (by kernel_rfl) (fun _ _ _ h => h) (Or.inl ⟨by rfl, ?_⟩) (by assumption) ?_
  rotate_left
  · intro w hSw
    (try dsimp only at hSw)
    go_simp
    (try with_reducible rfl)
  try simp only [Act.put, List.setIfInBounds_toArray, List.set_cons_zero, List.set_cons_succ]
  refine wpAnyM_take (i := 8) (oi := { dst := some 12, op := Go.Op.load 3 (Go.Operand.tmp 11), type := 3, pos := "l14_machine.go:231", after := #[{ on := 7, ground := Go.Ground.data }], guard := none }) (v := ?_) rfl (by kernel_rfl) (by kernel_rfl) (by kernel_rfl) (by kernel_rfl) (fun _ _ _ h => h) (Or.inl ⟨by rfl, ?_⟩) (by assumption) ?_
  rotate_left
  · intro w hSw
    (try dsimp only at hSw)
    go_simp
    (try with_reducible rfl)
  try simp only [Act.put, List.setIfInBounds_toArray, List.set_cons_zero, List.set_cons_succ]
  refine wpAnyM_take (i := 9) (oi := { dst := some 13, op := Go.Op.nilCheck (Go.Operand.tmp 10), type := 0, pos := "l14_machine.go:231", after := #[{ on := 6, ground := Go.Ground.data }], guard := none }) (v := ?_) rfl (by kernel_rfl) (by kernel_rfl) (by kernel_rfl) (by kernel_rfl) (fun _ _ _ h => h) (Or.inl ⟨by rfl, ?_⟩) (by assumption) ?_
  rotate_left
  · intro w hSw
    (try dsimp only at hSw)
    go_simp
    (try with_reducible rfl)
  try simp only [Act.put, List.setIfInBounds_toArray, List.set_cons_zero, List.set_cons_succ]
  refine wpAnyM_take (i := 10) (oi := { dst := some 14, op := Go.Op.fieldAddr 78 (Go.Operand.tmp 13) 2, type := 0, pos := "l14_machine.go:231", after := #[{ on := 9, ground := Go.Ground.data }], guard := none }) (v := ?_) rfl (by kernel_rfl) (by kernel_rfl) (by kernel_rfl) (by kernel_rfl) (fun _ _ _ h => h) (Or.inl ⟨by rfl, ?_⟩) (by assumption) ?_
  rotate_left
  · intro w hSw
    (try dsimp only at hSw)
    go_simp
    (try with_reducible rfl)
  try simp only [Act.put, List.setIfInBounds_toArray, List.set_cons_zero, List.set_cons_succ]
  refine wpAnyM_take (i := 11) (oi := { dst := some 15, op := Go.Op.indexAddr 72 (Go.Operand.tmp 14) (Go.Operand.tmp 12), type := 0, pos := "l14_machine.go:231", after := #[{ on := 10, ground := Go.Ground.data }, { on := 8, ground := Go.Ground.data }], guard := none }) (v := ?_) rfl (by kernel_rfl) (by kernel_rfl) (by kernel_rfl) (by kernel_rfl) (fun _ _ _ h => h) (Or.inl ⟨by rfl, ?_⟩) (by assumption) ?_
  rotate_left
  · intro w hSw
    (try dsimp only at hSw)
    go_simp
    (try with_reducible rfl)
  try simp only [Act.put, List.setIfInBounds_toArray, List.set_cons_zero, List.set_cons_succ]
  refine wpAnyM_take (i := 12) (oi := { dst := some 16, op := Go.Op.load 3 (Go.Operand.tmp 15), type := 3, pos := "l14_machine.go:231", after := #[{ on := 11, ground := Go.Ground.data }], guard := none }) (v := ?_) rfl (by kernel_rfl) (by kernel_rfl) (by kernel_rfl) (by kernel_rfl) (fun _ _ _ h => h) (Or.inl ⟨by rfl, ?_⟩) (by assumption) ?_
  rotate_left
  · intro w hSw
    (try dsimp only at hSw)
    go_simp
    (try with_reducible rfl)
  try simp only [Act.put, List.setIfInBounds_toArray, List.set_cons_zero, List.set_cons_succ]
  refine wpAnyM_take (i := 13) (oi := { dst := some 17, op := Go.Op.move (Go.Operand.tmp 0), type := 71, pos := "l14_machine.go:231", after := #[], guard := none }) (v := ?_) rfl (by kernel_rfl) (by kernel_rfl) (by kernel_rfl) (by kernel_rfl) (fun _ _ _ h => h) (Or.inl ⟨by rfl, ?_⟩) (by assumption) ?_
  rotate_left
  · intro w hSw
    (try dsimp only at hSw)
    go_simp
    (try with_reducible rfl)
  try simp only [Act.put, List.setIfInBounds_toArray, List.set_cons_zero, List.set_cons_succ]
  refine wpAnyM_take (i := 14) (oi := { dst := some 18, op := Go.Op.fieldAddr 25 (Go.Operand.tmp 3) 3, type := 0, pos := "l14_machine.go:231", after := #[], guard := none }) (v := ?_) rfl (by kernel_rfl) (by kernel_rfl) (by kernel_rfl) (by kernel_rfl) (fun _ _ _ h => h) (Or.inl ⟨by rfl, ?_⟩) (by assumption) ?_
  rotate_left
  · intro w hSw
    (try dsimp only at hSw)
    go_simp
    (try with_reducible rfl)
  try simp only [Act.put, List.setIfInBounds_toArray, List.set_cons_zero, List.set_cons_succ]
  refine wpAnyM_take (i := 15) (oi := { dst := some 19, op := Go.Op.load 3 (Go.Operand.tmp 18), type := 3, pos := "l14_machine.go:231", after := #[{ on := 14, ground := Go.Ground.data }], guard := none }) (v := ?_) rfl (by kernel_rfl) (by kernel_rfl) (by kernel_rfl) (by kernel_rfl) (fun _ _ _ h => h) (Or.inl ⟨by rfl, ?_⟩) (by assumption) ?_
  rotate_left
  · intro w hSw
    (try dsimp only at hSw)
    go_simp
    (try with_reducible rfl)
  try simp only [Act.put, List.setIfInBounds_toArray, List.set_cons_zero, List.set_cons_succ]
  refine wpAnyM_take (i := 16) (oi := { dst := some 20, op := Go.Op.nilCheck (Go.Operand.tmp 17), type := 0, pos := "l14_machine.go:231", after := #[{ on := 13, ground := Go.Ground.data }], guard := none }) (v := ?_) rfl (by kernel_rfl) (by kernel_rfl) (by kernel_rfl) (by kernel_rfl) (fun _ _ _ h => h) (Or.inl ⟨by rfl, ?_⟩) (by assumption) ?_
  rotate_left
  · intro w hSw
    (try dsimp only at hSw)
    go_simp
    (try with_reducible rfl)
  try simp only [Act.put, List.setIfInBounds_toArray, List.set_cons_zero, List.set_cons_succ]
  refine wpAnyM_take (i := 17) (oi := { dst := some 21, op := Go.Op.fieldAddr 78 (Go.Operand.tmp 20) 2, type := 0, pos := "l14_machine.go:231", after := #[{ on := 16, ground := Go.Ground.data }], guard := none }) (v := ?_) rfl (by kernel_rfl) (by kernel_rfl) (by kernel_rfl) (by kernel_rfl) (fun _ _ _ h => h) (Or.inl ⟨by rfl, ?_⟩) (by assumption) ?_
  rotate_left
  · intro w hSw
    (try dsimp only at hSw)
    go_simp
    (try with_reducible rfl)
  try simp only [Act.put, List.setIfInBounds_toArray, List.set_cons_zero, List.set_cons_succ]
  refine wpAnyM_take (i := 18) (oi := { dst := some 22, op := Go.Op.indexAddr 72 (Go.Operand.tmp 21) (Go.Operand.tmp 19), type := 0, pos := "l14_machine.go:231", after := #[{ on := 17, ground := Go.Ground.data }, { on := 15, ground := Go.Ground.data }], guard := none }) (v := ?_) rfl (by kernel_rfl) (by kernel_rfl) (by kernel_rfl) (by kernel_rfl) (fun _ _ _ h => h) (Or.inl ⟨by rfl, ?_⟩) (by assumption) ?_
  rotate_left
  · intro w hSw
    (try dsimp only at hSw)
    go_simp
    (try with_reducible rfl)
  try simp only [Act.put, List.setIfInBounds_toArray, List.set_cons_zero, List.set_cons_succ]
  refine wpAnyM_take (i := 19) (oi := { dst := some 23, op := Go.Op.load 3 (Go.Operand.tmp 22), type := 3, pos := "l14_machine.go:231", after := #[{ on := 18, ground := Go.Ground.data }], guard := none }) (v := ?_) rfl (by kernel_rfl) (by kernel_rfl) (by kernel_rfl) (by kernel_rfl) (fun _ _ _ h => h) (Or.inl ⟨by rfl, ?_⟩) (by assumption) ?_
  rotate_left
  · intro w hSw
    (try dsimp only at hSw)
    go_simp
    (try with_reducible rfl)
  try simp only [Act.put, List.setIfInBounds_toArray, List.set_cons_zero, List.set_cons_succ]
  refine cmAnyM_twoK (i := 20) (j := 21) (o := { dst := some 24, op := Go.Op.call { callee := Go.Callee.value (Go.Operand.func 73), args := #[Go.Operand.tmp 9, Go.Operand.tmp 16, Go.Operand.tmp 23], argTypes := #[3, 3, 3] }, type := 3, pos := "l14_machine.go:231", after := #[{ on := 5, ground := Go.Ground.data }, { on := 12, ground := Go.Ground.data }, { on := 19, ground := Go.Ground.data }], guard := none }) (o2 := { dst := some 25, op := Go.Op.nilCheck (Go.Operand.tmp 4), type := 0, pos := "l14_machine.go:231", after := #[{ on := 0, ground := Go.Ground.data }], guard := none }) rfl rfl rfl rfl (by kernel_rfl) (fun K9 hK9 => ?_) (fun K9 hK9 => ?_)
  · refine wp_call_of (f := 73) (args := #[.int .i64 (op - 11), .int .i64 y, .int .i64 z]) (by go_simp) (impl_word (op - 11) y z _) ?_
    rintro e w4 ⟨rfl, hq⟩
    refine ⟨_, rfl, ?_⟩
    have h4 := HH.out.drew.later hq.2
    have HF4 : Hid (FrR M M w w4) := HF.out.trans ((FrR.drew M M w1).trans (FrR.ofBelow hq.2))
    have cd4 := h4.cells.cr d hd
    have fz4 := h4.frozen (12 + d)
    have HH4 : Hid (MacAt W0 w4 M m x rv tv) := h4
    have hS4 : (fun w' => w'.cell? ⟨B, 0, none⟩ = some (.int .i64 op) ∧ w'.cell? ⟨B, 1, none⟩ = some (.int .i64 (d : Int)) ∧ w'.cell? ⟨B, 2, none⟩ = some (.int .i64 (a : Int)) ∧ w'.cell? ⟨B, 3, none⟩ = some (.int .i64 (b : Int)) ∧ w'.cell? ⟨M, 12 + a, none⟩ = some (.int .i64 y) ∧ w'.cell? ⟨M, 12 + b, none⟩ = some (.int .i64 z)) w4 := ⟨Bel.keeps hq.2 hHeld.1, Bel.keeps hq.2 hHeld.2.1, Bel.keeps hq.2 hHeld.2.2.1, Bel.keeps hq.2 hHeld.2.2.2.1, Bel.keeps hq.2 hHeld.2.2.2.2.1, Bel.keeps hq.2 hHeld.2.2.2.2.2⟩
    refine hK9 _ _ ⟨fun _ => hS4, ?_⟩
    clear hq h4 hK9
    simp only [Act.put, List.setIfInBounds_toArray, List.set_cons_zero, List.set_cons_succ]
    refine cmAnyM_oneK (i := 21) (o := { dst := some 25, op := Go.Op.nilCheck (Go.Operand.tmp 4), type := 0, pos := "l14_machine.go:231", after := #[{ on := 0, ground := Go.Ground.data }], guard := none }) rfl rfl (by kernel_rfl) (fun K9 hK9 => ?_)
    go_simp
    refine hK9 _ _ ⟨fun _ => hS4, ?_⟩
    clear hK9
    refine cmAnyM_oneK (i := 22) (o := { dst := some 26, op := Go.Op.fieldAddr 78 (Go.Operand.tmp 25) 2, type := 0, pos := "l14_machine.go:231", after := #[{ on := 21, ground := Go.Ground.data }], guard := none }) rfl rfl (by kernel_rfl) (fun K9 hK9 => ?_)
    go_simp
    refine hK9 _ _ ⟨fun _ => hS4, ?_⟩
    clear hK9
    refine cmAnyM_oneK (i := 23) (o := { dst := some 27, op := Go.Op.indexAddr 72 (Go.Operand.tmp 26) (Go.Operand.tmp 6), type := 0, pos := "l14_machine.go:231", after := #[{ on := 22, ground := Go.Ground.data }, { on := 2, ground := Go.Ground.data }, { on := 0, ground := Go.Ground.phase }, { on := 1, ground := Go.Ground.phase }, { on := 2, ground := Go.Ground.phase }, { on := 3, ground := Go.Ground.phase }, { on := 4, ground := Go.Ground.phase }, { on := 5, ground := Go.Ground.phase }, { on := 6, ground := Go.Ground.phase }, { on := 7, ground := Go.Ground.phase }, { on := 8, ground := Go.Ground.phase }, { on := 9, ground := Go.Ground.phase }, { on := 10, ground := Go.Ground.phase }, { on := 11, ground := Go.Ground.phase }, { on := 12, ground := Go.Ground.phase }, { on := 13, ground := Go.Ground.phase }, { on := 14, ground := Go.Ground.phase }, { on := 15, ground := Go.Ground.phase }, { on := 16, ground := Go.Ground.phase }, { on := 17, ground := Go.Ground.phase }, { on := 18, ground := Go.Ground.phase }, { on := 19, ground := Go.Ground.phase }, { on := 20, ground := Go.Ground.phase }], guard := none }) rfl rfl (by kernel_rfl) (fun K9 hK9 => ?_)
    go_simp
    refine hK9 _ _ ⟨fun _ => hS4, ?_⟩
    clear hK9
    refine cmAnyM_oneK (i := 24) (o := { dst := none, op := Go.Op.store 3 (Go.Operand.tmp 27) (Go.Operand.tmp 24), type := 0, pos := "l14_machine.go:231", after := #[{ on := 23, ground := Go.Ground.data }, { on := 20, ground := Go.Ground.data }, { on := 20, ground := Go.Ground.chain }, { on := 0, ground := Go.Ground.phase }, { on := 1, ground := Go.Ground.phase }, { on := 2, ground := Go.Ground.phase }, { on := 3, ground := Go.Ground.phase }, { on := 4, ground := Go.Ground.phase }, { on := 5, ground := Go.Ground.phase }, { on := 6, ground := Go.Ground.phase }, { on := 7, ground := Go.Ground.phase }, { on := 8, ground := Go.Ground.phase }, { on := 9, ground := Go.Ground.phase }, { on := 10, ground := Go.Ground.phase }, { on := 11, ground := Go.Ground.phase }, { on := 12, ground := Go.Ground.phase }, { on := 13, ground := Go.Ground.phase }, { on := 14, ground := Go.Ground.phase }, { on := 15, ground := Go.Ground.phase }, { on := 16, ground := Go.Ground.phase }, { on := 17, ground := Go.Ground.phase }, { on := 18, ground := Go.Ground.phase }, { on := 19, ground := Go.Ground.phase }, { on := 20, ground := Go.Ground.phase }], guard := none }) rfl rfl (by kernel_rfl) (fun K9 hK9 => ?_)
    go_simp
    refine hK9 _ _ ⟨fun h => absurd rfl h, wpAnyM_done (by kernel_rfl) ?_ _⟩
    clear hK9
    simp only [noThrow]
    go_end0
    refine ⟨⟨_, rfl⟩, ⟨rv, tv, ?_⟩, ?_⟩
    · rw [HY.out, HZ.out]
      exact HH4.out.setReg hd _
    · exact HF4.out.trans (FrR.setR _ _ _ _ _)
  · go_simp
    refine hK9 _ _ ⟨fun _ => hHeld, ?_⟩
    clear hK9
    refine cmAnyM_twoK (i := 20) (j := 22) (o := { dst := some 24, op := Go.Op.call { callee := Go.Callee.value (Go.Operand.func 73), args := #[Go.Operand.tmp 9, Go.Operand.tmp 16, Go.Operand.tmp 23], argTypes := #[3, 3, 3] }, type := 3, pos := "l14_machine.go:231", after := #[{ on := 5, ground := Go.Ground.data }, { on := 12, ground := Go.Ground.data }, { on := 19, ground := Go.Ground.data }], guard := none }) (o2 := { dst := some 26, op := Go.Op.fieldAddr 78 (Go.Operand.tmp 25) 2, type := 0, pos := "l14_machine.go:231", after := #[{ on := 21, ground := Go.Ground.data }], guard := none }) rfl rfl rfl rfl (by kernel_rfl) (fun K9 hK9 => ?_) (fun K9 hK9 => ?_)
    · refine wp_call_of (f := 73) (args := #[.int .i64 (op - 11), .int .i64 y, .int .i64 z]) (by go_simp) (impl_word (op - 11) y z _) ?_
      rintro e w4 ⟨rfl, hq⟩
      refine ⟨_, rfl, ?_⟩
      have h4 := HH.out.drew.later hq.2
      have HF4 : Hid (FrR M M w w4) := HF.out.trans ((FrR.drew M M w1).trans (FrR.ofBelow hq.2))
      have cd4 := h4.cells.cr d hd
      have fz4 := h4.frozen (12 + d)
      have HH4 : Hid (MacAt W0 w4 M m x rv tv) := h4
      have hS4 : (fun w' => w'.cell? ⟨B, 0, none⟩ = some (.int .i64 op) ∧ w'.cell? ⟨B, 1, none⟩ = some (.int .i64 (d : Int)) ∧ w'.cell? ⟨B, 2, none⟩ = some (.int .i64 (a : Int)) ∧ w'.cell? ⟨B, 3, none⟩ = some (.int .i64 (b : Int)) ∧ w'.cell? ⟨M, 12 + a, none⟩ = some (.int .i64 y) ∧ w'.cell? ⟨M, 12 + b, none⟩ = some (.int .i64 z)) w4 := ⟨Bel.keeps hq.2 hHeld.1, Bel.keeps hq.2 hHeld.2.1, Bel.keeps hq.2 hHeld.2.2.1, Bel.keeps hq.2 hHeld.2.2.2.1, Bel.keeps hq.2 hHeld.2.2.2.2.1, Bel.keeps hq.2 hHeld.2.2.2.2.2⟩
      refine hK9 _ _ ⟨fun _ => hS4, ?_⟩
      clear hq h4 hK9
      simp only [Act.put, List.setIfInBounds_toArray, List.set_cons_zero, List.set_cons_succ]
      refine cmAnyM_oneK (i := 22) (o := { dst := some 26, op := Go.Op.fieldAddr 78 (Go.Operand.tmp 25) 2, type := 0, pos := "l14_machine.go:231", after := #[{ on := 21, ground := Go.Ground.data }], guard := none }) rfl rfl (by kernel_rfl) (fun K9 hK9 => ?_)
      go_simp
      refine hK9 _ _ ⟨fun _ => hS4, ?_⟩
      clear hK9
      refine cmAnyM_oneK (i := 23) (o := { dst := some 27, op := Go.Op.indexAddr 72 (Go.Operand.tmp 26) (Go.Operand.tmp 6), type := 0, pos := "l14_machine.go:231", after := #[{ on := 22, ground := Go.Ground.data }, { on := 2, ground := Go.Ground.data }, { on := 0, ground := Go.Ground.phase }, { on := 1, ground := Go.Ground.phase }, { on := 2, ground := Go.Ground.phase }, { on := 3, ground := Go.Ground.phase }, { on := 4, ground := Go.Ground.phase }, { on := 5, ground := Go.Ground.phase }, { on := 6, ground := Go.Ground.phase }, { on := 7, ground := Go.Ground.phase }, { on := 8, ground := Go.Ground.phase }, { on := 9, ground := Go.Ground.phase }, { on := 10, ground := Go.Ground.phase }, { on := 11, ground := Go.Ground.phase }, { on := 12, ground := Go.Ground.phase }, { on := 13, ground := Go.Ground.phase }, { on := 14, ground := Go.Ground.phase }, { on := 15, ground := Go.Ground.phase }, { on := 16, ground := Go.Ground.phase }, { on := 17, ground := Go.Ground.phase }, { on := 18, ground := Go.Ground.phase }, { on := 19, ground := Go.Ground.phase }, { on := 20, ground := Go.Ground.phase }], guard := none }) rfl rfl (by kernel_rfl) (fun K9 hK9 => ?_)
      go_simp
      refine hK9 _ _ ⟨fun _ => hS4, ?_⟩
      clear hK9
      refine cmAnyM_oneK (i := 24) (o := { dst := none, op := Go.Op.store 3 (Go.Operand.tmp 27) (Go.Operand.tmp 24), type := 0, pos := "l14_machine.go:231", after := #[{ on := 23, ground := Go.Ground.data }, { on := 20, ground := Go.Ground.data }, { on := 20, ground := Go.Ground.chain }, { on := 0, ground := Go.Ground.phase }, { on := 1, ground := Go.Ground.phase }, { on := 2, ground := Go.Ground.phase }, { on := 3, ground := Go.Ground.phase }, { on := 4, ground := Go.Ground.phase }, { on := 5, ground := Go.Ground.phase }, { on := 6, ground := Go.Ground.phase }, { on := 7, ground := Go.Ground.phase }, { on := 8, ground := Go.Ground.phase }, { on := 9, ground := Go.Ground.phase }, { on := 10, ground := Go.Ground.phase }, { on := 11, ground := Go.Ground.phase }, { on := 12, ground := Go.Ground.phase }, { on := 13, ground := Go.Ground.phase }, { on := 14, ground := Go.Ground.phase }, { on := 15, ground := Go.Ground.phase }, { on := 16, ground := Go.Ground.phase }, { on := 17, ground := Go.Ground.phase }, { on := 18, ground := Go.Ground.phase }, { on := 19, ground := Go.Ground.phase }, { on := 20, ground := Go.Ground.phase }], guard := none }) rfl rfl (by kernel_rfl) (fun K9 hK9 => ?_)
      go_simp
      refine hK9 _ _ ⟨fun h => absurd rfl h, wpAnyM_done (by kernel_rfl) ?_ _⟩
      clear hK9
      simp only [noThrow]
      go_end0
      refine ⟨⟨_, rfl⟩, ⟨rv, tv, ?_⟩, ?_⟩
      · rw [HY.out, HZ.out]
        exact HH4.out.setReg hd _
      · exact HF4.out.trans (FrR.setR _ _ _ _ _)
    · go_simp
      refine hK9 _ _ ⟨fun _ => hHeld, ?_⟩
      clear hK9
      refine cmAnyM_oneK (i := 20) (o := { dst := some 24, op := Go.Op.call { callee := Go.Callee.value (Go.Operand.func 73), args := #[Go.Operand.tmp 9, Go.Operand.tmp 16, Go.Operand.tmp 23], argTypes := #[3, 3, 3] }, type := 3, pos := "l14_machine.go:231", after := #[{ on := 5, ground := Go.Ground.data }, { on := 12, ground := Go.Ground.data }, { on := 19, ground := Go.Ground.data }], guard := none }) rfl rfl (by kernel_rfl) (fun K9 hK9 => ?_)
      refine wp_call_of (f := 73) (args := #[.int .i64 (op - 11), .int .i64 y, .int .i64 z]) (by go_simp) (impl_word (op - 11) y z _) ?_
      rintro e w4 ⟨rfl, hq⟩
      refine ⟨_, rfl, ?_⟩
      have h4 := HH.out.drew.later hq.2
      have HF4 : Hid (FrR M M w w4) := HF.out.trans ((FrR.drew M M w1).trans (FrR.ofBelow hq.2))
      have cd4 := h4.cells.cr d hd
      have fz4 := h4.frozen (12 + d)
      have HH4 : Hid (MacAt W0 w4 M m x rv tv) := h4
      have hS4 : (fun w' => w'.cell? ⟨B, 0, none⟩ = some (.int .i64 op) ∧ w'.cell? ⟨B, 1, none⟩ = some (.int .i64 (d : Int)) ∧ w'.cell? ⟨B, 2, none⟩ = some (.int .i64 (a : Int)) ∧ w'.cell? ⟨B, 3, none⟩ = some (.int .i64 (b : Int)) ∧ w'.cell? ⟨M, 12 + a, none⟩ = some (.int .i64 y) ∧ w'.cell? ⟨M, 12 + b, none⟩ = some (.int .i64 z)) w4 := ⟨Bel.keeps hq.2 hHeld.1, Bel.keeps hq.2 hHeld.2.1, Bel.keeps hq.2 hHeld.2.2.1, Bel.keeps hq.2 hHeld.2.2.2.1, Bel.keeps hq.2 hHeld.2.2.2.2.1, Bel.keeps hq.2 hHeld.2.2.2.2.2⟩
      refine hK9 _ _ ⟨fun _ => hS4, ?_⟩
      clear hq h4 hK9
      simp only [Act.put, List.setIfInBounds_toArray, List.set_cons_zero, List.set_cons_succ]
      refine cmAnyM_oneK (i := 23) (o := { dst := some 27, op := Go.Op.indexAddr 72 (Go.Operand.tmp 26) (Go.Operand.tmp 6), type := 0, pos := "l14_machine.go:231", after := #[{ on := 22, ground := Go.Ground.data }, { on := 2, ground := Go.Ground.data }, { on := 0, ground := Go.Ground.phase }, { on := 1, ground := Go.Ground.phase }, { on := 2, ground := Go.Ground.phase }, { on := 3, ground := Go.Ground.phase }, { on := 4, ground := Go.Ground.phase }, { on := 5, ground := Go.Ground.phase }, { on := 6, ground := Go.Ground.phase }, { on := 7, ground := Go.Ground.phase }, { on := 8, ground := Go.Ground.phase }, { on := 9, ground := Go.Ground.phase }, { on := 10, ground := Go.Ground.phase }, { on := 11, ground := Go.Ground.phase }, { on := 12, ground := Go.Ground.phase }, { on := 13, ground := Go.Ground.phase }, { on := 14, ground := Go.Ground.phase }, { on := 15, ground := Go.Ground.phase }, { on := 16, ground := Go.Ground.phase }, { on := 17, ground := Go.Ground.phase }, { on := 18, ground := Go.Ground.phase }, { on := 19, ground := Go.Ground.phase }, { on := 20, ground := Go.Ground.phase }], guard := none }) rfl rfl (by kernel_rfl) (fun K9 hK9 => ?_)
      go_simp
      refine hK9 _ _ ⟨fun _ => hS4, ?_⟩
      clear hK9
      refine cmAnyM_oneK (i := 24) (o := { dst := none, op := Go.Op.store 3 (Go.Operand.tmp 27) (Go.Operand.tmp 24), type := 0, pos := "l14_machine.go:231", after := #[{ on := 23, ground := Go.Ground.data }, { on := 20, ground := Go.Ground.data }, { on := 20, ground := Go.Ground.chain }, { on := 0, ground := Go.Ground.phase }, { on := 1, ground := Go.Ground.phase }, { on := 2, ground := Go.Ground.phase }, { on := 3, ground := Go.Ground.phase }, { on := 4, ground := Go.Ground.phase }, { on := 5, ground := Go.Ground.phase }, { on := 6, ground := Go.Ground.phase }, { on := 7, ground := Go.Ground.phase }, { on := 8, ground := Go.Ground.phase }, { on := 9, ground := Go.Ground.phase }, { on := 10, ground := Go.Ground.phase }, { on := 11, ground := Go.Ground.phase }, { on := 12, ground := Go.Ground.phase }, { on := 13, ground := Go.Ground.phase }, { on := 14, ground := Go.Ground.phase }, { on := 15, ground := Go.Ground.phase }, { on := 16, ground := Go.Ground.phase }, { on := 17, ground := Go.Ground.phase }, { on := 18, ground := Go.Ground.phase }, { on := 19, ground := Go.Ground.phase }, { on := 20, ground := Go.Ground.phase }], guard := none }) rfl rfl (by kernel_rfl) (fun K9 hK9 => ?_)
      go_simp
      refine hK9 _ _ ⟨fun h => absurd rfl h, wpAnyM_done (by kernel_rfl) ?_ _⟩
      clear hK9
      simp only [noThrow]
      go_end0
      refine ⟨⟨_, rfl⟩, ⟨rv, tv, ?_⟩, ?_⟩
      · rw [HY.out, HZ.out]
        exact HH4.out.setReg hd _
      · exact HF4.out.trans (FrR.setR _ _ _ _ _)

end
end Go.Proofs.YtebcocehdjoafaaDoor
