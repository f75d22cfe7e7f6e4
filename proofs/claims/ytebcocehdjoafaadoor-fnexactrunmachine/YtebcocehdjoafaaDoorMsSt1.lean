/- The model's l14Step, for each kind of step but what is told and read. -/
import Derived.Test.YtebcocehdjoafaaDoorMsMem
import Derived.Test.YtebcocehdjoafaaDoorMaI2
import Derived.Test.YtebcocehdjoafaaDoorHmIn
namespace Go.Proofs.YtebcocehdjoafaaDoor
open Go.ChangeShapes Go.WideShapes Go.ChangeAt Go.RowKit Go.Shelf
set_option linter.unusedVariables false

section
variable {W0 : World} {T : Nat} {m : MacS}

set_option maxRecDepth 100000 in
set_option maxHeartbeats 4000000 in
theorem ts_set (d : Nat) (n : Int) (hd : d < 8) (w : World) (h : TIs W0 w T m) (hpc : m.pc ≤ 900) :
    Calls Tryd.prog 39 #[.pointer (some ⟨T, 0, none⟩), .agg #[.int .i64 1, .int .i64 (d : Int), .int .i64 0, .int .i64 0, .int .i64 n]] w fun e w' => e = .returned (.int .i64 0) ∧ TIs W0 w' T { m with pc := m.pc + 1, regs := updN m.regs d n } := by
  obtain ⟨P, rg, sg, vb, vc, cb, cc, rv, rb, tb, tc, pb, pc, h⟩ := h
  have HH0 : Hid (TAt W0 w T P m rg sg vb vc cb cc rv rb tb tc pb pc) := h
  have t3 := h.cell.2.2.2
  have ft := h.frozen 3
  have hTl := h.lt
  obtain ⟨pn, HPN⟩ : ∃ p, Hid (m.pc = p) := ⟨_, rfl⟩
  rw [HPN.out] at t3 hpc
  clear h
  go_enter Tryd.func39, Tryd.ntmps39
  go_wp2_with fail
  obtain ⟨w1, hw1⟩ : ∃ W, (w.setCell ⟨T, 3, none⟩ (.int .i64 ((pn : Int) + 1))).alloc (.cells #[.int .i64 1, .int .i64 (d : Int), .int .i64 0, .int .i64 0, .int .i64 n] 25) = W := ⟨_, rfl⟩
  have h1 : TAt W0 w1 T P { m with pc := m.pc + 1 } rg sg vb vc cb cc rv rb tb tc pb pc := by
    have h3 := (HH0.out.setPc (m.pc + 1)).later (Bel.alloc _ (.cells #[.int .i64 1, .int .i64 (d : Int), .int .i64 0, .int .i64 0, .int .i64 n] 25))
    have e : ((m.pc + 1 : Nat) : Int) = (pn : Int) + 1 := by rw [HPN.out]; rfl
    rw [e, hw1] at h3
    exact h3
  have bx : w1.heap[w.heap.size]? = some (.cells #[.int .i64 1, .int .i64 (d : Int), .int .i64 0, .int .i64 0, .int .i64 n] 25 (0, 0)) := by
    rw [← hw1]
    exact heap_last (by simp)
  rw [hw1]
  clear hw1 t3 ft hTl
  generalize w.heap.size = B at bx ⊢
  have x0 : w1.cell? ⟨B, 0, none⟩ = some (.int .i64 1) := by simp [World.cell?, bx]
  have x1 : w1.cell? ⟨B, 1, none⟩ = some (.int .i64 (d : Int)) := by simp [World.cell?, bx]
  have x2 : w1.cell? ⟨B, 2, none⟩ = some (.int .i64 0) := by simp [World.cell?, bx]
  have x3 : w1.cell? ⟨B, 3, none⟩ = some (.int .i64 0) := by simp [World.cell?, bx]
  have x4 : w1.cell? ⟨B, 4, none⟩ = some (.int .i64 n) := by simp [World.cell?, bx]
  have hBr : rg ≠ B := (not_row bx (by decide) h1.regs.heapOf).symm
  have hBs : sg ≠ B := (not_row bx (by decide) h1.slots.heapOf).symm
  have hBc : cb ≠ B := (not_row bx (by decide) h1.s.cells.heapOf).symm
  have hrT : rg ≠ T := h1.hTr.symm
  have hsT : sg ≠ T := h1.hTs.symm
  have hcT : cb ≠ T := h1.hTc.symm
  have hrP : rg ≠ P := h1.hPr.symm
  obtain ⟨p0, p1, p2, p3⟩ := h1.cell
  obtain ⟨_, u1, u2, u3, _, _⟩ := h1.s.cell
  have fr : ∀ i, w1.frozen? ⟨rg, i, none⟩ = false := fun i => frozen_of_cells h1.regs.heapOf i
  have fs : ∀ i, w1.frozen? ⟨sg, i, none⟩ = false := fun i => frozen_of_cells h1.slots.heapOf i
  have fc : ∀ i, w1.frozen? ⟨cb, i, none⟩ = false := fun i => frozen_of_cells h1.s.cells.heapOf i
  have fT : w1.frozen? ⟨T, 3, none⟩ = false := h1.frozen 3
  have HH : Hid (TAt W0 w1 T P { m with pc := m.pc + 1 } rg sg vb vc cb cc rv rb tb tc pb pc) := h1
  have HBX : Hid (w1.heap[B]? = some (.cells #[.int .i64 1, .int .i64 (d : Int), .int .i64 0, .int .i64 0, .int .i64 n] 25 (0, 0))) := bx
  have ca := h1.regAt (i := 0) (by omega)
  obtain ⟨y, HY⟩ : ∃ y, Hid (m.regs 0 = y) := ⟨_, rfl⟩
  rw [show ({ m with pc := m.pc + 1 } : MacS).regs 0 = y from HY.out] at ca
  have cd := h1.regAt (i := d) hd
  have fd := fr d
  have hd2 : (d : Int) < 8 := by omega
  clear h1 bx
  go_region_held3 (fun w' => w'.cell? ⟨T, 0, none⟩ = some (.slice (some ⟨rg, 0, none⟩) 8 8) ∧ w'.cell? ⟨B, 2, none⟩ = some (.int .i64 0) ∧ w'.cell? ⟨rg, 0, none⟩ = some (.int .i64 y)) (go_keep) (fail)
  simp only [Exit.then]
  go_at_K
  go_wp2_with fail
  have hHeld : (fun w' => w'.cell? ⟨T, 0, none⟩ = some (.slice (some ⟨rg, 0, none⟩) 8 8) ∧ w'.cell? ⟨B, 1, none⟩ = some (.int .i64 (d : Int)) ∧ w'.cell? ⟨B, 4, none⟩ = some (.int .i64 n)) w1.drew.drew := ⟨p0, x1, x4⟩
  refine wp_noThrow (region_M 9 (fun w' => w'.cell? ⟨T, 0, none⟩ = some (.slice (some ⟨rg, 0, none⟩) 8 8) ∧ w'.cell? ⟨B, 1, none⟩ = some (.int .i64 (d : Int)) ∧ w'.cell? ⟨B, 4, none⟩ = some (.int .i64 n)) (by kernel_rfl) ?_)
  refine wpAnyM_take (i := 0) (oi := { dst := some 46, op := Go.Op.move (Go.Operand.tmp 0), type := 62, pos := "l14_machine.go:63", after := #[], guard := none }) (v := ?_) rfl (by kernel_rfl) (by kernel_rfl) (by kernel_rfl) (by kernel_rfl) (fun _ _ _ h => h) (Or.inl ⟨by rfl, ?_⟩) (by assumption) ?_
  rotate_left
  · intro w hSw
    (try dsimp only at hSw)
    go_simp
    (try with_reducible rfl)
  try simp only [Act.put, List.setIfInBounds_toArray, List.set_cons_zero, List.set_cons_succ]
  refine wpAnyM_take (i := 1) (oi := { dst := some 47, op := Go.Op.nilCheck (Go.Operand.tmp 46), type := 0, pos := "l14_machine.go:63", after := #[{ on := 0, ground := Go.Ground.data }], guard := none }) (v := ?_) rfl (by kernel_rfl) (by kernel_rfl) (by kernel_rfl) (by kernel_rfl) (fun _ _ _ h => h) (Or.inl ⟨by rfl, ?_⟩) (by assumption) ?_
  rotate_left
  · intro w hSw
    (try dsimp only at hSw)
    go_simp
    (try with_reducible rfl)
  try simp only [Act.put, List.setIfInBounds_toArray, List.set_cons_zero, List.set_cons_succ]
  refine wpAnyM_take (i := 2) (oi := { dst := some 48, op := Go.Op.fieldAddr 66 (Go.Operand.tmp 47) 0, type := 0, pos := "l14_machine.go:63", after := #[{ on := 1, ground := Go.Ground.data }], guard := none }) (v := ?_) rfl (by kernel_rfl) (by kernel_rfl) (by kernel_rfl) (by kernel_rfl) (fun _ _ _ h => h) (Or.inl ⟨by rfl, ?_⟩) (by assumption) ?_
  rotate_left
  · intro w hSw
    (try dsimp only at hSw)
    go_simp
    (try with_reducible rfl)
  try simp only [Act.put, List.setIfInBounds_toArray, List.set_cons_zero, List.set_cons_succ]
  refine wpAnyM_take (i := 3) (oi := { dst := some 49, op := Go.Op.load 39 (Go.Operand.tmp 48), type := 39, pos := "l14_machine.go:63", after := #[{ on := 2, ground := Go.Ground.data }], guard := none }) (v := ?_) rfl (by kernel_rfl) (by kernel_rfl) (by kernel_rfl) (by kernel_rfl) (fun _ _ _ h => h) (Or.inl ⟨by rfl, ?_⟩) (by assumption) ?_
  rotate_left
  · intro w hSw
    (try dsimp only at hSw)
    go_simp
    (try with_reducible rfl)
  try simp only [Act.put, List.setIfInBounds_toArray, List.set_cons_zero, List.set_cons_succ]
  refine wpAnyM_take (i := 4) (oi := { dst := some 50, op := Go.Op.fieldAddr 25 (Go.Operand.tmp 3) 1, type := 0, pos := "l14_machine.go:63", after := #[], guard := none }) (v := ?_) rfl (by kernel_rfl) (by kernel_rfl) (by kernel_rfl) (by kernel_rfl) (fun _ _ _ h => h) (Or.inl ⟨by rfl, ?_⟩) (by assumption) ?_
  rotate_left
  · intro w hSw
    (try dsimp only at hSw)
    go_simp
    (try with_reducible rfl)
  try simp only [Act.put, List.setIfInBounds_toArray, List.set_cons_zero, List.set_cons_succ]
  refine wpAnyM_take (i := 5) (oi := { dst := some 51, op := Go.Op.load 3 (Go.Operand.tmp 50), type := 3, pos := "l14_machine.go:63", after := #[{ on := 4, ground := Go.Ground.data }], guard := none }) (v := ?_) rfl (by kernel_rfl) (by kernel_rfl) (by kernel_rfl) (by kernel_rfl) (fun _ _ _ h => h) (Or.inl ⟨by rfl, ?_⟩) (by assumption) ?_
  rotate_left
  · intro w hSw
    (try dsimp only at hSw)
    go_simp
    (try with_reducible rfl)
  try simp only [Act.put, List.setIfInBounds_toArray, List.set_cons_zero, List.set_cons_succ]
  refine wpAnyM_take (i := 6) (oi := { dst := some 52, op := Go.Op.fieldAddr 25 (Go.Operand.tmp 3) 4, type := 0, pos := "l14_machine.go:63", after := #[], guard := none }) (v := ?_) rfl (by kernel_rfl) (by kernel_rfl) (by kernel_rfl) (by kernel_rfl) (fun _ _ _ h => h) (Or.inl ⟨by rfl, ?_⟩) (by assumption) ?_
  rotate_left
  · intro w hSw
    (try dsimp only at hSw)
    go_simp
    (try with_reducible rfl)
  try simp only [Act.put, List.setIfInBounds_toArray, List.set_cons_zero, List.set_cons_succ]
  refine wpAnyM_take (i := 7) (oi := { dst := some 53, op := Go.Op.load 3 (Go.Operand.tmp 52), type := 3, pos := "l14_machine.go:63", after := #[{ on := 6, ground := Go.Ground.data }], guard := none }) (v := ?_) rfl (by kernel_rfl) (by kernel_rfl) (by kernel_rfl) (by kernel_rfl) (fun _ _ _ h => h) (Or.inl ⟨by rfl, ?_⟩) (by assumption) ?_
  rotate_left
  · intro w hSw
    (try dsimp only at hSw)
    go_simp
    (try with_reducible rfl)
  try simp only [Act.put, List.setIfInBounds_toArray, List.set_cons_zero, List.set_cons_succ]
  refine wpAnyM_take (i := 8) (oi := { dst := some 54, op := Go.Op.indexAddr 39 (Go.Operand.tmp 49) (Go.Operand.tmp 51), type := 0, pos := "l14_machine.go:63", after := #[{ on := 3, ground := Go.Ground.data }, { on := 5, ground := Go.Ground.data }, { on := 0, ground := Go.Ground.phase }, { on := 1, ground := Go.Ground.phase }, { on := 2, ground := Go.Ground.phase }, { on := 3, ground := Go.Ground.phase }, { on := 4, ground := Go.Ground.phase }, { on := 5, ground := Go.Ground.phase }, { on := 6, ground := Go.Ground.phase }, { on := 7, ground := Go.Ground.phase }], guard := none }) (v := ?_) rfl (by kernel_rfl) (by kernel_rfl) (by kernel_rfl) (by kernel_rfl) (fun _ _ _ h => h) (Or.inl ⟨by rfl, ?_⟩) (by assumption) ?_
  rotate_left
  · intro w hSw
    (try dsimp only at hSw)
    go_simp
    (try with_reducible rfl)
  try simp only [Act.put, List.setIfInBounds_toArray, List.set_cons_zero, List.set_cons_succ]
  refine cmAnyM_oneK (i := 9) (o := { dst := none, op := Go.Op.store 3 (Go.Operand.tmp 54) (Go.Operand.tmp 53), type := 0, pos := "l14_machine.go:63", after := #[{ on := 8, ground := Go.Ground.data }, { on := 7, ground := Go.Ground.data }, { on := 0, ground := Go.Ground.phase }, { on := 1, ground := Go.Ground.phase }, { on := 2, ground := Go.Ground.phase }, { on := 3, ground := Go.Ground.phase }, { on := 4, ground := Go.Ground.phase }, { on := 5, ground := Go.Ground.phase }, { on := 6, ground := Go.Ground.phase }, { on := 7, ground := Go.Ground.phase }], guard := none }) rfl rfl (by kernel_rfl) (fun K9 hK9 => ?_)
  go_simp
  refine hK9 _ _ ⟨fun h => absurd rfl h, wpAnyM_done (by kernel_rfl) ?_ _⟩
  clear hK9
  simp only [noThrow, Exit.inBlock, Exit.then]
  go_at_K
  go_wp2_with fail
  go_ret
  exact ⟨rfl, P, rg, sg, vb, vc, cb, cc, rv, rb, tb, tc, pb, pc, (HH.out.drew.drew).setReg hd n⟩

set_option maxRecDepth 100000 in
set_option maxHeartbeats 4000000 in
theorem ts_move (d a : Nat) (hd : d < 8) (ha : a < 8) (w : World) (h : TIs W0 w T m) (hpc : m.pc ≤ 900) :
    Calls Tryd.prog 39 #[.pointer (some ⟨T, 0, none⟩), .agg #[.int .i64 2, .int .i64 (d : Int), .int .i64 (a : Int), .int .i64 0, .int .i64 0]] w fun e w' => e = .returned (.int .i64 0) ∧ TIs W0 w' T { m with pc := m.pc + 1, regs := updN m.regs d (m.regs a) } := by
  obtain ⟨P, rg, sg, vb, vc, cb, cc, rv, rb, tb, tc, pb, pc, h⟩ := h
  have HH0 : Hid (TAt W0 w T P m rg sg vb vc cb cc rv rb tb tc pb pc) := h
  have t3 := h.cell.2.2.2
  have ft := h.frozen 3
  have hTl := h.lt
  obtain ⟨pn, HPN⟩ : ∃ p, Hid (m.pc = p) := ⟨_, rfl⟩
  rw [HPN.out] at t3 hpc
  clear h
  go_enter Tryd.func39, Tryd.ntmps39
  go_wp2_with fail
  obtain ⟨w1, hw1⟩ : ∃ W, (w.setCell ⟨T, 3, none⟩ (.int .i64 ((pn : Int) + 1))).alloc (.cells #[.int .i64 2, .int .i64 (d : Int), .int .i64 (a : Int), .int .i64 0, .int .i64 0] 25) = W := ⟨_, rfl⟩
  have h1 : TAt W0 w1 T P { m with pc := m.pc + 1 } rg sg vb vc cb cc rv rb tb tc pb pc := by
    have h3 := (HH0.out.setPc (m.pc + 1)).later (Bel.alloc _ (.cells #[.int .i64 2, .int .i64 (d : Int), .int .i64 (a : Int), .int .i64 0, .int .i64 0] 25))
    have e : ((m.pc + 1 : Nat) : Int) = (pn : Int) + 1 := by rw [HPN.out]; rfl
    rw [e, hw1] at h3
    exact h3
  have bx : w1.heap[w.heap.size]? = some (.cells #[.int .i64 2, .int .i64 (d : Int), .int .i64 (a : Int), .int .i64 0, .int .i64 0] 25 (0, 0)) := by
    rw [← hw1]
    exact heap_last (by simp)
  rw [hw1]
  clear hw1 t3 ft hTl
  generalize w.heap.size = B at bx ⊢
  have x0 : w1.cell? ⟨B, 0, none⟩ = some (.int .i64 2) := by simp [World.cell?, bx]
  have x1 : w1.cell? ⟨B, 1, none⟩ = some (.int .i64 (d : Int)) := by simp [World.cell?, bx]
  have x2 : w1.cell? ⟨B, 2, none⟩ = some (.int .i64 (a : Int)) := by simp [World.cell?, bx]
  have x3 : w1.cell? ⟨B, 3, none⟩ = some (.int .i64 0) := by simp [World.cell?, bx]
  have x4 : w1.cell? ⟨B, 4, none⟩ = some (.int .i64 0) := by simp [World.cell?, bx]
  have hBr : rg ≠ B := (not_row bx (by decide) h1.regs.heapOf).symm
  have hBs : sg ≠ B := (not_row bx (by decide) h1.slots.heapOf).symm
  have hBc : cb ≠ B := (not_row bx (by decide) h1.s.cells.heapOf).symm
  have hrT : rg ≠ T := h1.hTr.symm
  have hsT : sg ≠ T := h1.hTs.symm
  have hcT : cb ≠ T := h1.hTc.symm
  have hrP : rg ≠ P := h1.hPr.symm
  obtain ⟨p0, p1, p2, p3⟩ := h1.cell
  obtain ⟨_, u1, u2, u3, _, _⟩ := h1.s.cell
  have fr : ∀ i, w1.frozen? ⟨rg, i, none⟩ = false := fun i => frozen_of_cells h1.regs.heapOf i
  have fs : ∀ i, w1.frozen? ⟨sg, i, none⟩ = false := fun i => frozen_of_cells h1.slots.heapOf i
  have fc : ∀ i, w1.frozen? ⟨cb, i, none⟩ = false := fun i => frozen_of_cells h1.s.cells.heapOf i
  have fT : w1.frozen? ⟨T, 3, none⟩ = false := h1.frozen 3
  have HH : Hid (TAt W0 w1 T P { m with pc := m.pc + 1 } rg sg vb vc cb cc rv rb tb tc pb pc) := h1
  have HBX : Hid (w1.heap[B]? = some (.cells #[.int .i64 2, .int .i64 (d : Int), .int .i64 (a : Int), .int .i64 0, .int .i64 0] 25 (0, 0))) := bx
  have ca := h1.regAt (i := a) ha
  obtain ⟨y, HY⟩ : ∃ y, Hid (m.regs a = y) := ⟨_, rfl⟩
  rw [show ({ m with pc := m.pc + 1 } : MacS).regs a = y from HY.out] at ca
  have cd := h1.regAt (i := d) hd
  have fd := fr d
  have hd2 : (d : Int) < 8 := by omega
  have ha2 : (a : Int) < 8 := by omega
  clear h1 bx
  go_region_held3 (fun w' => w'.cell? ⟨T, 0, none⟩ = some (.slice (some ⟨rg, 0, none⟩) 8 8) ∧ w'.cell? ⟨B, 2, none⟩ = some (.int .i64 (a : Int)) ∧ w'.cell? ⟨rg, a, none⟩ = some (.int .i64 y)) (go_keep) (fail)
  simp only [Exit.then]
  go_at_K
  go_wp2_with fail
  have hHeld : (fun w' => w'.cell? ⟨T, 0, none⟩ = some (.slice (some ⟨rg, 0, none⟩) 8 8) ∧ w'.cell? ⟨B, 1, none⟩ = some (.int .i64 (d : Int))) w1.drew.drew := ⟨p0, x1⟩
  refine wp_noThrow (region_M 8 (fun w' => w'.cell? ⟨T, 0, none⟩ = some (.slice (some ⟨rg, 0, none⟩) 8 8) ∧ w'.cell? ⟨B, 1, none⟩ = some (.int .i64 (d : Int))) (by kernel_rfl) ?_)
  refine wpAnyM_take (i := 0) (oi := { dst := some 57, op := Go.Op.move (Go.Operand.tmp 0), type := 62, pos := "l14_machine.go:65", after := #[], guard := none }) (v := ?_) rfl (by kernel_rfl) (by kernel_rfl) (by kernel_rfl) (by kernel_rfl) (fun _ _ _ h => h) (Or.inl ⟨by rfl, ?_⟩) (by assumption) ?_
  rotate_left
  · intro w hSw
    (try dsimp only at hSw)
    go_simp
    (try with_reducible rfl)
  try simp only [Act.put, List.setIfInBounds_toArray, List.set_cons_zero, List.set_cons_succ]
  refine wpAnyM_take (i := 1) (oi := { dst := some 58, op := Go.Op.nilCheck (Go.Operand.tmp 57), type := 0, pos := "l14_machine.go:65", after := #[{ on := 0, ground := Go.Ground.data }], guard := none }) (v := ?_) rfl (by kernel_rfl) (by kernel_rfl) (by kernel_rfl) (by kernel_rfl) (fun _ _ _ h => h) (Or.inl ⟨by rfl, ?_⟩) (by assumption) ?_
  rotate_left
  · intro w hSw
    (try dsimp only at hSw)
    go_simp
    (try with_reducible rfl)
  try simp only [Act.put, List.setIfInBounds_toArray, List.set_cons_zero, List.set_cons_succ]
  refine wpAnyM_take (i := 2) (oi := { dst := some 59, op := Go.Op.fieldAddr 66 (Go.Operand.tmp 58) 0, type := 0, pos := "l14_machine.go:65", after := #[{ on := 1, ground := Go.Ground.data }], guard := none }) (v := ?_) rfl (by kernel_rfl) (by kernel_rfl) (by kernel_rfl) (by kernel_rfl) (fun _ _ _ h => h) (Or.inl ⟨by rfl, ?_⟩) (by assumption) ?_
  rotate_left
  · intro w hSw
    (try dsimp only at hSw)
    go_simp
    (try with_reducible rfl)
  try simp only [Act.put, List.setIfInBounds_toArray, List.set_cons_zero, List.set_cons_succ]
  refine wpAnyM_take (i := 3) (oi := { dst := some 60, op := Go.Op.load 39 (Go.Operand.tmp 59), type := 39, pos := "l14_machine.go:65", after := #[{ on := 2, ground := Go.Ground.data }], guard := none }) (v := ?_) rfl (by kernel_rfl) (by kernel_rfl) (by kernel_rfl) (by kernel_rfl) (fun _ _ _ h => h) (Or.inl ⟨by rfl, ?_⟩) (by assumption) ?_
  rotate_left
  · intro w hSw
    (try dsimp only at hSw)
    go_simp
    (try with_reducible rfl)
  try simp only [Act.put, List.setIfInBounds_toArray, List.set_cons_zero, List.set_cons_succ]
  refine wpAnyM_take (i := 4) (oi := { dst := some 61, op := Go.Op.fieldAddr 25 (Go.Operand.tmp 3) 1, type := 0, pos := "l14_machine.go:65", after := #[], guard := none }) (v := ?_) rfl (by kernel_rfl) (by kernel_rfl) (by kernel_rfl) (by kernel_rfl) (fun _ _ _ h => h) (Or.inl ⟨by rfl, ?_⟩) (by assumption) ?_
  rotate_left
  · intro w hSw
    (try dsimp only at hSw)
    go_simp
    (try with_reducible rfl)
  try simp only [Act.put, List.setIfInBounds_toArray, List.set_cons_zero, List.set_cons_succ]
  refine wpAnyM_take (i := 5) (oi := { dst := some 62, op := Go.Op.load 3 (Go.Operand.tmp 61), type := 3, pos := "l14_machine.go:65", after := #[{ on := 4, ground := Go.Ground.data }], guard := none }) (v := ?_) rfl (by kernel_rfl) (by kernel_rfl) (by kernel_rfl) (by kernel_rfl) (fun _ _ _ h => h) (Or.inl ⟨by rfl, ?_⟩) (by assumption) ?_
  rotate_left
  · intro w hSw
    (try dsimp only at hSw)
    go_simp
    (try with_reducible rfl)
  try simp only [Act.put, List.setIfInBounds_toArray, List.set_cons_zero, List.set_cons_succ]
  refine wpAnyM_take (i := 6) (oi := { dst := some 63, op := Go.Op.move (Go.Operand.tmp 5), type := 3, pos := "l14_machine.go:65", after := #[], guard := none }) (v := ?_) rfl (by kernel_rfl) (by kernel_rfl) (by kernel_rfl) (by kernel_rfl) (fun _ _ _ h => h) (Or.inl ⟨by rfl, ?_⟩) (by assumption) ?_
  rotate_left
  · intro w hSw
    (try dsimp only at hSw)
    go_simp
    (try with_reducible rfl)
  try simp only [Act.put, List.setIfInBounds_toArray, List.set_cons_zero, List.set_cons_succ]
  refine wpAnyM_take (i := 7) (oi := { dst := some 64, op := Go.Op.indexAddr 39 (Go.Operand.tmp 60) (Go.Operand.tmp 62), type := 0, pos := "l14_machine.go:65", after := #[{ on := 3, ground := Go.Ground.data }, { on := 5, ground := Go.Ground.data }, { on := 0, ground := Go.Ground.phase }, { on := 1, ground := Go.Ground.phase }, { on := 2, ground := Go.Ground.phase }, { on := 3, ground := Go.Ground.phase }, { on := 4, ground := Go.Ground.phase }, { on := 5, ground := Go.Ground.phase }, { on := 6, ground := Go.Ground.phase }], guard := none }) (v := ?_) rfl (by kernel_rfl) (by kernel_rfl) (by kernel_rfl) (by kernel_rfl) (fun _ _ _ h => h) (Or.inl ⟨by rfl, ?_⟩) (by assumption) ?_
  rotate_left
  · intro w hSw
    (try dsimp only at hSw)
    go_simp
    (try with_reducible rfl)
  try simp only [Act.put, List.setIfInBounds_toArray, List.set_cons_zero, List.set_cons_succ]
  refine cmAnyM_oneK (i := 8) (o := { dst := none, op := Go.Op.store 3 (Go.Operand.tmp 64) (Go.Operand.tmp 63), type := 0, pos := "l14_machine.go:65", after := #[{ on := 7, ground := Go.Ground.data }, { on := 6, ground := Go.Ground.data }, { on := 0, ground := Go.Ground.phase }, { on := 1, ground := Go.Ground.phase }, { on := 2, ground := Go.Ground.phase }, { on := 3, ground := Go.Ground.phase }, { on := 4, ground := Go.Ground.phase }, { on := 5, ground := Go.Ground.phase }, { on := 6, ground := Go.Ground.phase }], guard := none }) rfl rfl (by kernel_rfl) (fun K9 hK9 => ?_)
  go_simp
  refine hK9 _ _ ⟨fun h => absurd rfl h, wpAnyM_done (by kernel_rfl) ?_ _⟩
  clear hK9
  simp only [noThrow, Exit.inBlock, Exit.then]
  go_at_K
  go_wp2_with fail
  go_ret
  rw [HY.out]
  exact ⟨rfl, P, rg, sg, vb, vc, cb, cc, rv, rb, tb, tc, pb, pc, (HH.out.drew.drew).setReg hd y⟩

set_option maxRecDepth 100000 in
set_option maxHeartbeats 4000000 in
theorem ts_get (d n : Nat) (hd : d < 8) (hn : n < 40) (w : World) (h : TIs W0 w T m) (hpc : m.pc ≤ 900) :
    Calls Tryd.prog 39 #[.pointer (some ⟨T, 0, none⟩), .agg #[.int .i64 3, .int .i64 (d : Int), .int .i64 0, .int .i64 0, .int .i64 (n : Int)]] w fun e w' => e = .returned (.int .i64 0) ∧ TIs W0 w' T { m with pc := m.pc + 1, regs := updN m.regs d (m.slots n) } := by
  obtain ⟨P, rg, sg, vb, vc, cb, cc, rv, rb, tb, tc, pb, pc, h⟩ := h
  have HH0 : Hid (TAt W0 w T P m rg sg vb vc cb cc rv rb tb tc pb pc) := h
  have t3 := h.cell.2.2.2
  have ft := h.frozen 3
  have hTl := h.lt
  obtain ⟨pn, HPN⟩ : ∃ p, Hid (m.pc = p) := ⟨_, rfl⟩
  rw [HPN.out] at t3 hpc
  clear h
  go_enter Tryd.func39, Tryd.ntmps39
  go_wp2_with fail
  obtain ⟨w1, hw1⟩ : ∃ W, (w.setCell ⟨T, 3, none⟩ (.int .i64 ((pn : Int) + 1))).alloc (.cells #[.int .i64 3, .int .i64 (d : Int), .int .i64 0, .int .i64 0, .int .i64 (n : Int)] 25) = W := ⟨_, rfl⟩
  have h1 : TAt W0 w1 T P { m with pc := m.pc + 1 } rg sg vb vc cb cc rv rb tb tc pb pc := by
    have h3 := (HH0.out.setPc (m.pc + 1)).later (Bel.alloc _ (.cells #[.int .i64 3, .int .i64 (d : Int), .int .i64 0, .int .i64 0, .int .i64 (n : Int)] 25))
    have e : ((m.pc + 1 : Nat) : Int) = (pn : Int) + 1 := by rw [HPN.out]; rfl
    rw [e, hw1] at h3
    exact h3
  have bx : w1.heap[w.heap.size]? = some (.cells #[.int .i64 3, .int .i64 (d : Int), .int .i64 0, .int .i64 0, .int .i64 (n : Int)] 25 (0, 0)) := by
    rw [← hw1]
    exact heap_last (by simp)
  rw [hw1]
  clear hw1 t3 ft hTl
  generalize w.heap.size = B at bx ⊢
  have x0 : w1.cell? ⟨B, 0, none⟩ = some (.int .i64 3) := by simp [World.cell?, bx]
  have x1 : w1.cell? ⟨B, 1, none⟩ = some (.int .i64 (d : Int)) := by simp [World.cell?, bx]
  have x2 : w1.cell? ⟨B, 2, none⟩ = some (.int .i64 0) := by simp [World.cell?, bx]
  have x3 : w1.cell? ⟨B, 3, none⟩ = some (.int .i64 0) := by simp [World.cell?, bx]
  have x4 : w1.cell? ⟨B, 4, none⟩ = some (.int .i64 (n : Int)) := by simp [World.cell?, bx]
  have hBr : rg ≠ B := (not_row bx (by decide) h1.regs.heapOf).symm
  have hBs : sg ≠ B := (not_row bx (by decide) h1.slots.heapOf).symm
  have hBc : cb ≠ B := (not_row bx (by decide) h1.s.cells.heapOf).symm
  have hrT : rg ≠ T := h1.hTr.symm
  have hsT : sg ≠ T := h1.hTs.symm
  have hcT : cb ≠ T := h1.hTc.symm
  have hrP : rg ≠ P := h1.hPr.symm
  obtain ⟨p0, p1, p2, p3⟩ := h1.cell
  obtain ⟨_, u1, u2, u3, _, _⟩ := h1.s.cell
  have fr : ∀ i, w1.frozen? ⟨rg, i, none⟩ = false := fun i => frozen_of_cells h1.regs.heapOf i
  have fs : ∀ i, w1.frozen? ⟨sg, i, none⟩ = false := fun i => frozen_of_cells h1.slots.heapOf i
  have fc : ∀ i, w1.frozen? ⟨cb, i, none⟩ = false := fun i => frozen_of_cells h1.s.cells.heapOf i
  have fT : w1.frozen? ⟨T, 3, none⟩ = false := h1.frozen 3
  have HH : Hid (TAt W0 w1 T P { m with pc := m.pc + 1 } rg sg vb vc cb cc rv rb tb tc pb pc) := h1
  have HBX : Hid (w1.heap[B]? = some (.cells #[.int .i64 3, .int .i64 (d : Int), .int .i64 0, .int .i64 0, .int .i64 (n : Int)] 25 (0, 0))) := bx
  have ca := h1.regAt (i := 0) (by omega)
  obtain ⟨y, HY⟩ : ∃ y, Hid (m.regs 0 = y) := ⟨_, rfl⟩
  rw [show ({ m with pc := m.pc + 1 } : MacS).regs 0 = y from HY.out] at ca
  have cd := h1.regAt (i := d) hd
  have fd := fr d
  have cz := h1.slotAt (i := n) hn
  obtain ⟨z, HZ⟩ : ∃ z, Hid (m.slots n = z) := ⟨_, rfl⟩
  rw [show ({ m with pc := m.pc + 1 } : MacS).slots n = z from HZ.out] at cz
  have hd2 : (d : Int) < 8 := by omega
  have hn2 : (n : Int) < 40 := by omega
  clear h1 bx
  go_region_held3 (fun w' => w'.cell? ⟨T, 0, none⟩ = some (.slice (some ⟨rg, 0, none⟩) 8 8) ∧ w'.cell? ⟨B, 2, none⟩ = some (.int .i64 0) ∧ w'.cell? ⟨rg, 0, none⟩ = some (.int .i64 y)) (go_keep) (fail)
  simp only [Exit.then]
  go_at_K
  go_wp2_with fail
  have hHeld : (fun w' => w'.cell? ⟨T, 0, none⟩ = some (.slice (some ⟨rg, 0, none⟩) 8 8) ∧ w'.cell? ⟨T, 1, none⟩ = some (.slice (some ⟨sg, 0, none⟩) 40 40) ∧ w'.cell? ⟨B, 1, none⟩ = some (.int .i64 (d : Int)) ∧ w'.cell? ⟨B, 4, none⟩ = some (.int .i64 (n : Int)) ∧ w'.cell? ⟨sg, n, none⟩ = some (.int .i64 z)) w1.drew.drew := ⟨p0, p1, x1, x4, cz⟩
  refine wp_noThrow (region_M 15 (fun w' => w'.cell? ⟨T, 0, none⟩ = some (.slice (some ⟨rg, 0, none⟩) 8 8) ∧ w'.cell? ⟨T, 1, none⟩ = some (.slice (some ⟨sg, 0, none⟩) 40 40) ∧ w'.cell? ⟨B, 1, none⟩ = some (.int .i64 (d : Int)) ∧ w'.cell? ⟨B, 4, none⟩ = some (.int .i64 (n : Int)) ∧ w'.cell? ⟨sg, n, none⟩ = some (.int .i64 z)) (by kernel_rfl) ?_)
  refine wpAnyM_take (i := 0) (oi := { dst := some 67, op := Go.Op.move (Go.Operand.tmp 0), type := 62, pos := "l14_machine.go:67", after := #[], guard := none }) (v := ?_) rfl (by kernel_rfl) (by kernel_rfl) (by kernel_rfl) (by kernel_rfl) (fun _ _ _ h => h) (Or.inl ⟨by rfl, ?_⟩) (by assumption) ?_
  rotate_left
  · intro w hSw
    (try dsimp only at hSw)
    go_simp
    (try with_reducible rfl)
  try simp only [Act.put, List.setIfInBounds_toArray, List.set_cons_zero, List.set_cons_succ]
  refine wpAnyM_take (i := 1) (oi := { dst := some 68, op := Go.Op.nilCheck (Go.Operand.tmp 67), type := 0, pos := "l14_machine.go:67", after := #[{ on := 0, ground := Go.Ground.data }], guard := none }) (v := ?_) rfl (by kernel_rfl) (by kernel_rfl) (by kernel_rfl) (by kernel_rfl) (fun _ _ _ h => h) (Or.inl ⟨by rfl, ?_⟩) (by assumption) ?_
  rotate_left
  · intro w hSw
    (try dsimp only at hSw)
    go_simp
    (try with_reducible rfl)
  try simp only [Act.put, List.setIfInBounds_toArray, List.set_cons_zero, List.set_cons_succ]
  refine wpAnyM_take (i := 2) (oi := { dst := some 69, op := Go.Op.fieldAddr 66 (Go.Operand.tmp 68) 0, type := 0, pos := "l14_machine.go:67", after := #[{ on := 1, ground := Go.Ground.data }], guard := none }) (v := ?_) rfl (by kernel_rfl) (by kernel_rfl) (by kernel_rfl) (by kernel_rfl) (fun _ _ _ h => h) (Or.inl ⟨by rfl, ?_⟩) (by assumption) ?_
  rotate_left
  · intro w hSw
    (try dsimp only at hSw)
    go_simp
    (try with_reducible rfl)
  try simp only [Act.put, List.setIfInBounds_toArray, List.set_cons_zero, List.set_cons_succ]
  refine wpAnyM_take (i := 3) (oi := { dst := some 70, op := Go.Op.load 39 (Go.Operand.tmp 69), type := 39, pos := "l14_machine.go:67", after := #[{ on := 2, ground := Go.Ground.data }], guard := none }) (v := ?_) rfl (by kernel_rfl) (by kernel_rfl) (by kernel_rfl) (by kernel_rfl) (fun _ _ _ h => h) (Or.inl ⟨by rfl, ?_⟩) (by assumption) ?_
  rotate_left
  · intro w hSw
    (try dsimp only at hSw)
    go_simp
    (try with_reducible rfl)
  try simp only [Act.put, List.setIfInBounds_toArray, List.set_cons_zero, List.set_cons_succ]
  refine wpAnyM_take (i := 4) (oi := { dst := some 71, op := Go.Op.fieldAddr 25 (Go.Operand.tmp 3) 1, type := 0, pos := "l14_machine.go:67", after := #[], guard := none }) (v := ?_) rfl (by kernel_rfl) (by kernel_rfl) (by kernel_rfl) (by kernel_rfl) (fun _ _ _ h => h) (Or.inl ⟨by rfl, ?_⟩) (by assumption) ?_
  rotate_left
  · intro w hSw
    (try dsimp only at hSw)
    go_simp
    (try with_reducible rfl)
  try simp only [Act.put, List.setIfInBounds_toArray, List.set_cons_zero, List.set_cons_succ]
  refine wpAnyM_take (i := 5) (oi := { dst := some 72, op := Go.Op.load 3 (Go.Operand.tmp 71), type := 3, pos := "l14_machine.go:67", after := #[{ on := 4, ground := Go.Ground.data }], guard := none }) (v := ?_) rfl (by kernel_rfl) (by kernel_rfl) (by kernel_rfl) (by kernel_rfl) (fun _ _ _ h => h) (Or.inl ⟨by rfl, ?_⟩) (by assumption) ?_
  rotate_left
  · intro w hSw
    (try dsimp only at hSw)
    go_simp
    (try with_reducible rfl)
  try simp only [Act.put, List.setIfInBounds_toArray, List.set_cons_zero, List.set_cons_succ]
  refine wpAnyM_take (i := 6) (oi := { dst := some 73, op := Go.Op.move (Go.Operand.tmp 0), type := 62, pos := "l14_machine.go:67", after := #[], guard := none }) (v := ?_) rfl (by kernel_rfl) (by kernel_rfl) (by kernel_rfl) (by kernel_rfl) (fun _ _ _ h => h) (Or.inl ⟨by rfl, ?_⟩) (by assumption) ?_
  rotate_left
  · intro w hSw
    (try dsimp only at hSw)
    go_simp
    (try with_reducible rfl)
  try simp only [Act.put, List.setIfInBounds_toArray, List.set_cons_zero, List.set_cons_succ]
  refine wpAnyM_take (i := 7) (oi := { dst := some 74, op := Go.Op.nilCheck (Go.Operand.tmp 73), type := 0, pos := "l14_machine.go:67", after := #[{ on := 6, ground := Go.Ground.data }], guard := none }) (v := ?_) rfl (by kernel_rfl) (by kernel_rfl) (by kernel_rfl) (by kernel_rfl) (fun _ _ _ h => h) (Or.inl ⟨by rfl, ?_⟩) (by assumption) ?_
  rotate_left
  · intro w hSw
    (try dsimp only at hSw)
    go_simp
    (try with_reducible rfl)
  try simp only [Act.put, List.setIfInBounds_toArray, List.set_cons_zero, List.set_cons_succ]
  refine wpAnyM_take (i := 8) (oi := { dst := some 75, op := Go.Op.fieldAddr 66 (Go.Operand.tmp 74) 1, type := 0, pos := "l14_machine.go:67", after := #[{ on := 7, ground := Go.Ground.data }], guard := none }) (v := ?_) rfl (by kernel_rfl) (by kernel_rfl) (by kernel_rfl) (by kernel_rfl) (fun _ _ _ h => h) (Or.inl ⟨by rfl, ?_⟩) (by assumption) ?_
  rotate_left
  · intro w hSw
    (try dsimp only at hSw)
    go_simp
    (try with_reducible rfl)
  try simp only [Act.put, List.setIfInBounds_toArray, List.set_cons_zero, List.set_cons_succ]
  refine wpAnyM_take (i := 9) (oi := { dst := some 76, op := Go.Op.load 39 (Go.Operand.tmp 75), type := 39, pos := "l14_machine.go:67", after := #[{ on := 8, ground := Go.Ground.data }], guard := none }) (v := ?_) rfl (by kernel_rfl) (by kernel_rfl) (by kernel_rfl) (by kernel_rfl) (fun _ _ _ h => h) (Or.inl ⟨by rfl, ?_⟩) (by assumption) ?_
  rotate_left
  · intro w hSw
    (try dsimp only at hSw)
    go_simp
    (try with_reducible rfl)
  try simp only [Act.put, List.setIfInBounds_toArray, List.set_cons_zero, List.set_cons_succ]
  refine wpAnyM_take (i := 10) (oi := { dst := some 77, op := Go.Op.fieldAddr 25 (Go.Operand.tmp 3) 4, type := 0, pos := "l14_machine.go:67", after := #[], guard := none }) (v := ?_) rfl (by kernel_rfl) (by kernel_rfl) (by kernel_rfl) (by kernel_rfl) (fun _ _ _ h => h) (Or.inl ⟨by rfl, ?_⟩) (by assumption) ?_
  rotate_left
  · intro w hSw
    (try dsimp only at hSw)
    go_simp
    (try with_reducible rfl)
  try simp only [Act.put, List.setIfInBounds_toArray, List.set_cons_zero, List.set_cons_succ]
  refine wpAnyM_take (i := 11) (oi := { dst := some 78, op := Go.Op.load 3 (Go.Operand.tmp 77), type := 3, pos := "l14_machine.go:67", after := #[{ on := 10, ground := Go.Ground.data }], guard := none }) (v := ?_) rfl (by kernel_rfl) (by kernel_rfl) (by kernel_rfl) (by kernel_rfl) (fun _ _ _ h => h) (Or.inl ⟨by rfl, ?_⟩) (by assumption) ?_
  rotate_left
  · intro w hSw
    (try dsimp only at hSw)
    go_simp
    (try with_reducible rfl)
  try simp only [Act.put, List.setIfInBounds_toArray, List.set_cons_zero, List.set_cons_succ]
  refine wpAnyM_take (i := 12) (oi := { dst := some 79, op := Go.Op.indexAddr 39 (Go.Operand.tmp 76) (Go.Operand.tmp 78), type := 0, pos := "l14_machine.go:67", after := #[{ on := 9, ground := Go.Ground.data }, { on := 11, ground := Go.Ground.data }], guard := none }) (v := ?_) rfl (by kernel_rfl) (by kernel_rfl) (by kernel_rfl) (by kernel_rfl) (fun _ _ _ h => h) (Or.inl ⟨by rfl, ?_⟩) (by assumption) ?_
  rotate_left
  · intro w hSw
    (try dsimp only at hSw)
    go_simp
    (try with_reducible rfl)
  try simp only [Act.put, List.setIfInBounds_toArray, List.set_cons_zero, List.set_cons_succ]
  refine wpAnyM_take (i := 13) (oi := { dst := some 80, op := Go.Op.load 3 (Go.Operand.tmp 79), type := 3, pos := "l14_machine.go:67", after := #[{ on := 12, ground := Go.Ground.data }], guard := none }) (v := ?_) rfl (by kernel_rfl) (by kernel_rfl) (by kernel_rfl) (by kernel_rfl) (fun _ _ _ h => h) (Or.inl ⟨by rfl, ?_⟩) (by assumption) ?_
  rotate_left
  · intro w hSw
    (try dsimp only at hSw)
    go_simp
    (try with_reducible rfl)
  try simp only [Act.put, List.setIfInBounds_toArray, List.set_cons_zero, List.set_cons_succ]
  refine wpAnyM_take (i := 14) (oi := { dst := some 81, op := Go.Op.indexAddr 39 (Go.Operand.tmp 70) (Go.Operand.tmp 72), type := 0, pos := "l14_machine.go:67", after := #[{ on := 3, ground := Go.Ground.data }, { on := 5, ground := Go.Ground.data }, { on := 0, ground := Go.Ground.phase }, { on := 1, ground := Go.Ground.phase }, { on := 2, ground := Go.Ground.phase }, { on := 3, ground := Go.Ground.phase }, { on := 4, ground := Go.Ground.phase }, { on := 5, ground := Go.Ground.phase }, { on := 6, ground := Go.Ground.phase }, { on := 7, ground := Go.Ground.phase }, { on := 8, ground := Go.Ground.phase }, { on := 9, ground := Go.Ground.phase }, { on := 10, ground := Go.Ground.phase }, { on := 11, ground := Go.Ground.phase }, { on := 12, ground := Go.Ground.phase }, { on := 13, ground := Go.Ground.phase }], guard := none }) (v := ?_) rfl (by kernel_rfl) (by kernel_rfl) (by kernel_rfl) (by kernel_rfl) (fun _ _ _ h => h) (Or.inl ⟨by rfl, ?_⟩) (by assumption) ?_
  rotate_left
  · intro w hSw
    (try dsimp only at hSw)
    go_simp
    (try with_reducible rfl)
  try simp only [Act.put, List.setIfInBounds_toArray, List.set_cons_zero, List.set_cons_succ]
  refine cmAnyM_oneK (i := 15) (o := { dst := none, op := Go.Op.store 3 (Go.Operand.tmp 81) (Go.Operand.tmp 80), type := 0, pos := "l14_machine.go:67", after := #[{ on := 14, ground := Go.Ground.data }, { on := 13, ground := Go.Ground.data }, { on := 0, ground := Go.Ground.phase }, { on := 1, ground := Go.Ground.phase }, { on := 2, ground := Go.Ground.phase }, { on := 3, ground := Go.Ground.phase }, { on := 4, ground := Go.Ground.phase }, { on := 5, ground := Go.Ground.phase }, { on := 6, ground := Go.Ground.phase }, { on := 7, ground := Go.Ground.phase }, { on := 8, ground := Go.Ground.phase }, { on := 9, ground := Go.Ground.phase }, { on := 10, ground := Go.Ground.phase }, { on := 11, ground := Go.Ground.phase }, { on := 12, ground := Go.Ground.phase }, { on := 13, ground := Go.Ground.phase }], guard := none }) rfl rfl (by kernel_rfl) (fun K9 hK9 => ?_)
  go_simp
  refine hK9 _ _ ⟨fun h => absurd rfl h, wpAnyM_done (by kernel_rfl) ?_ _⟩
  clear hK9
  simp only [noThrow, Exit.inBlock, Exit.then]
  go_at_K
  go_wp2_with fail
  go_ret
  rw [HZ.out]
  exact ⟨rfl, P, rg, sg, vb, vc, cb, cc, rv, rb, tb, tc, pb, pc, (HH.out.drew.drew).setReg hd z⟩

set_option maxRecDepth 100000 in
set_option maxHeartbeats 4000000 in
theorem ts_put (a n : Nat) (ha : a < 8) (hn : n < 40) (w : World) (h : TIs W0 w T m) (hpc : m.pc ≤ 900) :
    Calls Tryd.prog 39 #[.pointer (some ⟨T, 0, none⟩), .agg #[.int .i64 4, .int .i64 0, .int .i64 (a : Int), .int .i64 0, .int .i64 (n : Int)]] w fun e w' => e = .returned (.int .i64 0) ∧ TIs W0 w' T { m with pc := m.pc + 1, slots := updN m.slots n (m.regs a) } := by
  obtain ⟨P, rg, sg, vb, vc, cb, cc, rv, rb, tb, tc, pb, pc, h⟩ := h
  have HH0 : Hid (TAt W0 w T P m rg sg vb vc cb cc rv rb tb tc pb pc) := h
  have t3 := h.cell.2.2.2
  have ft := h.frozen 3
  have hTl := h.lt
  obtain ⟨pn, HPN⟩ : ∃ p, Hid (m.pc = p) := ⟨_, rfl⟩
  rw [HPN.out] at t3 hpc
  clear h
  go_enter Tryd.func39, Tryd.ntmps39
  go_wp2_with fail
  obtain ⟨w1, hw1⟩ : ∃ W, (w.setCell ⟨T, 3, none⟩ (.int .i64 ((pn : Int) + 1))).alloc (.cells #[.int .i64 4, .int .i64 0, .int .i64 (a : Int), .int .i64 0, .int .i64 (n : Int)] 25) = W := ⟨_, rfl⟩
  have h1 : TAt W0 w1 T P { m with pc := m.pc + 1 } rg sg vb vc cb cc rv rb tb tc pb pc := by
    have h3 := (HH0.out.setPc (m.pc + 1)).later (Bel.alloc _ (.cells #[.int .i64 4, .int .i64 0, .int .i64 (a : Int), .int .i64 0, .int .i64 (n : Int)] 25))
    have e : ((m.pc + 1 : Nat) : Int) = (pn : Int) + 1 := by rw [HPN.out]; rfl
    rw [e, hw1] at h3
    exact h3
  have bx : w1.heap[w.heap.size]? = some (.cells #[.int .i64 4, .int .i64 0, .int .i64 (a : Int), .int .i64 0, .int .i64 (n : Int)] 25 (0, 0)) := by
    rw [← hw1]
    exact heap_last (by simp)
  rw [hw1]
  clear hw1 t3 ft hTl
  generalize w.heap.size = B at bx ⊢
  have x0 : w1.cell? ⟨B, 0, none⟩ = some (.int .i64 4) := by simp [World.cell?, bx]
  have x1 : w1.cell? ⟨B, 1, none⟩ = some (.int .i64 0) := by simp [World.cell?, bx]
  have x2 : w1.cell? ⟨B, 2, none⟩ = some (.int .i64 (a : Int)) := by simp [World.cell?, bx]
  have x3 : w1.cell? ⟨B, 3, none⟩ = some (.int .i64 0) := by simp [World.cell?, bx]
  have x4 : w1.cell? ⟨B, 4, none⟩ = some (.int .i64 (n : Int)) := by simp [World.cell?, bx]
  have hBr : rg ≠ B := (not_row bx (by decide) h1.regs.heapOf).symm
  have hBs : sg ≠ B := (not_row bx (by decide) h1.slots.heapOf).symm
  have hBc : cb ≠ B := (not_row bx (by decide) h1.s.cells.heapOf).symm
  have hrT : rg ≠ T := h1.hTr.symm
  have hsT : sg ≠ T := h1.hTs.symm
  have hcT : cb ≠ T := h1.hTc.symm
  have hrP : rg ≠ P := h1.hPr.symm
  obtain ⟨p0, p1, p2, p3⟩ := h1.cell
  obtain ⟨_, u1, u2, u3, _, _⟩ := h1.s.cell
  have fr : ∀ i, w1.frozen? ⟨rg, i, none⟩ = false := fun i => frozen_of_cells h1.regs.heapOf i
  have fs : ∀ i, w1.frozen? ⟨sg, i, none⟩ = false := fun i => frozen_of_cells h1.slots.heapOf i
  have fc : ∀ i, w1.frozen? ⟨cb, i, none⟩ = false := fun i => frozen_of_cells h1.s.cells.heapOf i
  have fT : w1.frozen? ⟨T, 3, none⟩ = false := h1.frozen 3
  have HH : Hid (TAt W0 w1 T P { m with pc := m.pc + 1 } rg sg vb vc cb cc rv rb tb tc pb pc) := h1
  have HBX : Hid (w1.heap[B]? = some (.cells #[.int .i64 4, .int .i64 0, .int .i64 (a : Int), .int .i64 0, .int .i64 (n : Int)] 25 (0, 0))) := bx
  have ca := h1.regAt (i := a) ha
  obtain ⟨y, HY⟩ : ∃ y, Hid (m.regs a = y) := ⟨_, rfl⟩
  rw [show ({ m with pc := m.pc + 1 } : MacS).regs a = y from HY.out] at ca
  have cd := h1.slotAt (i := n) hn
  have fd := fs n
  have ha2 : (a : Int) < 8 := by omega
  have hn2 : (n : Int) < 40 := by omega
  clear h1 bx
  go_region_held3 (fun w' => w'.cell? ⟨T, 0, none⟩ = some (.slice (some ⟨rg, 0, none⟩) 8 8) ∧ w'.cell? ⟨B, 2, none⟩ = some (.int .i64 (a : Int)) ∧ w'.cell? ⟨rg, a, none⟩ = some (.int .i64 y)) (go_keep) (fail)
  simp only [Exit.then]
  go_at_K
  go_wp2_with fail
  have hHeld : (fun w' => w'.cell? ⟨T, 1, none⟩ = some (.slice (some ⟨sg, 0, none⟩) 40 40) ∧ w'.cell? ⟨B, 4, none⟩ = some (.int .i64 (n : Int))) w1.drew.drew := ⟨p1, x4⟩
  refine wp_noThrow (region_M 8 (fun w' => w'.cell? ⟨T, 1, none⟩ = some (.slice (some ⟨sg, 0, none⟩) 40 40) ∧ w'.cell? ⟨B, 4, none⟩ = some (.int .i64 (n : Int))) (by kernel_rfl) ?_)
  refine wpAnyM_take (i := 0) (oi := { dst := some 84, op := Go.Op.move (Go.Operand.tmp 0), type := 62, pos := "l14_machine.go:69", after := #[], guard := none }) (v := ?_) rfl (by kernel_rfl) (by kernel_rfl) (by kernel_rfl) (by kernel_rfl) (fun _ _ _ h => h) (Or.inl ⟨by rfl, ?_⟩) (by assumption) ?_
  rotate_left
  · intro w hSw
    (try dsimp only at hSw)
    go_simp
    (try with_reducible rfl)
  try simp only [Act.put, List.setIfInBounds_toArray, List.set_cons_zero, List.set_cons_succ]
  refine wpAnyM_take (i := 1) (oi := { dst := some 85, op := Go.Op.nilCheck (Go.Operand.tmp 84), type := 0, pos := "l14_machine.go:69", after := #[{ on := 0, ground := Go.Ground.data }], guard := none }) (v := ?_) rfl (by kernel_rfl) (by kernel_rfl) (by kernel_rfl) (by kernel_rfl) (fun _ _ _ h => h) (Or.inl ⟨by rfl, ?_⟩) (by assumption) ?_
  rotate_left
  · intro w hSw
    (try dsimp only at hSw)
    go_simp
    (try with_reducible rfl)
  try simp only [Act.put, List.setIfInBounds_toArray, List.set_cons_zero, List.set_cons_succ]
  refine wpAnyM_take (i := 2) (oi := { dst := some 86, op := Go.Op.fieldAddr 66 (Go.Operand.tmp 85) 1, type := 0, pos := "l14_machine.go:69", after := #[{ on := 1, ground := Go.Ground.data }], guard := none }) (v := ?_) rfl (by kernel_rfl) (by kernel_rfl) (by kernel_rfl) (by kernel_rfl) (fun _ _ _ h => h) (Or.inl ⟨by rfl, ?_⟩) (by assumption) ?_
  rotate_left
  · intro w hSw
    (try dsimp only at hSw)
    go_simp
    (try with_reducible rfl)
  try simp only [Act.put, List.setIfInBounds_toArray, List.set_cons_zero, List.set_cons_succ]
  refine wpAnyM_take (i := 3) (oi := { dst := some 87, op := Go.Op.load 39 (Go.Operand.tmp 86), type := 39, pos := "l14_machine.go:69", after := #[{ on := 2, ground := Go.Ground.data }], guard := none }) (v := ?_) rfl (by kernel_rfl) (by kernel_rfl) (by kernel_rfl) (by kernel_rfl) (fun _ _ _ h => h) (Or.inl ⟨by rfl, ?_⟩) (by assumption) ?_
  rotate_left
  · intro w hSw
    (try dsimp only at hSw)
    go_simp
    (try with_reducible rfl)
  try simp only [Act.put, List.setIfInBounds_toArray, List.set_cons_zero, List.set_cons_succ]
  refine wpAnyM_take (i := 4) (oi := { dst := some 88, op := Go.Op.fieldAddr 25 (Go.Operand.tmp 3) 4, type := 0, pos := "l14_machine.go:69", after := #[], guard := none }) (v := ?_) rfl (by kernel_rfl) (by kernel_rfl) (by kernel_rfl) (by kernel_rfl) (fun _ _ _ h => h) (Or.inl ⟨by rfl, ?_⟩) (by assumption) ?_
  rotate_left
  · intro w hSw
    (try dsimp only at hSw)
    go_simp
    (try with_reducible rfl)
  try simp only [Act.put, List.setIfInBounds_toArray, List.set_cons_zero, List.set_cons_succ]
  refine wpAnyM_take (i := 5) (oi := { dst := some 89, op := Go.Op.load 3 (Go.Operand.tmp 88), type := 3, pos := "l14_machine.go:69", after := #[{ on := 4, ground := Go.Ground.data }], guard := none }) (v := ?_) rfl (by kernel_rfl) (by kernel_rfl) (by kernel_rfl) (by kernel_rfl) (fun _ _ _ h => h) (Or.inl ⟨by rfl, ?_⟩) (by assumption) ?_
  rotate_left
  · intro w hSw
    (try dsimp only at hSw)
    go_simp
    (try with_reducible rfl)
  try simp only [Act.put, List.setIfInBounds_toArray, List.set_cons_zero, List.set_cons_succ]
  refine wpAnyM_take (i := 6) (oi := { dst := some 90, op := Go.Op.move (Go.Operand.tmp 5), type := 3, pos := "l14_machine.go:69", after := #[], guard := none }) (v := ?_) rfl (by kernel_rfl) (by kernel_rfl) (by kernel_rfl) (by kernel_rfl) (fun _ _ _ h => h) (Or.inl ⟨by rfl, ?_⟩) (by assumption) ?_
  rotate_left
  · intro w hSw
    (try dsimp only at hSw)
    go_simp
    (try with_reducible rfl)
  try simp only [Act.put, List.setIfInBounds_toArray, List.set_cons_zero, List.set_cons_succ]
  refine wpAnyM_take (i := 7) (oi := { dst := some 91, op := Go.Op.indexAddr 39 (Go.Operand.tmp 87) (Go.Operand.tmp 89), type := 0, pos := "l14_machine.go:69", after := #[{ on := 3, ground := Go.Ground.data }, { on := 5, ground := Go.Ground.data }, { on := 0, ground := Go.Ground.phase }, { on := 1, ground := Go.Ground.phase }, { on := 2, ground := Go.Ground.phase }, { on := 3, ground := Go.Ground.phase }, { on := 4, ground := Go.Ground.phase }, { on := 5, ground := Go.Ground.phase }, { on := 6, ground := Go.Ground.phase }], guard := none }) (v := ?_) rfl (by kernel_rfl) (by kernel_rfl) (by kernel_rfl) (by kernel_rfl) (fun _ _ _ h => h) (Or.inl ⟨by rfl, ?_⟩) (by assumption) ?_
  rotate_left
  · intro w hSw
    (try dsimp only at hSw)
    go_simp
    (try with_reducible rfl)
  try simp only [Act.put, List.setIfInBounds_toArray, List.set_cons_zero, List.set_cons_succ]
  refine cmAnyM_oneK (i := 8) (o := { dst := none, op := Go.Op.store 3 (Go.Operand.tmp 91) (Go.Operand.tmp 90), type := 0, pos := "l14_machine.go:69", after := #[{ on := 7, ground := Go.Ground.data }, { on := 6, ground := Go.Ground.data }, { on := 0, ground := Go.Ground.phase }, { on := 1, ground := Go.Ground.phase }, { on := 2, ground := Go.Ground.phase }, { on := 3, ground := Go.Ground.phase }, { on := 4, ground := Go.Ground.phase }, { on := 5, ground := Go.Ground.phase }, { on := 6, ground := Go.Ground.phase }], guard := none }) rfl rfl (by kernel_rfl) (fun K9 hK9 => ?_)
  go_simp
  refine hK9 _ _ ⟨fun h => absurd rfl h, wpAnyM_done (by kernel_rfl) ?_ _⟩
  clear hK9
  simp only [noThrow, Exit.inBlock, Exit.then]
  go_at_K
  go_wp2_with fail
  go_ret
  rw [HY.out]
  exact ⟨rfl, P, rg, sg, vb, vc, cb, cc, rv, rb, tb, tc, pb, pc, (HH.out.drew.drew).setSlot hn y⟩

set_option maxRecDepth 100000 in
set_option maxHeartbeats 4000000 in
theorem ts_load (d a c : Nat) (hd : d < 8) (ha : a < 8) (hc : c < 8) (hv : m.regs a = (c : Int)) (w : World) (h : TIs W0 w T m) (hpc : m.pc ≤ 900) :
    Calls Tryd.prog 39 #[.pointer (some ⟨T, 0, none⟩), .agg #[.int .i64 5, .int .i64 (d : Int), .int .i64 (a : Int), .int .i64 0, .int .i64 0]] w fun e w' => e = .returned (.int .i64 0) ∧ TIs W0 w' T { m with pc := m.pc + 1, regs := updN m.regs d (m.cells c) } := by
  obtain ⟨P, rg, sg, vb, vc, cb, cc, rv, rb, tb, tc, pb, pc, h⟩ := h
  have HH0 : Hid (TAt W0 w T P m rg sg vb vc cb cc rv rb tb tc pb pc) := h
  have t3 := h.cell.2.2.2
  have ft := h.frozen 3
  have hTl := h.lt
  obtain ⟨pn, HPN⟩ : ∃ p, Hid (m.pc = p) := ⟨_, rfl⟩
  rw [HPN.out] at t3 hpc
  clear h
  go_enter Tryd.func39, Tryd.ntmps39
  go_wp2_with fail
  obtain ⟨w1, hw1⟩ : ∃ W, (w.setCell ⟨T, 3, none⟩ (.int .i64 ((pn : Int) + 1))).alloc (.cells #[.int .i64 5, .int .i64 (d : Int), .int .i64 (a : Int), .int .i64 0, .int .i64 0] 25) = W := ⟨_, rfl⟩
  have h1 : TAt W0 w1 T P { m with pc := m.pc + 1 } rg sg vb vc cb cc rv rb tb tc pb pc := by
    have h3 := (HH0.out.setPc (m.pc + 1)).later (Bel.alloc _ (.cells #[.int .i64 5, .int .i64 (d : Int), .int .i64 (a : Int), .int .i64 0, .int .i64 0] 25))
    have e : ((m.pc + 1 : Nat) : Int) = (pn : Int) + 1 := by rw [HPN.out]; rfl
    rw [e, hw1] at h3
    exact h3
  have bx : w1.heap[w.heap.size]? = some (.cells #[.int .i64 5, .int .i64 (d : Int), .int .i64 (a : Int), .int .i64 0, .int .i64 0] 25 (0, 0)) := by
    rw [← hw1]
    exact heap_last (by simp)
  rw [hw1]
  clear hw1 t3 ft hTl
  generalize w.heap.size = B at bx ⊢
  have x0 : w1.cell? ⟨B, 0, none⟩ = some (.int .i64 5) := by simp [World.cell?, bx]
  have x1 : w1.cell? ⟨B, 1, none⟩ = some (.int .i64 (d : Int)) := by simp [World.cell?, bx]
  have x2 : w1.cell? ⟨B, 2, none⟩ = some (.int .i64 (a : Int)) := by simp [World.cell?, bx]
  have x3 : w1.cell? ⟨B, 3, none⟩ = some (.int .i64 0) := by simp [World.cell?, bx]
  have x4 : w1.cell? ⟨B, 4, none⟩ = some (.int .i64 0) := by simp [World.cell?, bx]
  have hBr : rg ≠ B := (not_row bx (by decide) h1.regs.heapOf).symm
  have hBs : sg ≠ B := (not_row bx (by decide) h1.slots.heapOf).symm
  have hBc : cb ≠ B := (not_row bx (by decide) h1.s.cells.heapOf).symm
  have hrT : rg ≠ T := h1.hTr.symm
  have hsT : sg ≠ T := h1.hTs.symm
  have hcT : cb ≠ T := h1.hTc.symm
  have hrP : rg ≠ P := h1.hPr.symm
  obtain ⟨p0, p1, p2, p3⟩ := h1.cell
  obtain ⟨_, u1, u2, u3, _, _⟩ := h1.s.cell
  have fr : ∀ i, w1.frozen? ⟨rg, i, none⟩ = false := fun i => frozen_of_cells h1.regs.heapOf i
  have fs : ∀ i, w1.frozen? ⟨sg, i, none⟩ = false := fun i => frozen_of_cells h1.slots.heapOf i
  have fc : ∀ i, w1.frozen? ⟨cb, i, none⟩ = false := fun i => frozen_of_cells h1.s.cells.heapOf i
  have fT : w1.frozen? ⟨T, 3, none⟩ = false := h1.frozen 3
  have HH : Hid (TAt W0 w1 T P { m with pc := m.pc + 1 } rg sg vb vc cb cc rv rb tb tc pb pc) := h1
  have HBX : Hid (w1.heap[B]? = some (.cells #[.int .i64 5, .int .i64 (d : Int), .int .i64 (a : Int), .int .i64 0, .int .i64 0] 25 (0, 0))) := bx
  have ca := h1.regAt (i := a) ha
  rw [show ({ m with pc := m.pc + 1 } : MacS).regs a = (c : Int) from hv] at ca
  have cd := h1.regAt (i := d) hd
  have fd := fr d
  have cy := h1.s.cellAt (i := c) hc
  obtain ⟨z, HZ⟩ : ∃ z, Hid (m.cells c = z) := ⟨_, rfl⟩
  rw [show (msR { m with pc := m.pc + 1 }).cells c = z from HZ.out] at cy
  have hc2 : (c : Int) < 8 := by omega
  have hd2 : (d : Int) < 8 := by omega
  have ha2 : (a : Int) < 8 := by omega
  clear h1 bx
  go_region_held3 (fun w' => w'.cell? ⟨T, 0, none⟩ = some (.slice (some ⟨rg, 0, none⟩) 8 8) ∧ w'.cell? ⟨B, 2, none⟩ = some (.int .i64 (a : Int)) ∧ w'.cell? ⟨rg, a, none⟩ = some (.int .i64 (c : Int))) (go_keep) (fail)
  simp only [Exit.then]
  go_at_K
  go_wp2_with fail
  refine (l1In_any (c : Int) 0 7 _).mono ?_
  rintro e w5 ⟨rfl, hw5⟩
  replace hw5 := hw5.symm
  subst hw5
  rw [show (decide ((0 : Int) ≤ (c : Int)) && decide ((c : Int) ≤ 7)) = true by simp; omega]
  go_wp2_with fail
  have hHeld : (fun w' => w'.cell? ⟨T, 0, none⟩ = some (.slice (some ⟨rg, 0, none⟩) 8 8) ∧ w'.cell? ⟨B, 1, none⟩ = some (.int .i64 (d : Int)) ∧ w'.cell? ⟨T, 2, none⟩ = some (.pointer (some ⟨P, 0, none⟩)) ∧ w'.cell? ⟨P, 1, none⟩ = some (.slice (some ⟨cb, 0, none⟩) 8 cc) ∧ w'.cell? ⟨cb, c, none⟩ = some (.int .i64 z)) w1.drew.drew := ⟨p0, x1, p2, u1, cy⟩
  refine wp_noThrow (region_M 17 (fun w' => w'.cell? ⟨T, 0, none⟩ = some (.slice (some ⟨rg, 0, none⟩) 8 8) ∧ w'.cell? ⟨B, 1, none⟩ = some (.int .i64 (d : Int)) ∧ w'.cell? ⟨T, 2, none⟩ = some (.pointer (some ⟨P, 0, none⟩)) ∧ w'.cell? ⟨P, 1, none⟩ = some (.slice (some ⟨cb, 0, none⟩) 8 cc) ∧ w'.cell? ⟨cb, c, none⟩ = some (.int .i64 z)) (by kernel_rfl) ?_)
  refine wpAnyM_take (i := 0) (oi := { dst := some 97, op := Go.Op.move (Go.Operand.tmp 0), type := 62, pos := "l14_machine.go:74", after := #[], guard := none }) (v := ?_) rfl (by kernel_rfl) (by kernel_rfl) (by kernel_rfl) (by kernel_rfl) (fun _ _ _ h => h) (Or.inl ⟨by rfl, ?_⟩) (by assumption) ?_
  rotate_left
  · intro w hSw
    (try dsimp only at hSw)
    go_simp
    (try with_reducible rfl)
  try simp only [Act.put, List.setIfInBounds_toArray, List.set_cons_zero, List.set_cons_succ]
  refine wpAnyM_take (i := 1) (oi := { dst := some 98, op := Go.Op.nilCheck (Go.Operand.tmp 97), type := 0, pos := "l14_machine.go:74", after := #[{ on := 0, ground := Go.Ground.data }], guard := none }) (v := ?_) rfl (by kernel_rfl) (by kernel_rfl) (by kernel_rfl) (by kernel_rfl) (fun _ _ _ h => h) (Or.inl ⟨by rfl, ?_⟩) (by assumption) ?_
  rotate_left
  · intro w hSw
    (try dsimp only at hSw)
    go_simp
    (try with_reducible rfl)
  try simp only [Act.put, List.setIfInBounds_toArray, List.set_cons_zero, List.set_cons_succ]
  refine wpAnyM_take (i := 2) (oi := { dst := some 99, op := Go.Op.fieldAddr 66 (Go.Operand.tmp 98) 0, type := 0, pos := "l14_machine.go:74", after := #[{ on := 1, ground := Go.Ground.data }], guard := none }) (v := ?_) rfl (by kernel_rfl) (by kernel_rfl) (by kernel_rfl) (by kernel_rfl) (fun _ _ _ h => h) (Or.inl ⟨by rfl, ?_⟩) (by assumption) ?_
  rotate_left
  · intro w hSw
    (try dsimp only at hSw)
    go_simp
    (try with_reducible rfl)
  try simp only [Act.put, List.setIfInBounds_toArray, List.set_cons_zero, List.set_cons_succ]
  refine wpAnyM_take (i := 3) (oi := { dst := some 100, op := Go.Op.load 39 (Go.Operand.tmp 99), type := 39, pos := "l14_machine.go:74", after := #[{ on := 2, ground := Go.Ground.data }], guard := none }) (v := ?_) rfl (by kernel_rfl) (by kernel_rfl) (by kernel_rfl) (by kernel_rfl) (fun _ _ _ h => h) (Or.inl ⟨by rfl, ?_⟩) (by assumption) ?_
  rotate_left
  · intro w hSw
    (try dsimp only at hSw)
    go_simp
    (try with_reducible rfl)
  try simp only [Act.put, List.setIfInBounds_toArray, List.set_cons_zero, List.set_cons_succ]
  refine wpAnyM_take (i := 4) (oi := { dst := some 101, op := Go.Op.fieldAddr 25 (Go.Operand.tmp 3) 1, type := 0, pos := "l14_machine.go:74", after := #[], guard := none }) (v := ?_) rfl (by kernel_rfl) (by kernel_rfl) (by kernel_rfl) (by kernel_rfl) (fun _ _ _ h => h) (Or.inl ⟨by rfl, ?_⟩) (by assumption) ?_
  rotate_left
  · intro w hSw
    (try dsimp only at hSw)
    go_simp
    (try with_reducible rfl)
  try simp only [Act.put, List.setIfInBounds_toArray, List.set_cons_zero, List.set_cons_succ]
  refine wpAnyM_take (i := 5) (oi := { dst := some 102, op := Go.Op.load 3 (Go.Operand.tmp 101), type := 3, pos := "l14_machine.go:74", after := #[{ on := 4, ground := Go.Ground.data }], guard := none }) (v := ?_) rfl (by kernel_rfl) (by kernel_rfl) (by kernel_rfl) (by kernel_rfl) (fun _ _ _ h => h) (Or.inl ⟨by rfl, ?_⟩) (by assumption) ?_
  rotate_left
  · intro w hSw
    (try dsimp only at hSw)
    go_simp
    (try with_reducible rfl)
  try simp only [Act.put, List.setIfInBounds_toArray, List.set_cons_zero, List.set_cons_succ]
  refine wpAnyM_take (i := 6) (oi := { dst := some 103, op := Go.Op.move (Go.Operand.tmp 0), type := 62, pos := "l14_machine.go:74", after := #[], guard := none }) (v := ?_) rfl (by kernel_rfl) (by kernel_rfl) (by kernel_rfl) (by kernel_rfl) (fun _ _ _ h => h) (Or.inl ⟨by rfl, ?_⟩) (by assumption) ?_
  rotate_left
  · intro w hSw
    (try dsimp only at hSw)
    go_simp
    (try with_reducible rfl)
  try simp only [Act.put, List.setIfInBounds_toArray, List.set_cons_zero, List.set_cons_succ]
  refine wpAnyM_take (i := 7) (oi := { dst := some 104, op := Go.Op.nilCheck (Go.Operand.tmp 103), type := 0, pos := "l14_machine.go:74", after := #[{ on := 6, ground := Go.Ground.data }], guard := none }) (v := ?_) rfl (by kernel_rfl) (by kernel_rfl) (by kernel_rfl) (by kernel_rfl) (fun _ _ _ h => h) (Or.inl ⟨by rfl, ?_⟩) (by assumption) ?_
  rotate_left
  · intro w hSw
    (try dsimp only at hSw)
    go_simp
    (try with_reducible rfl)
  try simp only [Act.put, List.setIfInBounds_toArray, List.set_cons_zero, List.set_cons_succ]
  refine wpAnyM_take (i := 8) (oi := { dst := some 105, op := Go.Op.fieldAddr 66 (Go.Operand.tmp 104) 2, type := 0, pos := "l14_machine.go:74", after := #[{ on := 7, ground := Go.Ground.data }], guard := none }) (v := ?_) rfl (by kernel_rfl) (by kernel_rfl) (by kernel_rfl) (by kernel_rfl) (fun _ _ _ h => h) (Or.inl ⟨by rfl, ?_⟩) (by assumption) ?_
  rotate_left
  · intro w hSw
    (try dsimp only at hSw)
    go_simp
    (try with_reducible rfl)
  try simp only [Act.put, List.setIfInBounds_toArray, List.set_cons_zero, List.set_cons_succ]
  refine wpAnyM_take (i := 9) (oi := { dst := some 106, op := Go.Op.load 63 (Go.Operand.tmp 105), type := 63, pos := "l14_machine.go:74", after := #[{ on := 8, ground := Go.Ground.data }], guard := none }) (v := ?_) rfl (by kernel_rfl) (by kernel_rfl) (by kernel_rfl) (by kernel_rfl) (fun _ _ _ h => h) (Or.inl ⟨by rfl, ?_⟩) (by assumption) ?_
  rotate_left
  · intro w hSw
    (try dsimp only at hSw)
    go_simp
    (try with_reducible rfl)
  try simp only [Act.put, List.setIfInBounds_toArray, List.set_cons_zero, List.set_cons_succ]
  refine wpAnyM_take (i := 10) (oi := { dst := some 107, op := Go.Op.nilCheck (Go.Operand.tmp 106), type := 0, pos := "l14_machine.go:74", after := #[{ on := 9, ground := Go.Ground.data }], guard := none }) (v := ?_) rfl (by kernel_rfl) (by kernel_rfl) (by kernel_rfl) (by kernel_rfl) (fun _ _ _ h => h) (Or.inl ⟨by rfl, ?_⟩) (by assumption) ?_
  rotate_left
  · intro w hSw
    (try dsimp only at hSw)
    go_simp
    (try with_reducible rfl)
  try simp only [Act.put, List.setIfInBounds_toArray, List.set_cons_zero, List.set_cons_succ]
  refine wpAnyM_take (i := 11) (oi := { dst := some 108, op := Go.Op.fieldAddr 69 (Go.Operand.tmp 107) 1, type := 0, pos := "l14_machine.go:74", after := #[{ on := 10, ground := Go.Ground.data }], guard := none }) (v := ?_) rfl (by kernel_rfl) (by kernel_rfl) (by kernel_rfl) (by kernel_rfl) (fun _ _ _ h => h) (Or.inl ⟨by rfl, ?_⟩) (by assumption) ?_
  rotate_left
  · intro w hSw
    (try dsimp only at hSw)
    go_simp
    (try with_reducible rfl)
  try simp only [Act.put, List.setIfInBounds_toArray, List.set_cons_zero, List.set_cons_succ]
  refine wpAnyM_take (i := 12) (oi := { dst := some 109, op := Go.Op.load 39 (Go.Operand.tmp 108), type := 39, pos := "l14_machine.go:74", after := #[{ on := 11, ground := Go.Ground.data }], guard := none }) (v := ?_) rfl (by kernel_rfl) (by kernel_rfl) (by kernel_rfl) (by kernel_rfl) (fun _ _ _ h => h) (Or.inl ⟨by rfl, ?_⟩) (by assumption) ?_
  rotate_left
  · intro w hSw
    (try dsimp only at hSw)
    go_simp
    (try with_reducible rfl)
  try simp only [Act.put, List.setIfInBounds_toArray, List.set_cons_zero, List.set_cons_succ]
  refine wpAnyM_take (i := 13) (oi := { dst := some 110, op := Go.Op.move (Go.Operand.tmp 5), type := 3, pos := "l14_machine.go:74", after := #[], guard := none }) (v := ?_) rfl (by kernel_rfl) (by kernel_rfl) (by kernel_rfl) (by kernel_rfl) (fun _ _ _ h => h) (Or.inl ⟨by rfl, ?_⟩) (by assumption) ?_
  rotate_left
  · intro w hSw
    (try dsimp only at hSw)
    go_simp
    (try with_reducible rfl)
  try simp only [Act.put, List.setIfInBounds_toArray, List.set_cons_zero, List.set_cons_succ]
  refine wpAnyM_take (i := 14) (oi := { dst := some 111, op := Go.Op.indexAddr 39 (Go.Operand.tmp 109) (Go.Operand.tmp 110), type := 0, pos := "l14_machine.go:74", after := #[{ on := 12, ground := Go.Ground.data }, { on := 13, ground := Go.Ground.data }], guard := none }) (v := ?_) rfl (by kernel_rfl) (by kernel_rfl) (by kernel_rfl) (by kernel_rfl) (fun _ _ _ h => h) (Or.inl ⟨by rfl, ?_⟩) (by assumption) ?_
  rotate_left
  · intro w hSw
    (try dsimp only at hSw)
    go_simp
    (try with_reducible rfl)
  try simp only [Act.put, List.setIfInBounds_toArray, List.set_cons_zero, List.set_cons_succ]
  refine wpAnyM_take (i := 15) (oi := { dst := some 112, op := Go.Op.load 3 (Go.Operand.tmp 111), type := 3, pos := "l14_machine.go:74", after := #[{ on := 14, ground := Go.Ground.data }], guard := none }) (v := ?_) rfl (by kernel_rfl) (by kernel_rfl) (by kernel_rfl) (by kernel_rfl) (fun _ _ _ h => h) (Or.inl ⟨by rfl, ?_⟩) (by assumption) ?_
  rotate_left
  · intro w hSw
    (try dsimp only at hSw)
    go_simp
    (try with_reducible rfl)
  try simp only [Act.put, List.setIfInBounds_toArray, List.set_cons_zero, List.set_cons_succ]
  refine wpAnyM_take (i := 16) (oi := { dst := some 113, op := Go.Op.indexAddr 39 (Go.Operand.tmp 100) (Go.Operand.tmp 102), type := 0, pos := "l14_machine.go:74", after := #[{ on := 3, ground := Go.Ground.data }, { on := 5, ground := Go.Ground.data }, { on := 0, ground := Go.Ground.phase }, { on := 1, ground := Go.Ground.phase }, { on := 2, ground := Go.Ground.phase }, { on := 3, ground := Go.Ground.phase }, { on := 4, ground := Go.Ground.phase }, { on := 5, ground := Go.Ground.phase }, { on := 6, ground := Go.Ground.phase }, { on := 7, ground := Go.Ground.phase }, { on := 8, ground := Go.Ground.phase }, { on := 9, ground := Go.Ground.phase }, { on := 10, ground := Go.Ground.phase }, { on := 11, ground := Go.Ground.phase }, { on := 12, ground := Go.Ground.phase }, { on := 13, ground := Go.Ground.phase }, { on := 14, ground := Go.Ground.phase }, { on := 15, ground := Go.Ground.phase }], guard := none }) (v := ?_) rfl (by kernel_rfl) (by kernel_rfl) (by kernel_rfl) (by kernel_rfl) (fun _ _ _ h => h) (Or.inl ⟨by rfl, ?_⟩) (by assumption) ?_
  rotate_left
  · intro w hSw
    (try dsimp only at hSw)
    go_simp
    (try with_reducible rfl)
  try simp only [Act.put, List.setIfInBounds_toArray, List.set_cons_zero, List.set_cons_succ]
  refine cmAnyM_oneK (i := 17) (o := { dst := none, op := Go.Op.store 3 (Go.Operand.tmp 113) (Go.Operand.tmp 112), type := 0, pos := "l14_machine.go:74", after := #[{ on := 16, ground := Go.Ground.data }, { on := 15, ground := Go.Ground.data }, { on := 0, ground := Go.Ground.phase }, { on := 1, ground := Go.Ground.phase }, { on := 2, ground := Go.Ground.phase }, { on := 3, ground := Go.Ground.phase }, { on := 4, ground := Go.Ground.phase }, { on := 5, ground := Go.Ground.phase }, { on := 6, ground := Go.Ground.phase }, { on := 7, ground := Go.Ground.phase }, { on := 8, ground := Go.Ground.phase }, { on := 9, ground := Go.Ground.phase }, { on := 10, ground := Go.Ground.phase }, { on := 11, ground := Go.Ground.phase }, { on := 12, ground := Go.Ground.phase }, { on := 13, ground := Go.Ground.phase }, { on := 14, ground := Go.Ground.phase }, { on := 15, ground := Go.Ground.phase }], guard := none }) rfl rfl (by kernel_rfl) (fun K9 hK9 => ?_)
  go_simp
  refine hK9 _ _ ⟨fun h => absurd rfl h, wpAnyM_done (by kernel_rfl) ?_ _⟩
  clear hK9
  simp only [noThrow, Exit.inBlock, Exit.then]
  go_at_K
  go_wp2_with fail
  go_ret
  rw [HZ.out]
  exact ⟨rfl, P, rg, sg, vb, vc, cb, cc, rv, rb, tb, tc, pb, pc, (HH.out.drew.drew).setReg hd z⟩

set_option maxRecDepth 100000 in
set_option maxHeartbeats 4000000 in
theorem ts_store (a b c : Nat) (ha : a < 8) (hb : b < 8) (hc : c < 8) (hv : m.regs a = (c : Int)) (w : World) (h : TIs W0 w T m) (hpc : m.pc ≤ 900) :
    Calls Tryd.prog 39 #[.pointer (some ⟨T, 0, none⟩), .agg #[.int .i64 6, .int .i64 0, .int .i64 (a : Int), .int .i64 (b : Int), .int .i64 0]] w fun e w' => e = .returned (.int .i64 0) ∧ TIs W0 w' T { m with pc := m.pc + 1, cells := updN m.cells c (m.regs b) } := by
  obtain ⟨P, rg, sg, vb, vc, cb, cc, rv, rb, tb, tc, pb, pc, h⟩ := h
  have HH0 : Hid (TAt W0 w T P m rg sg vb vc cb cc rv rb tb tc pb pc) := h
  have t3 := h.cell.2.2.2
  have ft := h.frozen 3
  have hTl := h.lt
  obtain ⟨pn, HPN⟩ : ∃ p, Hid (m.pc = p) := ⟨_, rfl⟩
  rw [HPN.out] at t3 hpc
  clear h
  go_enter Tryd.func39, Tryd.ntmps39
  go_wp2_with fail
  obtain ⟨w1, hw1⟩ : ∃ W, (w.setCell ⟨T, 3, none⟩ (.int .i64 ((pn : Int) + 1))).alloc (.cells #[.int .i64 6, .int .i64 0, .int .i64 (a : Int), .int .i64 (b : Int), .int .i64 0] 25) = W := ⟨_, rfl⟩
  have h1 : TAt W0 w1 T P { m with pc := m.pc + 1 } rg sg vb vc cb cc rv rb tb tc pb pc := by
    have h3 := (HH0.out.setPc (m.pc + 1)).later (Bel.alloc _ (.cells #[.int .i64 6, .int .i64 0, .int .i64 (a : Int), .int .i64 (b : Int), .int .i64 0] 25))
    have e : ((m.pc + 1 : Nat) : Int) = (pn : Int) + 1 := by rw [HPN.out]; rfl
    rw [e, hw1] at h3
    exact h3
  have bx : w1.heap[w.heap.size]? = some (.cells #[.int .i64 6, .int .i64 0, .int .i64 (a : Int), .int .i64 (b : Int), .int .i64 0] 25 (0, 0)) := by
    rw [← hw1]
    exact heap_last (by simp)
  rw [hw1]
  clear hw1 t3 ft hTl
  generalize w.heap.size = B at bx ⊢
  have x0 : w1.cell? ⟨B, 0, none⟩ = some (.int .i64 6) := by simp [World.cell?, bx]
  have x1 : w1.cell? ⟨B, 1, none⟩ = some (.int .i64 0) := by simp [World.cell?, bx]
  have x2 : w1.cell? ⟨B, 2, none⟩ = some (.int .i64 (a : Int)) := by simp [World.cell?, bx]
  have x3 : w1.cell? ⟨B, 3, none⟩ = some (.int .i64 (b : Int)) := by simp [World.cell?, bx]
  have x4 : w1.cell? ⟨B, 4, none⟩ = some (.int .i64 0) := by simp [World.cell?, bx]
  have hBr : rg ≠ B := (not_row bx (by decide) h1.regs.heapOf).symm
  have hBs : sg ≠ B := (not_row bx (by decide) h1.slots.heapOf).symm
  have hBc : cb ≠ B := (not_row bx (by decide) h1.s.cells.heapOf).symm
  have hrT : rg ≠ T := h1.hTr.symm
  have hsT : sg ≠ T := h1.hTs.symm
  have hcT : cb ≠ T := h1.hTc.symm
  have hrP : rg ≠ P := h1.hPr.symm
  obtain ⟨p0, p1, p2, p3⟩ := h1.cell
  obtain ⟨_, u1, u2, u3, _, _⟩ := h1.s.cell
  have fr : ∀ i, w1.frozen? ⟨rg, i, none⟩ = false := fun i => frozen_of_cells h1.regs.heapOf i
  have fs : ∀ i, w1.frozen? ⟨sg, i, none⟩ = false := fun i => frozen_of_cells h1.slots.heapOf i
  have fc : ∀ i, w1.frozen? ⟨cb, i, none⟩ = false := fun i => frozen_of_cells h1.s.cells.heapOf i
  have fT : w1.frozen? ⟨T, 3, none⟩ = false := h1.frozen 3
  have HH : Hid (TAt W0 w1 T P { m with pc := m.pc + 1 } rg sg vb vc cb cc rv rb tb tc pb pc) := h1
  have HBX : Hid (w1.heap[B]? = some (.cells #[.int .i64 6, .int .i64 0, .int .i64 (a : Int), .int .i64 (b : Int), .int .i64 0] 25 (0, 0))) := bx
  have ca := h1.regAt (i := a) ha
  rw [show ({ m with pc := m.pc + 1 } : MacS).regs a = (c : Int) from hv] at ca
  have cd := h1.s.cellAt (i := c) hc
  have fd := fc c
  have cz := h1.regAt (i := b) hb
  obtain ⟨z, HZ⟩ : ∃ z, Hid (m.regs b = z) := ⟨_, rfl⟩
  rw [show ({ m with pc := m.pc + 1 } : MacS).regs b = z from HZ.out] at cz
  have hc2 : (c : Int) < 8 := by omega
  have ha2 : (a : Int) < 8 := by omega
  have hb2 : (b : Int) < 8 := by omega
  clear h1 bx
  go_region_held3 (fun w' => w'.cell? ⟨T, 0, none⟩ = some (.slice (some ⟨rg, 0, none⟩) 8 8) ∧ w'.cell? ⟨B, 2, none⟩ = some (.int .i64 (a : Int)) ∧ w'.cell? ⟨rg, a, none⟩ = some (.int .i64 (c : Int))) (go_keep) (fail)
  simp only [Exit.then]
  go_at_K
  go_wp2_with fail
  refine (l1In_any (c : Int) 0 7 _).mono ?_
  rintro e w5 ⟨rfl, hw5⟩
  replace hw5 := hw5.symm
  subst hw5
  rw [show (decide ((0 : Int) ≤ (c : Int)) && decide ((c : Int) ≤ 7)) = true by simp; omega]
  go_wp2_with fail
  have hHeld : (fun w' => w'.cell? ⟨T, 0, none⟩ = some (.slice (some ⟨rg, 0, none⟩) 8 8) ∧ w'.cell? ⟨B, 3, none⟩ = some (.int .i64 (b : Int)) ∧ w'.cell? ⟨T, 2, none⟩ = some (.pointer (some ⟨P, 0, none⟩)) ∧ w'.cell? ⟨P, 1, none⟩ = some (.slice (some ⟨cb, 0, none⟩) 8 cc) ∧ w'.cell? ⟨rg, b, none⟩ = some (.int .i64 z)) w1.drew.drew := ⟨p0, x3, p2, u1, cz⟩
  refine wp_noThrow (region_M 17 (fun w' => w'.cell? ⟨T, 0, none⟩ = some (.slice (some ⟨rg, 0, none⟩) 8 8) ∧ w'.cell? ⟨B, 3, none⟩ = some (.int .i64 (b : Int)) ∧ w'.cell? ⟨T, 2, none⟩ = some (.pointer (some ⟨P, 0, none⟩)) ∧ w'.cell? ⟨P, 1, none⟩ = some (.slice (some ⟨cb, 0, none⟩) 8 cc) ∧ w'.cell? ⟨rg, b, none⟩ = some (.int .i64 z)) (by kernel_rfl) ?_)
  refine wpAnyM_take (i := 0) (oi := { dst := some 119, op := Go.Op.move (Go.Operand.tmp 0), type := 62, pos := "l14_machine.go:79", after := #[], guard := none }) (v := ?_) rfl (by kernel_rfl) (by kernel_rfl) (by kernel_rfl) (by kernel_rfl) (fun _ _ _ h => h) (Or.inl ⟨by rfl, ?_⟩) (by assumption) ?_
  rotate_left
  · intro w hSw
    (try dsimp only at hSw)
    go_simp
    (try with_reducible rfl)
  try simp only [Act.put, List.setIfInBounds_toArray, List.set_cons_zero, List.set_cons_succ]
  refine wpAnyM_take (i := 1) (oi := { dst := some 120, op := Go.Op.nilCheck (Go.Operand.tmp 119), type := 0, pos := "l14_machine.go:79", after := #[{ on := 0, ground := Go.Ground.data }], guard := none }) (v := ?_) rfl (by kernel_rfl) (by kernel_rfl) (by kernel_rfl) (by kernel_rfl) (fun _ _ _ h => h) (Or.inl ⟨by rfl, ?_⟩) (by assumption) ?_
  rotate_left
  · intro w hSw
    (try dsimp only at hSw)
    go_simp
    (try with_reducible rfl)
  try simp only [Act.put, List.setIfInBounds_toArray, List.set_cons_zero, List.set_cons_succ]
  refine wpAnyM_take (i := 2) (oi := { dst := some 121, op := Go.Op.fieldAddr 66 (Go.Operand.tmp 120) 2, type := 0, pos := "l14_machine.go:79", after := #[{ on := 1, ground := Go.Ground.data }], guard := none }) (v := ?_) rfl (by kernel_rfl) (by kernel_rfl) (by kernel_rfl) (by kernel_rfl) (fun _ _ _ h => h) (Or.inl ⟨by rfl, ?_⟩) (by assumption) ?_
  rotate_left
  · intro w hSw
    (try dsimp only at hSw)
    go_simp
    (try with_reducible rfl)
  try simp only [Act.put, List.setIfInBounds_toArray, List.set_cons_zero, List.set_cons_succ]
  refine wpAnyM_take (i := 3) (oi := { dst := some 122, op := Go.Op.load 63 (Go.Operand.tmp 121), type := 63, pos := "l14_machine.go:79", after := #[{ on := 2, ground := Go.Ground.data }], guard := none }) (v := ?_) rfl (by kernel_rfl) (by kernel_rfl) (by kernel_rfl) (by kernel_rfl) (fun _ _ _ h => h) (Or.inl ⟨by rfl, ?_⟩) (by assumption) ?_
  rotate_left
  · intro w hSw
    (try dsimp only at hSw)
    go_simp
    (try with_reducible rfl)
  try simp only [Act.put, List.setIfInBounds_toArray, List.set_cons_zero, List.set_cons_succ]
  refine wpAnyM_take (i := 4) (oi := { dst := some 123, op := Go.Op.nilCheck (Go.Operand.tmp 122), type := 0, pos := "l14_machine.go:79", after := #[{ on := 3, ground := Go.Ground.data }], guard := none }) (v := ?_) rfl (by kernel_rfl) (by kernel_rfl) (by kernel_rfl) (by kernel_rfl) (fun _ _ _ h => h) (Or.inl ⟨by rfl, ?_⟩) (by assumption) ?_
  rotate_left
  · intro w hSw
    (try dsimp only at hSw)
    go_simp
    (try with_reducible rfl)
  try simp only [Act.put, List.setIfInBounds_toArray, List.set_cons_zero, List.set_cons_succ]
  refine wpAnyM_take (i := 5) (oi := { dst := some 124, op := Go.Op.fieldAddr 69 (Go.Operand.tmp 123) 1, type := 0, pos := "l14_machine.go:79", after := #[{ on := 4, ground := Go.Ground.data }], guard := none }) (v := ?_) rfl (by kernel_rfl) (by kernel_rfl) (by kernel_rfl) (by kernel_rfl) (fun _ _ _ h => h) (Or.inl ⟨by rfl, ?_⟩) (by assumption) ?_
  rotate_left
  · intro w hSw
    (try dsimp only at hSw)
    go_simp
    (try with_reducible rfl)
  try simp only [Act.put, List.setIfInBounds_toArray, List.set_cons_zero, List.set_cons_succ]
  refine wpAnyM_take (i := 6) (oi := { dst := some 125, op := Go.Op.load 39 (Go.Operand.tmp 124), type := 39, pos := "l14_machine.go:79", after := #[{ on := 5, ground := Go.Ground.data }], guard := none }) (v := ?_) rfl (by kernel_rfl) (by kernel_rfl) (by kernel_rfl) (by kernel_rfl) (fun _ _ _ h => h) (Or.inl ⟨by rfl, ?_⟩) (by assumption) ?_
  rotate_left
  · intro w hSw
    (try dsimp only at hSw)
    go_simp
    (try with_reducible rfl)
  try simp only [Act.put, List.setIfInBounds_toArray, List.set_cons_zero, List.set_cons_succ]
  refine wpAnyM_take (i := 7) (oi := { dst := some 126, op := Go.Op.move (Go.Operand.tmp 5), type := 3, pos := "l14_machine.go:79", after := #[], guard := none }) (v := ?_) rfl (by kernel_rfl) (by kernel_rfl) (by kernel_rfl) (by kernel_rfl) (fun _ _ _ h => h) (Or.inl ⟨by rfl, ?_⟩) (by assumption) ?_
  rotate_left
  · intro w hSw
    (try dsimp only at hSw)
    go_simp
    (try with_reducible rfl)
  try simp only [Act.put, List.setIfInBounds_toArray, List.set_cons_zero, List.set_cons_succ]
  refine wpAnyM_take (i := 8) (oi := { dst := some 127, op := Go.Op.move (Go.Operand.tmp 0), type := 62, pos := "l14_machine.go:79", after := #[], guard := none }) (v := ?_) rfl (by kernel_rfl) (by kernel_rfl) (by kernel_rfl) (by kernel_rfl) (fun _ _ _ h => h) (Or.inl ⟨by rfl, ?_⟩) (by assumption) ?_
  rotate_left
  · intro w hSw
    (try dsimp only at hSw)
    go_simp
    (try with_reducible rfl)
  try simp only [Act.put, List.setIfInBounds_toArray, List.set_cons_zero, List.set_cons_succ]
  refine wpAnyM_take (i := 9) (oi := { dst := some 128, op := Go.Op.nilCheck (Go.Operand.tmp 127), type := 0, pos := "l14_machine.go:79", after := #[{ on := 8, ground := Go.Ground.data }], guard := none }) (v := ?_) rfl (by kernel_rfl) (by kernel_rfl) (by kernel_rfl) (by kernel_rfl) (fun _ _ _ h => h) (Or.inl ⟨by rfl, ?_⟩) (by assumption) ?_
  rotate_left
  · intro w hSw
    (try dsimp only at hSw)
    go_simp
    (try with_reducible rfl)
  try simp only [Act.put, List.setIfInBounds_toArray, List.set_cons_zero, List.set_cons_succ]
  refine wpAnyM_take (i := 10) (oi := { dst := some 129, op := Go.Op.fieldAddr 66 (Go.Operand.tmp 128) 0, type := 0, pos := "l14_machine.go:79", after := #[{ on := 9, ground := Go.Ground.data }], guard := none }) (v := ?_) rfl (by kernel_rfl) (by kernel_rfl) (by kernel_rfl) (by kernel_rfl) (fun _ _ _ h => h) (Or.inl ⟨by rfl, ?_⟩) (by assumption) ?_
  rotate_left
  · intro w hSw
    (try dsimp only at hSw)
    go_simp
    (try with_reducible rfl)
  try simp only [Act.put, List.setIfInBounds_toArray, List.set_cons_zero, List.set_cons_succ]
  refine wpAnyM_take (i := 11) (oi := { dst := some 130, op := Go.Op.load 39 (Go.Operand.tmp 129), type := 39, pos := "l14_machine.go:79", after := #[{ on := 10, ground := Go.Ground.data }], guard := none }) (v := ?_) rfl (by kernel_rfl) (by kernel_rfl) (by kernel_rfl) (by kernel_rfl) (fun _ _ _ h => h) (Or.inl ⟨by rfl, ?_⟩) (by assumption) ?_
  rotate_left
  · intro w hSw
    (try dsimp only at hSw)
    go_simp
    (try with_reducible rfl)
  try simp only [Act.put, List.setIfInBounds_toArray, List.set_cons_zero, List.set_cons_succ]
  refine wpAnyM_take (i := 12) (oi := { dst := some 131, op := Go.Op.fieldAddr 25 (Go.Operand.tmp 3) 3, type := 0, pos := "l14_machine.go:79", after := #[], guard := none }) (v := ?_) rfl (by kernel_rfl) (by kernel_rfl) (by kernel_rfl) (by kernel_rfl) (fun _ _ _ h => h) (Or.inl ⟨by rfl, ?_⟩) (by assumption) ?_
  rotate_left
  · intro w hSw
    (try dsimp only at hSw)
    go_simp
    (try with_reducible rfl)
  try simp only [Act.put, List.setIfInBounds_toArray, List.set_cons_zero, List.set_cons_succ]
  refine wpAnyM_take (i := 13) (oi := { dst := some 132, op := Go.Op.load 3 (Go.Operand.tmp 131), type := 3, pos := "l14_machine.go:79", after := #[{ on := 12, ground := Go.Ground.data }], guard := none }) (v := ?_) rfl (by kernel_rfl) (by kernel_rfl) (by kernel_rfl) (by kernel_rfl) (fun _ _ _ h => h) (Or.inl ⟨by rfl, ?_⟩) (by assumption) ?_
  rotate_left
  · intro w hSw
    (try dsimp only at hSw)
    go_simp
    (try with_reducible rfl)
  try simp only [Act.put, List.setIfInBounds_toArray, List.set_cons_zero, List.set_cons_succ]
  refine wpAnyM_take (i := 14) (oi := { dst := some 133, op := Go.Op.indexAddr 39 (Go.Operand.tmp 130) (Go.Operand.tmp 132), type := 0, pos := "l14_machine.go:79", after := #[{ on := 11, ground := Go.Ground.data }, { on := 13, ground := Go.Ground.data }], guard := none }) (v := ?_) rfl (by kernel_rfl) (by kernel_rfl) (by kernel_rfl) (by kernel_rfl) (fun _ _ _ h => h) (Or.inl ⟨by rfl, ?_⟩) (by assumption) ?_
  rotate_left
  · intro w hSw
    (try dsimp only at hSw)
    go_simp
    (try with_reducible rfl)
  try simp only [Act.put, List.setIfInBounds_toArray, List.set_cons_zero, List.set_cons_succ]
  refine wpAnyM_take (i := 15) (oi := { dst := some 134, op := Go.Op.load 3 (Go.Operand.tmp 133), type := 3, pos := "l14_machine.go:79", after := #[{ on := 14, ground := Go.Ground.data }], guard := none }) (v := ?_) rfl (by kernel_rfl) (by kernel_rfl) (by kernel_rfl) (by kernel_rfl) (fun _ _ _ h => h) (Or.inl ⟨by rfl, ?_⟩) (by assumption) ?_
  rotate_left
  · intro w hSw
    (try dsimp only at hSw)
    go_simp
    (try with_reducible rfl)
  try simp only [Act.put, List.setIfInBounds_toArray, List.set_cons_zero, List.set_cons_succ]
  refine wpAnyM_take (i := 16) (oi := { dst := some 135, op := Go.Op.indexAddr 39 (Go.Operand.tmp 125) (Go.Operand.tmp 126), type := 0, pos := "l14_machine.go:79", after := #[{ on := 6, ground := Go.Ground.data }, { on := 7, ground := Go.Ground.data }, { on := 0, ground := Go.Ground.phase }, { on := 1, ground := Go.Ground.phase }, { on := 2, ground := Go.Ground.phase }, { on := 3, ground := Go.Ground.phase }, { on := 4, ground := Go.Ground.phase }, { on := 5, ground := Go.Ground.phase }, { on := 6, ground := Go.Ground.phase }, { on := 7, ground := Go.Ground.phase }, { on := 8, ground := Go.Ground.phase }, { on := 9, ground := Go.Ground.phase }, { on := 10, ground := Go.Ground.phase }, { on := 11, ground := Go.Ground.phase }, { on := 12, ground := Go.Ground.phase }, { on := 13, ground := Go.Ground.phase }, { on := 14, ground := Go.Ground.phase }, { on := 15, ground := Go.Ground.phase }], guard := none }) (v := ?_) rfl (by kernel_rfl) (by kernel_rfl) (by kernel_rfl) (by kernel_rfl) (fun _ _ _ h => h) (Or.inl ⟨by rfl, ?_⟩) (by assumption) ?_
  rotate_left
  · intro w hSw
    (try dsimp only at hSw)
    go_simp
    (try with_reducible rfl)
  try simp only [Act.put, List.setIfInBounds_toArray, List.set_cons_zero, List.set_cons_succ]
  refine cmAnyM_oneK (i := 17) (o := { dst := none, op := Go.Op.store 3 (Go.Operand.tmp 135) (Go.Operand.tmp 134), type := 0, pos := "l14_machine.go:79", after := #[{ on := 16, ground := Go.Ground.data }, { on := 15, ground := Go.Ground.data }, { on := 0, ground := Go.Ground.phase }, { on := 1, ground := Go.Ground.phase }, { on := 2, ground := Go.Ground.phase }, { on := 3, ground := Go.Ground.phase }, { on := 4, ground := Go.Ground.phase }, { on := 5, ground := Go.Ground.phase }, { on := 6, ground := Go.Ground.phase }, { on := 7, ground := Go.Ground.phase }, { on := 8, ground := Go.Ground.phase }, { on := 9, ground := Go.Ground.phase }, { on := 10, ground := Go.Ground.phase }, { on := 11, ground := Go.Ground.phase }, { on := 12, ground := Go.Ground.phase }, { on := 13, ground := Go.Ground.phase }, { on := 14, ground := Go.Ground.phase }, { on := 15, ground := Go.Ground.phase }], guard := none }) rfl rfl (by kernel_rfl) (fun K9 hK9 => ?_)
  go_simp
  refine hK9 _ _ ⟨fun h => absurd rfl h, wpAnyM_done (by kernel_rfl) ?_ _⟩
  clear hK9
  simp only [noThrow, Exit.inBlock, Exit.then]
  go_at_K
  go_wp2_with fail
  go_ret
  rw [HZ.out]
  exact ⟨rfl, P, rg, sg, vb, vc, cb, cc, rv, rb, tb, tc, pb, pc, (HH.out.drew.drew).setC hc z⟩

set_option maxRecDepth 100000 in
set_option maxHeartbeats 4000000 in
theorem ts_loadNo (d a : Nat) (ha : a < 8) (hv : ¬ cellOk (m.regs a)) (w : World) (h : TIs W0 w T m) (hpc : m.pc ≤ 900) :
    Calls Tryd.prog 39 #[.pointer (some ⟨T, 0, none⟩), .agg #[.int .i64 5, .int .i64 (d : Int), .int .i64 (a : Int), .int .i64 0, .int .i64 0]] w fun e w' => e = .returned (.int .i64 2) ∧ TIs W0 w' T { m with pc := m.pc + 1 } := by
  obtain ⟨P, rg, sg, vb, vc, cb, cc, rv, rb, tb, tc, pb, pc, h⟩ := h
  have HH0 : Hid (TAt W0 w T P m rg sg vb vc cb cc rv rb tb tc pb pc) := h
  have t3 := h.cell.2.2.2
  have ft := h.frozen 3
  have hTl := h.lt
  obtain ⟨pn, HPN⟩ : ∃ p, Hid (m.pc = p) := ⟨_, rfl⟩
  rw [HPN.out] at t3 hpc
  clear h
  go_enter Tryd.func39, Tryd.ntmps39
  go_wp2_with fail
  obtain ⟨w1, hw1⟩ : ∃ W, (w.setCell ⟨T, 3, none⟩ (.int .i64 ((pn : Int) + 1))).alloc (.cells #[.int .i64 5, .int .i64 (d : Int), .int .i64 (a : Int), .int .i64 0, .int .i64 0] 25) = W := ⟨_, rfl⟩
  have h1 : TAt W0 w1 T P { m with pc := m.pc + 1 } rg sg vb vc cb cc rv rb tb tc pb pc := by
    have h3 := (HH0.out.setPc (m.pc + 1)).later (Bel.alloc _ (.cells #[.int .i64 5, .int .i64 (d : Int), .int .i64 (a : Int), .int .i64 0, .int .i64 0] 25))
    have e : ((m.pc + 1 : Nat) : Int) = (pn : Int) + 1 := by rw [HPN.out]; rfl
    rw [e, hw1] at h3
    exact h3
  have bx : w1.heap[w.heap.size]? = some (.cells #[.int .i64 5, .int .i64 (d : Int), .int .i64 (a : Int), .int .i64 0, .int .i64 0] 25 (0, 0)) := by
    rw [← hw1]
    exact heap_last (by simp)
  rw [hw1]
  clear hw1 t3 ft hTl
  generalize w.heap.size = B at bx ⊢
  have x0 : w1.cell? ⟨B, 0, none⟩ = some (.int .i64 5) := by simp [World.cell?, bx]
  have x1 : w1.cell? ⟨B, 1, none⟩ = some (.int .i64 (d : Int)) := by simp [World.cell?, bx]
  have x2 : w1.cell? ⟨B, 2, none⟩ = some (.int .i64 (a : Int)) := by simp [World.cell?, bx]
  have x3 : w1.cell? ⟨B, 3, none⟩ = some (.int .i64 0) := by simp [World.cell?, bx]
  have x4 : w1.cell? ⟨B, 4, none⟩ = some (.int .i64 0) := by simp [World.cell?, bx]
  have hBr : rg ≠ B := (not_row bx (by decide) h1.regs.heapOf).symm
  have hBs : sg ≠ B := (not_row bx (by decide) h1.slots.heapOf).symm
  have hBc : cb ≠ B := (not_row bx (by decide) h1.s.cells.heapOf).symm
  have hrT : rg ≠ T := h1.hTr.symm
  have hsT : sg ≠ T := h1.hTs.symm
  have hcT : cb ≠ T := h1.hTc.symm
  have hrP : rg ≠ P := h1.hPr.symm
  obtain ⟨p0, p1, p2, p3⟩ := h1.cell
  obtain ⟨_, u1, u2, u3, _, _⟩ := h1.s.cell
  have fr : ∀ i, w1.frozen? ⟨rg, i, none⟩ = false := fun i => frozen_of_cells h1.regs.heapOf i
  have fs : ∀ i, w1.frozen? ⟨sg, i, none⟩ = false := fun i => frozen_of_cells h1.slots.heapOf i
  have fc : ∀ i, w1.frozen? ⟨cb, i, none⟩ = false := fun i => frozen_of_cells h1.s.cells.heapOf i
  have fT : w1.frozen? ⟨T, 3, none⟩ = false := h1.frozen 3
  have HH : Hid (TAt W0 w1 T P { m with pc := m.pc + 1 } rg sg vb vc cb cc rv rb tb tc pb pc) := h1
  have HBX : Hid (w1.heap[B]? = some (.cells #[.int .i64 5, .int .i64 (d : Int), .int .i64 (a : Int), .int .i64 0, .int .i64 0] 25 (0, 0))) := bx
  have ca := h1.regAt (i := a) ha
  obtain ⟨y, HY⟩ : ∃ y, Hid (m.regs a = y) := ⟨_, rfl⟩
  rw [show ({ m with pc := m.pc + 1 } : MacS).regs a = y from HY.out] at ca
  have HV2 : Hid (¬ cellOk y) := by
    show ¬ cellOk y
    rw [← HY.out]; exact hv
  have ha2 : (a : Int) < 8 := by omega
  clear h1 bx
  go_region_held3 (fun w' => w'.cell? ⟨T, 0, none⟩ = some (.slice (some ⟨rg, 0, none⟩) 8 8) ∧ w'.cell? ⟨B, 2, none⟩ = some (.int .i64 (a : Int)) ∧ w'.cell? ⟨rg, a, none⟩ = some (.int .i64 y)) (go_keep) (fail)
  simp only [Exit.then]
  go_at_K
  go_wp2_with fail
  refine (l1In_any y 0 7 _).mono ?_
  rintro e w5 ⟨rfl, hw5⟩
  replace hw5 := hw5.symm
  subst hw5
  rw [show (decide ((0 : Int) ≤ y) && decide (y ≤ 7)) = false by have h := HV2.out; unfold cellOk at h; simp; omega]
  go_wp2_with fail
  go_ret
  exact ⟨rfl, P, rg, sg, vb, vc, cb, cc, rv, rb, tb, tc, pb, pc, HH.out.drew⟩

set_option maxRecDepth 100000 in
set_option maxHeartbeats 4000000 in
theorem ts_storeNo (a b : Nat) (ha : a < 8) (hv : ¬ cellOk (m.regs a)) (w : World) (h : TIs W0 w T m) (hpc : m.pc ≤ 900) :
    Calls Tryd.prog 39 #[.pointer (some ⟨T, 0, none⟩), .agg #[.int .i64 6, .int .i64 0, .int .i64 (a : Int), .int .i64 (b : Int), .int .i64 0]] w fun e w' => e = .returned (.int .i64 2) ∧ TIs W0 w' T { m with pc := m.pc + 1 } := by
  obtain ⟨P, rg, sg, vb, vc, cb, cc, rv, rb, tb, tc, pb, pc, h⟩ := h
  have HH0 : Hid (TAt W0 w T P m rg sg vb vc cb cc rv rb tb tc pb pc) := h
  have t3 := h.cell.2.2.2
  have ft := h.frozen 3
  have hTl := h.lt
  obtain ⟨pn, HPN⟩ : ∃ p, Hid (m.pc = p) := ⟨_, rfl⟩
  rw [HPN.out] at t3 hpc
  clear h
  go_enter Tryd.func39, Tryd.ntmps39
  go_wp2_with fail
  obtain ⟨w1, hw1⟩ : ∃ W, (w.setCell ⟨T, 3, none⟩ (.int .i64 ((pn : Int) + 1))).alloc (.cells #[.int .i64 6, .int .i64 0, .int .i64 (a : Int), .int .i64 (b : Int), .int .i64 0] 25) = W := ⟨_, rfl⟩
  have h1 : TAt W0 w1 T P { m with pc := m.pc + 1 } rg sg vb vc cb cc rv rb tb tc pb pc := by
    have h3 := (HH0.out.setPc (m.pc + 1)).later (Bel.alloc _ (.cells #[.int .i64 6, .int .i64 0, .int .i64 (a : Int), .int .i64 (b : Int), .int .i64 0] 25))
    have e : ((m.pc + 1 : Nat) : Int) = (pn : Int) + 1 := by rw [HPN.out]; rfl
    rw [e, hw1] at h3
    exact h3
  have bx : w1.heap[w.heap.size]? = some (.cells #[.int .i64 6, .int .i64 0, .int .i64 (a : Int), .int .i64 (b : Int), .int .i64 0] 25 (0, 0)) := by
    rw [← hw1]
    exact heap_last (by simp)
  rw [hw1]
  clear hw1 t3 ft hTl
  generalize w.heap.size = B at bx ⊢
  have x0 : w1.cell? ⟨B, 0, none⟩ = some (.int .i64 6) := by simp [World.cell?, bx]
  have x1 : w1.cell? ⟨B, 1, none⟩ = some (.int .i64 0) := by simp [World.cell?, bx]
  have x2 : w1.cell? ⟨B, 2, none⟩ = some (.int .i64 (a : Int)) := by simp [World.cell?, bx]
  have x3 : w1.cell? ⟨B, 3, none⟩ = some (.int .i64 (b : Int)) := by simp [World.cell?, bx]
  have x4 : w1.cell? ⟨B, 4, none⟩ = some (.int .i64 0) := by simp [World.cell?, bx]
  have hBr : rg ≠ B := (not_row bx (by decide) h1.regs.heapOf).symm
  have hBs : sg ≠ B := (not_row bx (by decide) h1.slots.heapOf).symm
  have hBc : cb ≠ B := (not_row bx (by decide) h1.s.cells.heapOf).symm
  have hrT : rg ≠ T := h1.hTr.symm
  have hsT : sg ≠ T := h1.hTs.symm
  have hcT : cb ≠ T := h1.hTc.symm
  have hrP : rg ≠ P := h1.hPr.symm
  obtain ⟨p0, p1, p2, p3⟩ := h1.cell
  obtain ⟨_, u1, u2, u3, _, _⟩ := h1.s.cell
  have fr : ∀ i, w1.frozen? ⟨rg, i, none⟩ = false := fun i => frozen_of_cells h1.regs.heapOf i
  have fs : ∀ i, w1.frozen? ⟨sg, i, none⟩ = false := fun i => frozen_of_cells h1.slots.heapOf i
  have fc : ∀ i, w1.frozen? ⟨cb, i, none⟩ = false := fun i => frozen_of_cells h1.s.cells.heapOf i
  have fT : w1.frozen? ⟨T, 3, none⟩ = false := h1.frozen 3
  have HH : Hid (TAt W0 w1 T P { m with pc := m.pc + 1 } rg sg vb vc cb cc rv rb tb tc pb pc) := h1
  have HBX : Hid (w1.heap[B]? = some (.cells #[.int .i64 6, .int .i64 0, .int .i64 (a : Int), .int .i64 (b : Int), .int .i64 0] 25 (0, 0))) := bx
  have ca := h1.regAt (i := a) ha
  obtain ⟨y, HY⟩ : ∃ y, Hid (m.regs a = y) := ⟨_, rfl⟩
  rw [show ({ m with pc := m.pc + 1 } : MacS).regs a = y from HY.out] at ca
  have HV2 : Hid (¬ cellOk y) := by
    show ¬ cellOk y
    rw [← HY.out]; exact hv
  have ha2 : (a : Int) < 8 := by omega
  clear h1 bx
  go_region_held3 (fun w' => w'.cell? ⟨T, 0, none⟩ = some (.slice (some ⟨rg, 0, none⟩) 8 8) ∧ w'.cell? ⟨B, 2, none⟩ = some (.int .i64 (a : Int)) ∧ w'.cell? ⟨rg, a, none⟩ = some (.int .i64 y)) (go_keep) (fail)
  simp only [Exit.then]
  go_at_K
  go_wp2_with fail
  refine (l1In_any y 0 7 _).mono ?_
  rintro e w5 ⟨rfl, hw5⟩
  replace hw5 := hw5.symm
  subst hw5
  rw [show (decide ((0 : Int) ≤ y) && decide (y ≤ 7)) = false by have h := HV2.out; unfold cellOk at h; simp; omega]
  go_wp2_with fail
  go_ret
  exact ⟨rfl, P, rg, sg, vb, vc, cb, cc, rv, rb, tb, tc, pb, pc, HH.out.drew⟩

set_option maxRecDepth 100000 in
set_option maxHeartbeats 4000000 in
theorem ts_jump (n : Nat) (w : World) (h : TIs W0 w T m) (hpc : m.pc ≤ 900) :
    Calls Tryd.prog 39 #[.pointer (some ⟨T, 0, none⟩), .agg #[.int .i64 9, .int .i64 0, .int .i64 0, .int .i64 0, .int .i64 (n : Int)]] w fun e w' => e = .returned (.int .i64 0) ∧ TIs W0 w' T { m with pc := n } := by
  obtain ⟨P, rg, sg, vb, vc, cb, cc, rv, rb, tb, tc, pb, pc, h⟩ := h
  have HH0 : Hid (TAt W0 w T P m rg sg vb vc cb cc rv rb tb tc pb pc) := h
  have t3 := h.cell.2.2.2
  have ft := h.frozen 3
  have hTl := h.lt
  obtain ⟨pn, HPN⟩ : ∃ p, Hid (m.pc = p) := ⟨_, rfl⟩
  rw [HPN.out] at t3 hpc
  clear h
  go_enter Tryd.func39, Tryd.ntmps39
  go_wp2_with fail
  obtain ⟨w1, hw1⟩ : ∃ W, (w.setCell ⟨T, 3, none⟩ (.int .i64 ((pn : Int) + 1))).alloc (.cells #[.int .i64 9, .int .i64 0, .int .i64 0, .int .i64 0, .int .i64 (n : Int)] 25) = W := ⟨_, rfl⟩
  have h1 : TAt W0 w1 T P { m with pc := m.pc + 1 } rg sg vb vc cb cc rv rb tb tc pb pc := by
    have h3 := (HH0.out.setPc (m.pc + 1)).later (Bel.alloc _ (.cells #[.int .i64 9, .int .i64 0, .int .i64 0, .int .i64 0, .int .i64 (n : Int)] 25))
    have e : ((m.pc + 1 : Nat) : Int) = (pn : Int) + 1 := by rw [HPN.out]; rfl
    rw [e, hw1] at h3
    exact h3
  have bx : w1.heap[w.heap.size]? = some (.cells #[.int .i64 9, .int .i64 0, .int .i64 0, .int .i64 0, .int .i64 (n : Int)] 25 (0, 0)) := by
    rw [← hw1]
    exact heap_last (by simp)
  rw [hw1]
  clear hw1 t3 ft hTl
  generalize w.heap.size = B at bx ⊢
  have x0 : w1.cell? ⟨B, 0, none⟩ = some (.int .i64 9) := by simp [World.cell?, bx]
  have x1 : w1.cell? ⟨B, 1, none⟩ = some (.int .i64 0) := by simp [World.cell?, bx]
  have x2 : w1.cell? ⟨B, 2, none⟩ = some (.int .i64 0) := by simp [World.cell?, bx]
  have x3 : w1.cell? ⟨B, 3, none⟩ = some (.int .i64 0) := by simp [World.cell?, bx]
  have x4 : w1.cell? ⟨B, 4, none⟩ = some (.int .i64 (n : Int)) := by simp [World.cell?, bx]
  have hBr : rg ≠ B := (not_row bx (by decide) h1.regs.heapOf).symm
  have hBs : sg ≠ B := (not_row bx (by decide) h1.slots.heapOf).symm
  have hBc : cb ≠ B := (not_row bx (by decide) h1.s.cells.heapOf).symm
  have hrT : rg ≠ T := h1.hTr.symm
  have hsT : sg ≠ T := h1.hTs.symm
  have hcT : cb ≠ T := h1.hTc.symm
  have hrP : rg ≠ P := h1.hPr.symm
  obtain ⟨p0, p1, p2, p3⟩ := h1.cell
  obtain ⟨_, u1, u2, u3, _, _⟩ := h1.s.cell
  have fr : ∀ i, w1.frozen? ⟨rg, i, none⟩ = false := fun i => frozen_of_cells h1.regs.heapOf i
  have fs : ∀ i, w1.frozen? ⟨sg, i, none⟩ = false := fun i => frozen_of_cells h1.slots.heapOf i
  have fc : ∀ i, w1.frozen? ⟨cb, i, none⟩ = false := fun i => frozen_of_cells h1.s.cells.heapOf i
  have fT : w1.frozen? ⟨T, 3, none⟩ = false := h1.frozen 3
  have HH : Hid (TAt W0 w1 T P { m with pc := m.pc + 1 } rg sg vb vc cb cc rv rb tb tc pb pc) := h1
  have HBX : Hid (w1.heap[B]? = some (.cells #[.int .i64 9, .int .i64 0, .int .i64 0, .int .i64 0, .int .i64 (n : Int)] 25 (0, 0))) := bx
  have ca := h1.regAt (i := 0) (by omega)
  obtain ⟨y, HY⟩ : ∃ y, Hid (m.regs 0 = y) := ⟨_, rfl⟩
  rw [show ({ m with pc := m.pc + 1 } : MacS).regs 0 = y from HY.out] at ca
  clear h1 bx
  go_region_held3 (fun w' => w'.cell? ⟨T, 0, none⟩ = some (.slice (some ⟨rg, 0, none⟩) 8 8) ∧ w'.cell? ⟨B, 2, none⟩ = some (.int .i64 0) ∧ w'.cell? ⟨rg, 0, none⟩ = some (.int .i64 y)) (go_keep) (fail)
  simp only [Exit.then]
  go_at_K
  go_wp2_with fail
  go_ret
  exact ⟨rfl, P, rg, sg, vb, vc, cb, cc, rv, rb, tb, tc, pb, pc, by first | exact (HH.out.setPc n).drew | exact (HH.out.drew).setPc n⟩

set_option maxRecDepth 100000 in
set_option maxHeartbeats 4000000 in
theorem ts_zero (a n : Nat) (ha : a < 8) (hv : m.regs a = 0) (w : World) (h : TIs W0 w T m) (hpc : m.pc ≤ 900) :
    Calls Tryd.prog 39 #[.pointer (some ⟨T, 0, none⟩), .agg #[.int .i64 10, .int .i64 0, .int .i64 (a : Int), .int .i64 0, .int .i64 (n : Int)]] w fun e w' => e = .returned (.int .i64 0) ∧ TIs W0 w' T { m with pc := n } := by
  obtain ⟨P, rg, sg, vb, vc, cb, cc, rv, rb, tb, tc, pb, pc, h⟩ := h
  have HH0 : Hid (TAt W0 w T P m rg sg vb vc cb cc rv rb tb tc pb pc) := h
  have t3 := h.cell.2.2.2
  have ft := h.frozen 3
  have hTl := h.lt
  obtain ⟨pn, HPN⟩ : ∃ p, Hid (m.pc = p) := ⟨_, rfl⟩
  rw [HPN.out] at t3 hpc
  clear h
  go_enter Tryd.func39, Tryd.ntmps39
  go_wp2_with fail
  obtain ⟨w1, hw1⟩ : ∃ W, (w.setCell ⟨T, 3, none⟩ (.int .i64 ((pn : Int) + 1))).alloc (.cells #[.int .i64 10, .int .i64 0, .int .i64 (a : Int), .int .i64 0, .int .i64 (n : Int)] 25) = W := ⟨_, rfl⟩
  have h1 : TAt W0 w1 T P { m with pc := m.pc + 1 } rg sg vb vc cb cc rv rb tb tc pb pc := by
    have h3 := (HH0.out.setPc (m.pc + 1)).later (Bel.alloc _ (.cells #[.int .i64 10, .int .i64 0, .int .i64 (a : Int), .int .i64 0, .int .i64 (n : Int)] 25))
    have e : ((m.pc + 1 : Nat) : Int) = (pn : Int) + 1 := by rw [HPN.out]; rfl
    rw [e, hw1] at h3
    exact h3
  have bx : w1.heap[w.heap.size]? = some (.cells #[.int .i64 10, .int .i64 0, .int .i64 (a : Int), .int .i64 0, .int .i64 (n : Int)] 25 (0, 0)) := by
    rw [← hw1]
    exact heap_last (by simp)
  rw [hw1]
  clear hw1 t3 ft hTl
  generalize w.heap.size = B at bx ⊢
  have x0 : w1.cell? ⟨B, 0, none⟩ = some (.int .i64 10) := by simp [World.cell?, bx]
  have x1 : w1.cell? ⟨B, 1, none⟩ = some (.int .i64 0) := by simp [World.cell?, bx]
  have x2 : w1.cell? ⟨B, 2, none⟩ = some (.int .i64 (a : Int)) := by simp [World.cell?, bx]
  have x3 : w1.cell? ⟨B, 3, none⟩ = some (.int .i64 0) := by simp [World.cell?, bx]
  have x4 : w1.cell? ⟨B, 4, none⟩ = some (.int .i64 (n : Int)) := by simp [World.cell?, bx]
  have hBr : rg ≠ B := (not_row bx (by decide) h1.regs.heapOf).symm
  have hBs : sg ≠ B := (not_row bx (by decide) h1.slots.heapOf).symm
  have hBc : cb ≠ B := (not_row bx (by decide) h1.s.cells.heapOf).symm
  have hrT : rg ≠ T := h1.hTr.symm
  have hsT : sg ≠ T := h1.hTs.symm
  have hcT : cb ≠ T := h1.hTc.symm
  have hrP : rg ≠ P := h1.hPr.symm
  obtain ⟨p0, p1, p2, p3⟩ := h1.cell
  obtain ⟨_, u1, u2, u3, _, _⟩ := h1.s.cell
  have fr : ∀ i, w1.frozen? ⟨rg, i, none⟩ = false := fun i => frozen_of_cells h1.regs.heapOf i
  have fs : ∀ i, w1.frozen? ⟨sg, i, none⟩ = false := fun i => frozen_of_cells h1.slots.heapOf i
  have fc : ∀ i, w1.frozen? ⟨cb, i, none⟩ = false := fun i => frozen_of_cells h1.s.cells.heapOf i
  have fT : w1.frozen? ⟨T, 3, none⟩ = false := h1.frozen 3
  have HH : Hid (TAt W0 w1 T P { m with pc := m.pc + 1 } rg sg vb vc cb cc rv rb tb tc pb pc) := h1
  have HBX : Hid (w1.heap[B]? = some (.cells #[.int .i64 10, .int .i64 0, .int .i64 (a : Int), .int .i64 0, .int .i64 (n : Int)] 25 (0, 0))) := bx
  have ca := h1.regAt (i := a) ha
  rw [show ({ m with pc := m.pc + 1 } : MacS).regs a = 0 from hv] at ca
  have ha2 : (a : Int) < 8 := by omega
  clear h1 bx
  go_region_held3 (fun w' => w'.cell? ⟨T, 0, none⟩ = some (.slice (some ⟨rg, 0, none⟩) 8 8) ∧ w'.cell? ⟨B, 2, none⟩ = some (.int .i64 (a : Int)) ∧ w'.cell? ⟨rg, a, none⟩ = some (.int .i64 0)) (go_keep) (fail)
  simp only [Exit.then]
  go_at_K
  go_wp2_with fail
  go_ret
  exact ⟨rfl, P, rg, sg, vb, vc, cb, cc, rv, rb, tb, tc, pb, pc, by first | exact (HH.out.setPc n).drew | exact (HH.out.drew).setPc n⟩

set_option maxRecDepth 100000 in
set_option maxHeartbeats 4000000 in
theorem ts_zeroNo (a n : Nat) (ha : a < 8) (hv : ¬ m.regs a = 0) (w : World) (h : TIs W0 w T m) (hpc : m.pc ≤ 900) :
    Calls Tryd.prog 39 #[.pointer (some ⟨T, 0, none⟩), .agg #[.int .i64 10, .int .i64 0, .int .i64 (a : Int), .int .i64 0, .int .i64 (n : Int)]] w fun e w' => e = .returned (.int .i64 0) ∧ TIs W0 w' T { m with pc := m.pc + 1 } := by
  obtain ⟨P, rg, sg, vb, vc, cb, cc, rv, rb, tb, tc, pb, pc, h⟩ := h
  have HH0 : Hid (TAt W0 w T P m rg sg vb vc cb cc rv rb tb tc pb pc) := h
  have t3 := h.cell.2.2.2
  have ft := h.frozen 3
  have hTl := h.lt
  obtain ⟨pn, HPN⟩ : ∃ p, Hid (m.pc = p) := ⟨_, rfl⟩
  rw [HPN.out] at t3 hpc
  clear h
  go_enter Tryd.func39, Tryd.ntmps39
  go_wp2_with fail
  obtain ⟨w1, hw1⟩ : ∃ W, (w.setCell ⟨T, 3, none⟩ (.int .i64 ((pn : Int) + 1))).alloc (.cells #[.int .i64 10, .int .i64 0, .int .i64 (a : Int), .int .i64 0, .int .i64 (n : Int)] 25) = W := ⟨_, rfl⟩
  have h1 : TAt W0 w1 T P { m with pc := m.pc + 1 } rg sg vb vc cb cc rv rb tb tc pb pc := by
    have h3 := (HH0.out.setPc (m.pc + 1)).later (Bel.alloc _ (.cells #[.int .i64 10, .int .i64 0, .int .i64 (a : Int), .int .i64 0, .int .i64 (n : Int)] 25))
    have e : ((m.pc + 1 : Nat) : Int) = (pn : Int) + 1 := by rw [HPN.out]; rfl
    rw [e, hw1] at h3
    exact h3
  have bx : w1.heap[w.heap.size]? = some (.cells #[.int .i64 10, .int .i64 0, .int .i64 (a : Int), .int .i64 0, .int .i64 (n : Int)] 25 (0, 0)) := by
    rw [← hw1]
    exact heap_last (by simp)
  rw [hw1]
  clear hw1 t3 ft hTl
  generalize w.heap.size = B at bx ⊢
  have x0 : w1.cell? ⟨B, 0, none⟩ = some (.int .i64 10) := by simp [World.cell?, bx]
  have x1 : w1.cell? ⟨B, 1, none⟩ = some (.int .i64 0) := by simp [World.cell?, bx]
  have x2 : w1.cell? ⟨B, 2, none⟩ = some (.int .i64 (a : Int)) := by simp [World.cell?, bx]
  have x3 : w1.cell? ⟨B, 3, none⟩ = some (.int .i64 0) := by simp [World.cell?, bx]
  have x4 : w1.cell? ⟨B, 4, none⟩ = some (.int .i64 (n : Int)) := by simp [World.cell?, bx]
  have hBr : rg ≠ B := (not_row bx (by decide) h1.regs.heapOf).symm
  have hBs : sg ≠ B := (not_row bx (by decide) h1.slots.heapOf).symm
  have hBc : cb ≠ B := (not_row bx (by decide) h1.s.cells.heapOf).symm
  have hrT : rg ≠ T := h1.hTr.symm
  have hsT : sg ≠ T := h1.hTs.symm
  have hcT : cb ≠ T := h1.hTc.symm
  have hrP : rg ≠ P := h1.hPr.symm
  obtain ⟨p0, p1, p2, p3⟩ := h1.cell
  obtain ⟨_, u1, u2, u3, _, _⟩ := h1.s.cell
  have fr : ∀ i, w1.frozen? ⟨rg, i, none⟩ = false := fun i => frozen_of_cells h1.regs.heapOf i
  have fs : ∀ i, w1.frozen? ⟨sg, i, none⟩ = false := fun i => frozen_of_cells h1.slots.heapOf i
  have fc : ∀ i, w1.frozen? ⟨cb, i, none⟩ = false := fun i => frozen_of_cells h1.s.cells.heapOf i
  have fT : w1.frozen? ⟨T, 3, none⟩ = false := h1.frozen 3
  have HH : Hid (TAt W0 w1 T P { m with pc := m.pc + 1 } rg sg vb vc cb cc rv rb tb tc pb pc) := h1
  have HBX : Hid (w1.heap[B]? = some (.cells #[.int .i64 10, .int .i64 0, .int .i64 (a : Int), .int .i64 0, .int .i64 (n : Int)] 25 (0, 0))) := bx
  have ca := h1.regAt (i := a) ha
  obtain ⟨y, HY⟩ : ∃ y, Hid (m.regs a = y) := ⟨_, rfl⟩
  rw [show ({ m with pc := m.pc + 1 } : MacS).regs a = y from HY.out] at ca
  have hy0 : (y == 0) = false := by rw [← HY.out]; simpa using hv
  have ha2 : (a : Int) < 8 := by omega
  clear h1 bx
  go_region_held3 (fun w' => w'.cell? ⟨T, 0, none⟩ = some (.slice (some ⟨rg, 0, none⟩) 8 8) ∧ w'.cell? ⟨B, 2, none⟩ = some (.int .i64 (a : Int)) ∧ w'.cell? ⟨rg, a, none⟩ = some (.int .i64 y)) (go_keep) (fail)
  simp only [Exit.then]
  go_at_K
  go_wp2_with fail
  go_ret
  exact ⟨rfl, P, rg, sg, vb, vc, cb, cc, rv, rb, tb, tc, pb, pc, HH.out.drew⟩

set_option maxRecDepth 100000 in
set_option maxHeartbeats 4000000 in
theorem ts_word (op : Int) (d a b : Nat) (hd : d < 8) (ha : a < 8) (hb : b < 8) (hop : 12 ≤ op ∧ op ≤ 21) (w : World) (h : TIs W0 w T m) (hpc : m.pc ≤ 900) :
    Calls Tryd.prog 39 #[.pointer (some ⟨T, 0, none⟩), .agg #[.int .i64 op, .int .i64 (d : Int), .int .i64 (a : Int), .int .i64 (b : Int), .int .i64 0]] w fun e w' => e = .returned (.int .i64 0) ∧ TIs W0 w' T { m with pc := m.pc + 1, regs := updN m.regs d (wordV (op - 11) (m.regs a) (m.regs b)) } := by
  obtain ⟨P, rg, sg, vb, vc, cb, cc, rv, rb, tb, tc, pb, pc, h⟩ := h
  have HH0 : Hid (TAt W0 w T P m rg sg vb vc cb cc rv rb tb tc pb pc) := h
  have t3 := h.cell.2.2.2
  have ft := h.frozen 3
  have hTl := h.lt
  obtain ⟨pn, HPN⟩ : ∃ p, Hid (m.pc = p) := ⟨_, rfl⟩
  rw [HPN.out] at t3 hpc
  clear h
  go_enter Tryd.func39, Tryd.ntmps39
  go_wp2_with fail
  obtain ⟨w1, hw1⟩ : ∃ W, (w.setCell ⟨T, 3, none⟩ (.int .i64 ((pn : Int) + 1))).alloc (.cells #[.int .i64 op, .int .i64 (d : Int), .int .i64 (a : Int), .int .i64 (b : Int), .int .i64 0] 25) = W := ⟨_, rfl⟩
  have h1 : TAt W0 w1 T P { m with pc := m.pc + 1 } rg sg vb vc cb cc rv rb tb tc pb pc := by
    have h3 := (HH0.out.setPc (m.pc + 1)).later (Bel.alloc _ (.cells #[.int .i64 op, .int .i64 (d : Int), .int .i64 (a : Int), .int .i64 (b : Int), .int .i64 0] 25))
    have e : ((m.pc + 1 : Nat) : Int) = (pn : Int) + 1 := by rw [HPN.out]; rfl
    rw [e, hw1] at h3
    exact h3
  have bx : w1.heap[w.heap.size]? = some (.cells #[.int .i64 op, .int .i64 (d : Int), .int .i64 (a : Int), .int .i64 (b : Int), .int .i64 0] 25 (0, 0)) := by
    rw [← hw1]
    exact heap_last (by simp)
  rw [hw1]
  clear hw1 t3 ft hTl
  generalize w.heap.size = B at bx ⊢
  have x0 : w1.cell? ⟨B, 0, none⟩ = some (.int .i64 op) := by simp [World.cell?, bx]
  have x1 : w1.cell? ⟨B, 1, none⟩ = some (.int .i64 (d : Int)) := by simp [World.cell?, bx]
  have x2 : w1.cell? ⟨B, 2, none⟩ = some (.int .i64 (a : Int)) := by simp [World.cell?, bx]
  have x3 : w1.cell? ⟨B, 3, none⟩ = some (.int .i64 (b : Int)) := by simp [World.cell?, bx]
  have x4 : w1.cell? ⟨B, 4, none⟩ = some (.int .i64 0) := by simp [World.cell?, bx]
  have hBr : rg ≠ B := (not_row bx (by decide) h1.regs.heapOf).symm
  have hBs : sg ≠ B := (not_row bx (by decide) h1.slots.heapOf).symm
  have hBc : cb ≠ B := (not_row bx (by decide) h1.s.cells.heapOf).symm
  have hrT : rg ≠ T := h1.hTr.symm
  have hsT : sg ≠ T := h1.hTs.symm
  have hcT : cb ≠ T := h1.hTc.symm
  have hrP : rg ≠ P := h1.hPr.symm
  obtain ⟨p0, p1, p2, p3⟩ := h1.cell
  obtain ⟨_, u1, u2, u3, _, _⟩ := h1.s.cell
  have fr : ∀ i, w1.frozen? ⟨rg, i, none⟩ = false := fun i => frozen_of_cells h1.regs.heapOf i
  have fs : ∀ i, w1.frozen? ⟨sg, i, none⟩ = false := fun i => frozen_of_cells h1.slots.heapOf i
  have fc : ∀ i, w1.frozen? ⟨cb, i, none⟩ = false := fun i => frozen_of_cells h1.s.cells.heapOf i
  have fT : w1.frozen? ⟨T, 3, none⟩ = false := h1.frozen 3
  have HH : Hid (TAt W0 w1 T P { m with pc := m.pc + 1 } rg sg vb vc cb cc rv rb tb tc pb pc) := h1
  have HBX : Hid (w1.heap[B]? = some (.cells #[.int .i64 op, .int .i64 (d : Int), .int .i64 (a : Int), .int .i64 (b : Int), .int .i64 0] 25 (0, 0))) := bx
  have ca := h1.regAt (i := a) ha
  obtain ⟨y, HY⟩ : ∃ y, Hid (m.regs a = y) := ⟨_, rfl⟩
  rw [show ({ m with pc := m.pc + 1 } : MacS).regs a = y from HY.out] at ca
  have cd := h1.regAt (i := d) hd
  have fd := fr d
  have cz := h1.regAt (i := b) hb
  obtain ⟨z, HZ⟩ : ∃ z, Hid (m.regs b = z) := ⟨_, rfl⟩
  rw [show ({ m with pc := m.pc + 1 } : MacS).regs b = z from HZ.out] at cz
  have hw11 : IntKind.i64.wrap (op - 11) = op - 11 := IntWalk.i64_in _ (by omega)
  have q1 : (op == 1) = false := by simp; omega
  have q2 : (op == 2) = false := by simp; omega
  have q3 : (op == 3) = false := by simp; omega
  have q4 : (op == 4) = false := by simp; omega
  have q5 : (op == 5) = false := by simp; omega
  have q6 : (op == 6) = false := by simp; omega
  have q7 : (op == 7) = false := by simp; omega
  have q8 : (op == 8) = false := by simp; omega
  have q9 : (op == 9) = false := by simp; omega
  have q10 : (op == 10) = false := by simp; omega
  have hd2 : (d : Int) < 8 := by omega
  have ha2 : (a : Int) < 8 := by omega
  have hb2 : (b : Int) < 8 := by omega
  clear h1 bx
  go_region_held3 (fun w' => w'.cell? ⟨T, 0, none⟩ = some (.slice (some ⟨rg, 0, none⟩) 8 8) ∧ w'.cell? ⟨B, 2, none⟩ = some (.int .i64 (a : Int)) ∧ w'.cell? ⟨rg, a, none⟩ = some (.int .i64 y)) (go_keep) (fail)
  simp only [Exit.then]
  go_at_K
  go_wp2_with fail
  have hHeld : (fun w' => w'.cell? ⟨T, 0, none⟩ = some (.slice (some ⟨rg, 0, none⟩) 8 8) ∧ w'.cell? ⟨B, 0, none⟩ = some (.int .i64 op) ∧ w'.cell? ⟨B, 1, none⟩ = some (.int .i64 (d : Int)) ∧ w'.cell? ⟨B, 3, none⟩ = some (.int .i64 (b : Int)) ∧ w'.cell? ⟨rg, b, none⟩ = some (.int .i64 z)) w1.drew.drew := ⟨p0, x0, x1, x3, cz⟩
  refine wp_noThrow (region_M 20 (fun w' => w'.cell? ⟨T, 0, none⟩ = some (.slice (some ⟨rg, 0, none⟩) 8 8) ∧ w'.cell? ⟨B, 0, none⟩ = some (.int .i64 op) ∧ w'.cell? ⟨B, 1, none⟩ = some (.int .i64 (d : Int)) ∧ w'.cell? ⟨B, 3, none⟩ = some (.int .i64 (b : Int)) ∧ w'.cell? ⟨rg, b, none⟩ = some (.int .i64 z)) (by kernel_rfl) ?_)
  refine wpAnyM_take (i := 0) (oi := { dst := some 24, op := Go.Op.move (Go.Operand.tmp 0), type := 62, pos := "l14_machine.go:95", after := #[], guard := none }) (v := ?_) rfl (by kernel_rfl) (by kernel_rfl) (by kernel_rfl) (by kernel_rfl) (fun _ _ _ h => h) (Or.inl ⟨by rfl, ?_⟩) (by assumption) ?_
  rotate_left
  · intro w hSw
    (try dsimp only at hSw)
    go_simp
    (try with_reducible rfl)
  try simp only [Act.put, List.setIfInBounds_toArray, List.set_cons_zero, List.set_cons_succ]
  refine wpAnyM_take (i := 1) (oi := { dst := some 25, op := Go.Op.nilCheck (Go.Operand.tmp 24), type := 0, pos := "l14_machine.go:95", after := #[{ on := 0, ground := Go.Ground.data }], guard := none }) (v := ?_) rfl (by kernel_rfl) (by kernel_rfl) (by kernel_rfl) (by kernel_rfl) (fun _ _ _ h => h) (Or.inl ⟨by rfl, ?_⟩) (by assumption) ?_
  rotate_left
  · intro w hSw
    (try dsimp only at hSw)
    go_simp
    (try with_reducible rfl)
  try simp only [Act.put, List.setIfInBounds_toArray, List.set_cons_zero, List.set_cons_succ]
  refine wpAnyM_take (i := 2) (oi := { dst := some 26, op := Go.Op.fieldAddr 66 (Go.Operand.tmp 25) 0, type := 0, pos := "l14_machine.go:95", after := #[{ on := 1, ground := Go.Ground.data }], guard := none }) (v := ?_) rfl (by kernel_rfl) (by kernel_rfl) (by kernel_rfl) (by kernel_rfl) (fun _ _ _ h => h) (Or.inl ⟨by rfl, ?_⟩) (by assumption) ?_
  rotate_left
  · intro w hSw
    (try dsimp only at hSw)
    go_simp
    (try with_reducible rfl)
  try simp only [Act.put, List.setIfInBounds_toArray, List.set_cons_zero, List.set_cons_succ]
  refine wpAnyM_take (i := 3) (oi := { dst := some 27, op := Go.Op.load 39 (Go.Operand.tmp 26), type := 39, pos := "l14_machine.go:95", after := #[{ on := 2, ground := Go.Ground.data }], guard := none }) (v := ?_) rfl (by kernel_rfl) (by kernel_rfl) (by kernel_rfl) (by kernel_rfl) (fun _ _ _ h => h) (Or.inl ⟨by rfl, ?_⟩) (by assumption) ?_
  rotate_left
  · intro w hSw
    (try dsimp only at hSw)
    go_simp
    (try with_reducible rfl)
  try simp only [Act.put, List.setIfInBounds_toArray, List.set_cons_zero, List.set_cons_succ]
  refine wpAnyM_take (i := 4) (oi := { dst := some 28, op := Go.Op.fieldAddr 25 (Go.Operand.tmp 3) 1, type := 0, pos := "l14_machine.go:95", after := #[], guard := none }) (v := ?_) rfl (by kernel_rfl) (by kernel_rfl) (by kernel_rfl) (by kernel_rfl) (fun _ _ _ h => h) (Or.inl ⟨by rfl, ?_⟩) (by assumption) ?_
  rotate_left
  · intro w hSw
    (try dsimp only at hSw)
    go_simp
    (try with_reducible rfl)
  try simp only [Act.put, List.setIfInBounds_toArray, List.set_cons_zero, List.set_cons_succ]
  refine wpAnyM_take (i := 5) (oi := { dst := some 29, op := Go.Op.load 3 (Go.Operand.tmp 28), type := 3, pos := "l14_machine.go:95", after := #[{ on := 4, ground := Go.Ground.data }], guard := none }) (v := ?_) rfl (by kernel_rfl) (by kernel_rfl) (by kernel_rfl) (by kernel_rfl) (fun _ _ _ h => h) (Or.inl ⟨by rfl, ?_⟩) (by assumption) ?_
  rotate_left
  · intro w hSw
    (try dsimp only at hSw)
    go_simp
    (try with_reducible rfl)
  try simp only [Act.put, List.setIfInBounds_toArray, List.set_cons_zero, List.set_cons_succ]
  refine wpAnyM_take (i := 6) (oi := { dst := some 30, op := Go.Op.fieldAddr 25 (Go.Operand.tmp 3) 0, type := 0, pos := "l14_machine.go:95", after := #[], guard := none }) (v := ?_) rfl (by kernel_rfl) (by kernel_rfl) (by kernel_rfl) (by kernel_rfl) (fun _ _ _ h => h) (Or.inl ⟨by rfl, ?_⟩) (by assumption) ?_
  rotate_left
  · intro w hSw
    (try dsimp only at hSw)
    go_simp
    (try with_reducible rfl)
  try simp only [Act.put, List.setIfInBounds_toArray, List.set_cons_zero, List.set_cons_succ]
  refine wpAnyM_take (i := 7) (oi := { dst := some 31, op := Go.Op.load 3 (Go.Operand.tmp 30), type := 3, pos := "l14_machine.go:95", after := #[{ on := 6, ground := Go.Ground.data }], guard := none }) (v := ?_) rfl (by kernel_rfl) (by kernel_rfl) (by kernel_rfl) (by kernel_rfl) (fun _ _ _ h => h) (Or.inl ⟨by rfl, ?_⟩) (by assumption) ?_
  rotate_left
  · intro w hSw
    (try dsimp only at hSw)
    go_simp
    (try with_reducible rfl)
  try simp only [Act.put, List.setIfInBounds_toArray, List.set_cons_zero, List.set_cons_succ]
  refine wpAnyM_take (i := 8) (oi := { dst := some 32, op := Go.Op.binOp Go.BinOp.sub 3 (Go.Operand.tmp 31) (Go.Operand.const (Go.Value.int Go.IntKind.i64 11)) 3, type := 3, pos := "l14_machine.go:95", after := #[{ on := 7, ground := Go.Ground.data }], guard := none }) (v := ?_) rfl (by kernel_rfl) (by kernel_rfl) (by kernel_rfl) (by kernel_rfl) (fun _ _ _ h => h) (Or.inl ⟨by rfl, ?_⟩) (by assumption) ?_
  rotate_left
  · intro w hSw
    (try dsimp only at hSw)
    go_simp
    (try with_reducible rfl)
  try simp only [Act.put, List.setIfInBounds_toArray, List.set_cons_zero, List.set_cons_succ]
  refine wpAnyM_take (i := 9) (oi := { dst := some 33, op := Go.Op.move (Go.Operand.tmp 5), type := 3, pos := "l14_machine.go:95", after := #[], guard := none }) (v := ?_) rfl (by kernel_rfl) (by kernel_rfl) (by kernel_rfl) (by kernel_rfl) (fun _ _ _ h => h) (Or.inl ⟨by rfl, ?_⟩) (by assumption) ?_
  rotate_left
  · intro w hSw
    (try dsimp only at hSw)
    go_simp
    (try with_reducible rfl)
  try simp only [Act.put, List.setIfInBounds_toArray, List.set_cons_zero, List.set_cons_succ]
  refine wpAnyM_take (i := 10) (oi := { dst := some 34, op := Go.Op.move (Go.Operand.tmp 0), type := 62, pos := "l14_machine.go:95", after := #[], guard := none }) (v := ?_) rfl (by kernel_rfl) (by kernel_rfl) (by kernel_rfl) (by kernel_rfl) (fun _ _ _ h => h) (Or.inl ⟨by rfl, ?_⟩) (by assumption) ?_
  rotate_left
  · intro w hSw
    (try dsimp only at hSw)
    go_simp
    (try with_reducible rfl)
  try simp only [Act.put, List.setIfInBounds_toArray, List.set_cons_zero, List.set_cons_succ]
  refine wpAnyM_take (i := 11) (oi := { dst := some 35, op := Go.Op.nilCheck (Go.Operand.tmp 34), type := 0, pos := "l14_machine.go:95", after := #[{ on := 10, ground := Go.Ground.data }], guard := none }) (v := ?_) rfl (by kernel_rfl) (by kernel_rfl) (by kernel_rfl) (by kernel_rfl) (fun _ _ _ h => h) (Or.inl ⟨by rfl, ?_⟩) (by assumption) ?_
  rotate_left
  · intro w hSw
    (try dsimp only at hSw)
    go_simp
    (try with_reducible rfl)
  try simp only [Act.put, List.setIfInBounds_toArray, List.set_cons_zero, List.set_cons_succ]
  refine wpAnyM_take (i := 12) (oi := { dst := some 36, op := Go.Op.fieldAddr 66 (Go.Operand.tmp 35) 0, type := 0, pos := "l14_machine.go:95", after := #[{ on := 11, ground := Go.Ground.data }], guard := none }) (v := ?_) rfl (by kernel_rfl) (by kernel_rfl) (by kernel_rfl) (by kernel_rfl) (fun _ _ _ h => h) (Or.inl ⟨by rfl, ?_⟩) (by assumption) ?_
  rotate_left
  · intro w hSw
    (try dsimp only at hSw)
    go_simp
    (try with_reducible rfl)
  try simp only [Act.put, List.setIfInBounds_toArray, List.set_cons_zero, List.set_cons_succ]
  refine wpAnyM_take (i := 13) (oi := { dst := some 37, op := Go.Op.load 39 (Go.Operand.tmp 36), type := 39, pos := "l14_machine.go:95", after := #[{ on := 12, ground := Go.Ground.data }], guard := none }) (v := ?_) rfl (by kernel_rfl) (by kernel_rfl) (by kernel_rfl) (by kernel_rfl) (fun _ _ _ h => h) (Or.inl ⟨by rfl, ?_⟩) (by assumption) ?_
  rotate_left
  · intro w hSw
    (try dsimp only at hSw)
    go_simp
    (try with_reducible rfl)
  try simp only [Act.put, List.setIfInBounds_toArray, List.set_cons_zero, List.set_cons_succ]
  refine wpAnyM_take (i := 14) (oi := { dst := some 38, op := Go.Op.fieldAddr 25 (Go.Operand.tmp 3) 3, type := 0, pos := "l14_machine.go:95", after := #[], guard := none }) (v := ?_) rfl (by kernel_rfl) (by kernel_rfl) (by kernel_rfl) (by kernel_rfl) (fun _ _ _ h => h) (Or.inl ⟨by rfl, ?_⟩) (by assumption) ?_
  rotate_left
  · intro w hSw
    (try dsimp only at hSw)
    go_simp
    (try with_reducible rfl)
  try simp only [Act.put, List.setIfInBounds_toArray, List.set_cons_zero, List.set_cons_succ]
  refine wpAnyM_take (i := 15) (oi := { dst := some 39, op := Go.Op.load 3 (Go.Operand.tmp 38), type := 3, pos := "l14_machine.go:95", after := #[{ on := 14, ground := Go.Ground.data }], guard := none }) (v := ?_) rfl (by kernel_rfl) (by kernel_rfl) (by kernel_rfl) (by kernel_rfl) (fun _ _ _ h => h) (Or.inl ⟨by rfl, ?_⟩) (by assumption) ?_
  rotate_left
  · intro w hSw
    (try dsimp only at hSw)
    go_simp
    (try with_reducible rfl)
  try simp only [Act.put, List.setIfInBounds_toArray, List.set_cons_zero, List.set_cons_succ]
  refine wpAnyM_take (i := 16) (oi := { dst := some 40, op := Go.Op.indexAddr 39 (Go.Operand.tmp 37) (Go.Operand.tmp 39), type := 0, pos := "l14_machine.go:95", after := #[{ on := 13, ground := Go.Ground.data }, { on := 15, ground := Go.Ground.data }], guard := none }) (v := ?_) rfl (by kernel_rfl) (by kernel_rfl) (by kernel_rfl) (by kernel_rfl) (fun _ _ _ h => h) (Or.inl ⟨by rfl, ?_⟩) (by assumption) ?_
  rotate_left
  · intro w hSw
    (try dsimp only at hSw)
    go_simp
    (try with_reducible rfl)
  try simp only [Act.put, List.setIfInBounds_toArray, List.set_cons_zero, List.set_cons_succ]
  refine wpAnyM_take (i := 17) (oi := { dst := some 41, op := Go.Op.load 3 (Go.Operand.tmp 40), type := 3, pos := "l14_machine.go:95", after := #[{ on := 16, ground := Go.Ground.data }], guard := none }) (v := ?_) rfl (by kernel_rfl) (by kernel_rfl) (by kernel_rfl) (by kernel_rfl) (fun _ _ _ h => h) (Or.inl ⟨by rfl, ?_⟩) (by assumption) ?_
  rotate_left
  · intro w hSw
    (try dsimp only at hSw)
    go_simp
    (try with_reducible rfl)
  try simp only [Act.put, List.setIfInBounds_toArray, List.set_cons_zero, List.set_cons_succ]
  refine cmAnyM_oneK (i := 18) (o := { dst := some 42, op := Go.Op.call { callee := Go.Callee.value (Go.Operand.func 47), args := #[Go.Operand.tmp 32, Go.Operand.tmp 33, Go.Operand.tmp 41], argTypes := #[3, 3, 3] }, type := 3, pos := "l14_machine.go:95", after := #[{ on := 8, ground := Go.Ground.data }, { on := 9, ground := Go.Ground.data }, { on := 17, ground := Go.Ground.data }], guard := none }) rfl rfl (by kernel_rfl) (fun K9 hK9 => ?_)
  refine wp_call_of (f := 47) (args := #[.int .i64 (op - 11), .int .i64 y, .int .i64 z]) (by go_simp) (spec_word (op - 11) y z _) ?_
  rintro e w4 ⟨rfl, hw4⟩
  replace hw4 := hw4.symm
  subst hw4
  refine ⟨_, rfl, ?_⟩
  refine hK9 _ _ ⟨fun _ => hHeld, ?_⟩
  clear hK9
  simp only [Act.put, List.setIfInBounds_toArray, List.set_cons_zero, List.set_cons_succ]
  refine wpAnyM_take (i := 19) (oi := { dst := some 43, op := Go.Op.indexAddr 39 (Go.Operand.tmp 27) (Go.Operand.tmp 29), type := 0, pos := "l14_machine.go:95", after := #[{ on := 3, ground := Go.Ground.data }, { on := 5, ground := Go.Ground.data }, { on := 0, ground := Go.Ground.phase }, { on := 1, ground := Go.Ground.phase }, { on := 2, ground := Go.Ground.phase }, { on := 3, ground := Go.Ground.phase }, { on := 4, ground := Go.Ground.phase }, { on := 5, ground := Go.Ground.phase }, { on := 6, ground := Go.Ground.phase }, { on := 7, ground := Go.Ground.phase }, { on := 8, ground := Go.Ground.phase }, { on := 9, ground := Go.Ground.phase }, { on := 10, ground := Go.Ground.phase }, { on := 11, ground := Go.Ground.phase }, { on := 12, ground := Go.Ground.phase }, { on := 13, ground := Go.Ground.phase }, { on := 14, ground := Go.Ground.phase }, { on := 15, ground := Go.Ground.phase }, { on := 16, ground := Go.Ground.phase }, { on := 17, ground := Go.Ground.phase }, { on := 18, ground := Go.Ground.phase }], guard := none }) (v := ?_) rfl (by kernel_rfl) (by kernel_rfl) (by kernel_rfl) (by kernel_rfl) (fun _ _ _ h => h) (Or.inl ⟨by rfl, ?_⟩) (by assumption) ?_
  rotate_left
  · intro w hSw
    (try dsimp only at hSw)
    go_simp
    (try with_reducible rfl)
  try simp only [Act.put, List.setIfInBounds_toArray, List.set_cons_zero, List.set_cons_succ]
  refine cmAnyM_oneK (i := 20) (o := { dst := none, op := Go.Op.store 3 (Go.Operand.tmp 43) (Go.Operand.tmp 42), type := 0, pos := "l14_machine.go:95", after := #[{ on := 19, ground := Go.Ground.data }, { on := 18, ground := Go.Ground.data }, { on := 18, ground := Go.Ground.chain }, { on := 0, ground := Go.Ground.phase }, { on := 1, ground := Go.Ground.phase }, { on := 2, ground := Go.Ground.phase }, { on := 3, ground := Go.Ground.phase }, { on := 4, ground := Go.Ground.phase }, { on := 5, ground := Go.Ground.phase }, { on := 6, ground := Go.Ground.phase }, { on := 7, ground := Go.Ground.phase }, { on := 8, ground := Go.Ground.phase }, { on := 9, ground := Go.Ground.phase }, { on := 10, ground := Go.Ground.phase }, { on := 11, ground := Go.Ground.phase }, { on := 12, ground := Go.Ground.phase }, { on := 13, ground := Go.Ground.phase }, { on := 14, ground := Go.Ground.phase }, { on := 15, ground := Go.Ground.phase }, { on := 16, ground := Go.Ground.phase }, { on := 17, ground := Go.Ground.phase }, { on := 18, ground := Go.Ground.phase }], guard := none }) rfl rfl (by kernel_rfl) (fun K9 hK9 => ?_)
  go_simp
  refine hK9 _ _ ⟨fun h => absurd rfl h, wpAnyM_done (by kernel_rfl) ?_ _⟩
  clear hK9
  simp only [noThrow, Exit.inBlock, Exit.then]
  go_at_K
  go_wp2_with fail
  go_ret
  rw [HY.out, HZ.out]
  exact ⟨rfl, P, rg, sg, vb, vc, cb, cc, rv, rb, tb, tc, pb, pc, (HH.out.drew.drew).setReg hd _⟩

end
end Go.Proofs.YtebcocehdjoafaaDoor
