/- The model's l14Step, for each kind of step: what is told and what is read. -/
import Derived.Test.YtebcocehdjoafaaDoorMsMem
import Derived.Test.YtebcocehdjoafaaDoorMaI2
import Derived.Test.YtebcocehdjoafaaDoorHmIn
namespace Go.Proofs.YtebcocehdjoafaaDoor
open Go.ChangeShapes Go.WideShapes Go.ChangeAt Go.RowKit Go.Shelf
set_option linter.unusedVariables false

theorem wp_append_locM {P : Program} {o : Oper} {a : Act} {w : World} {K : Act → World → Prop} {Q : Exit → Act → World → Prop}
    (s x : Operand) (t : TypeId) (hop : o.op = Op.call { callee := Callee.builtin Builtin.append, args := #[s, x], argTypes := #[t, t] })
    (base : Nat) (e : TypeId) (i : TypeInfo) (z : Value) (size bytes : Nat) (h1 : P.underlying t = some (.slice e)) (h2 : P.info? e = some i) (h3 : i.zero = some z) (h4 : i.size = size) (h5 : i.bytes = bytes) (h6 : z.cells.size = size) (h7 : 0 < size)
    (v : Value) (k : Nat) (xs : List Value) (hs : a.eval s = v) (hown : w.ownsRow base e size v k xs) (ad : Addr) (m c : Nat) (news : List Value) (hx : a.eval x = .slice (some ad) m c) (hn : news.length = m * size)
    (hc : ∀ j u, news[j]? = some u → w.cell? (ad.add j) = some u) (h1c : ∀ u ∈ news, u.oneCell' = true) (b1 : k + m ≤ maxLen) (b2 : (k + m) * bytes ≤ 140737488355328) (b3 : base ≤ w.heap.size)
    (hK : ∀ v' w', w'.ownsRow base e size v' (k + m) (xs ++ news) → w.grownBy w' v.ownBlock → (v'.ownBlock = v.ownBlock ∨ v'.ownBlock = some w.heap.size) → K (a.put o.dst v') w') : Oper.wp P o a w K Q := by
  obtain ⟨v', w', hrun, r1, r2, r3, r4⟩ := run_append_own_at (P := P) w base t o.type e i z size bytes h1 h2 h3 h4 h5 h6 h7 v k xs hown ad m c news hn hc h1c b1 b2 b3
  unfold Oper.wp
  simp [execOp, hop, resolve, invoke, builtin, hs, hx, hrun, Result.andThen]
  exact hK v' w' r1 r2 r4
theorem updN_twice (f : Nat → Int) (d : Nat) (x y : Int) : updN (updN f d x) d y = updN f d y := by
  funext i
  unfold updN
  split <;> rfl

section
variable {W0 : World} {T : Nat} {m : MacS}

set_option maxRecDepth 100000 in
set_option maxHeartbeats 4000000 in
theorem ts_out (a : Nat) (ha : a < 8) (hl : m.told.length ≤ 40000) (w : World) (h : TIs W0 w T m) (hpc : m.pc ≤ 900) :
    Calls Tryd.prog 39 #[.pointer (some ⟨T, 0, none⟩), .agg #[.int .i64 7, .int .i64 0, .int .i64 (a : Int), .int .i64 0, .int .i64 0]] w fun e w' => e = .returned (.int .i64 0) ∧ TIs W0 w' T { m with pc := m.pc + 1, told := m.told ++ [m.regs a] } := by
  obtain ⟨P, rg, sg, vb, vc, cb, cc, rv, rb, tb, tc, pb, pc, h⟩ := h
  have HH0 : Hid (TAt W0 w T P m rg sg vb vc cb cc rv rb tb tc pb pc) := h
  have t3 := h.cell.2.2.2
  have ft := h.frozen 3
  have hTl := h.lt
  obtain ⟨pn, HPN⟩ : ∃ p, Hid (m.pc = p) := ⟨_, rfl⟩
  rw [HPN.out] at t3 hpc
  clear h
  go_enter Tryd.func39, Tryd.ntmps39
  go_wp2_with fail
  obtain ⟨w1, hw1⟩ : ∃ W, (w.setCell ⟨T, 3, none⟩ (.int .i64 ((pn : Int) + 1))).alloc (.cells #[.int .i64 7, .int .i64 0, .int .i64 (a : Int), .int .i64 0, .int .i64 0] 25) = W := ⟨_, rfl⟩
  have h1 : TAt W0 w1 T P { m with pc := m.pc + 1 } rg sg vb vc cb cc rv rb tb tc pb pc := by
    have h3 := (HH0.out.setPc (m.pc + 1)).later (Bel.alloc _ (.cells #[.int .i64 7, .int .i64 0, .int .i64 (a : Int), .int .i64 0, .int .i64 0] 25))
    have e : ((m.pc + 1 : Nat) : Int) = (pn : Int) + 1 := by rw [HPN.out]; rfl
    rw [e, hw1] at h3
    exact h3
  have bx : w1.heap[w.heap.size]? = some (.cells #[.int .i64 7, .int .i64 0, .int .i64 (a : Int), .int .i64 0, .int .i64 0] 25 (0, 0)) := by
    rw [← hw1]
    exact heap_last (by simp)
  rw [hw1]
  clear hw1 t3 ft hTl
  generalize w.heap.size = B at bx ⊢
  have x0 : w1.cell? ⟨B, 0, none⟩ = some (.int .i64 7) := by simp [World.cell?, bx]
  have x1 : w1.cell? ⟨B, 1, none⟩ = some (.int .i64 0) := by simp [World.cell?, bx]
  have x2 : w1.cell? ⟨B, 2, none⟩ = some (.int .i64 (a : Int)) := by simp [World.cell?, bx]
  have x3 : w1.cell? ⟨B, 3, none⟩ = some (.int .i64 0) := by simp [World.cell?, bx]
  have x4 : w1.cell? ⟨B, 4, none⟩ = some (.int .i64 0) := by simp [World.cell?, bx]
  have hBr : rg ≠ B := (not_row bx (by decide) h1.regs.heapOf).symm
  have hBs : sg ≠ B := (not_row bx (by decide) h1.slots.heapOf).symm
  have hBc : cb ≠ B := (not_row bx (by decide) h1.s.cells.heapOf).symm
  have hrT : rg ≠ T := h1.hTr.symm
  have hsT : sg ≠ T := h1.hTs.symm
  have hcT : cb ≠ T := h1.hTc.symm
  have hrP : rg ≠ P := h1.hPr.symm
  obtain ⟨p0, p1, p2, p3⟩ := h1.cell
  obtain ⟨_, u1, u2, u3, _, _⟩ := h1.s.cell
  have fr : ∀ i, w1.frozen? ⟨rg, i, none⟩ = false := fun i => frozen_of_cells h1.regs.heapOf i
  have fs : ∀ i, w1.frozen? ⟨sg, i, none⟩ = false := fun i => frozen_of_cells h1.slots.heapOf i
  have fc : ∀ i, w1.frozen? ⟨cb, i, none⟩ = false := fun i => frozen_of_cells h1.s.cells.heapOf i
  have fT : w1.frozen? ⟨T, 3, none⟩ = false := h1.frozen 3
  have HH : Hid (TAt W0 w1 T P { m with pc := m.pc + 1 } rg sg vb vc cb cc rv rb tb tc pb pc) := h1
  have HBX : Hid (w1.heap[B]? = some (.cells #[.int .i64 7, .int .i64 0, .int .i64 (a : Int), .int .i64 0, .int .i64 0] 25 (0, 0))) := bx
  have ca := h1.regAt (i := a) ha
  obtain ⟨y, HY⟩ : ∃ y, Hid (m.regs a = y) := ⟨_, rfl⟩
  rw [show ({ m with pc := m.pc + 1 } : MacS).regs a = y from HY.out] at ca
  obtain ⟨tn, HTN⟩ : ∃ n, Hid (m.told.length = n) := ⟨_, rfl⟩
  rw [show (msR { m with pc := m.pc + 1 }).told.length = tn from HTN.out] at u3
  rw [HTN.out] at hl
  obtain ⟨i0, hi, hz0, hz1, hz2⟩ := info_parts info_int
  have hmx : 100000 ≤ maxLen := by decide
  have ha2 : (a : Int) < 8 := by omega
  clear h1 bx
  go_region_held3 (fun w' => w'.cell? ⟨T, 0, none⟩ = some (.slice (some ⟨rg, 0, none⟩) 8 8) ∧ w'.cell? ⟨B, 2, none⟩ = some (.int .i64 (a : Int)) ∧ w'.cell? ⟨rg, a, none⟩ = some (.int .i64 y)) (go_keep) (fail)
  simp only [Exit.then]
  go_at_K
  go_wp2_with fail
  have hHeld : (fun w' => w'.cell? ⟨T, 2, none⟩ = some (.pointer (some ⟨P, 0, none⟩)) ∧ w'.cell? ⟨P, 3, none⟩ = some (.slice (some ⟨tb, 0, none⟩) tn tc)) w1.drew.drew := ⟨p2, u3⟩
  have h2 : TAt W0 w1.drew.drew T P { m with pc := m.pc + 1 } rg sg vb vc cb cc rv rb tb tc pb pc := HH.out.drew.drew
  refine wp_noThrow (region_M 16 (fun w' => w'.cell? ⟨T, 2, none⟩ = some (.pointer (some ⟨P, 0, none⟩)) ∧ w'.cell? ⟨P, 3, none⟩ = some (.slice (some ⟨tb, 0, none⟩) tn tc)) (by kernel_rfl) ?_)
  generalize w1.drew.drew = w2 at hHeld h2 ⊢
  have H2 : Hid (TAt W0 w2 T P { m with pc := m.pc + 1 } rg sg vb vc cb cc rv rb tb tc pb pc) := h2
  have hTl := h2.lt
  have hPl := h2.s.lt
  have HT9 : Hid (OwnInts w2 W0.heap.size (.slice (some ⟨tb, 0, none⟩) tn tc) m.told) := by
    have := h2.s.told
    rw [show (msR { m with pc := m.pc + 1 }).told.length = tn from HTN.out] at this
    exact this
  clear h2
  refine wpAnyM_take (i := 0) (oi := { dst := some 138, op := Go.Op.move (Go.Operand.tmp 0), type := 62, pos := "l14_machine.go:81", after := #[], guard := none }) (v := ?_) rfl (by kernel_rfl) (by kernel_rfl) (by kernel_rfl) (by kernel_rfl) (fun _ _ _ h => h) (Or.inl ⟨by rfl, ?_⟩) (by assumption) ?_
  rotate_left
  · intro w hSw
    (try dsimp only at hSw)
    go_simp
    (try with_reducible rfl)
  try simp only [Act.put, List.setIfInBounds_toArray, List.set_cons_zero, List.set_cons_succ]
  refine wpAnyM_take (i := 1) (oi := { dst := some 139, op := Go.Op.nilCheck (Go.Operand.tmp 138), type := 0, pos := "l14_machine.go:81", after := #[{ on := 0, ground := Go.Ground.data }], guard := none }) (v := ?_) rfl (by kernel_rfl) (by kernel_rfl) (by kernel_rfl) (by kernel_rfl) (fun _ _ _ h => h) (Or.inl ⟨by rfl, ?_⟩) (by assumption) ?_
  rotate_left
  · intro w hSw
    (try dsimp only at hSw)
    go_simp
    (try with_reducible rfl)
  try simp only [Act.put, List.setIfInBounds_toArray, List.set_cons_zero, List.set_cons_succ]
  refine wpAnyM_take (i := 2) (oi := { dst := some 140, op := Go.Op.fieldAddr 66 (Go.Operand.tmp 139) 2, type := 0, pos := "l14_machine.go:81", after := #[{ on := 1, ground := Go.Ground.data }], guard := none }) (v := ?_) rfl (by kernel_rfl) (by kernel_rfl) (by kernel_rfl) (by kernel_rfl) (fun _ _ _ h => h) (Or.inl ⟨by rfl, ?_⟩) (by assumption) ?_
  rotate_left
  · intro w hSw
    (try dsimp only at hSw)
    go_simp
    (try with_reducible rfl)
  try simp only [Act.put, List.setIfInBounds_toArray, List.set_cons_zero, List.set_cons_succ]
  refine wpAnyM_take (i := 3) (oi := { dst := some 141, op := Go.Op.load 63 (Go.Operand.tmp 140), type := 63, pos := "l14_machine.go:81", after := #[{ on := 2, ground := Go.Ground.data }], guard := none }) (v := ?_) rfl (by kernel_rfl) (by kernel_rfl) (by kernel_rfl) (by kernel_rfl) (fun _ _ _ h => h) (Or.inl ⟨by rfl, ?_⟩) (by assumption) ?_
  rotate_left
  · intro w hSw
    (try dsimp only at hSw)
    go_simp
    (try with_reducible rfl)
  try simp only [Act.put, List.setIfInBounds_toArray, List.set_cons_zero, List.set_cons_succ]
  refine wpAnyM_take (i := 4) (oi := { dst := some 142, op := Go.Op.move (Go.Operand.tmp 0), type := 62, pos := "l14_machine.go:81", after := #[], guard := none }) (v := ?_) rfl (by kernel_rfl) (by kernel_rfl) (by kernel_rfl) (by kernel_rfl) (fun _ _ _ h => h) (Or.inl ⟨by rfl, ?_⟩) (by assumption) ?_
  rotate_left
  · intro w hSw
    (try dsimp only at hSw)
    go_simp
    (try with_reducible rfl)
  try simp only [Act.put, List.setIfInBounds_toArray, List.set_cons_zero, List.set_cons_succ]
  refine wpAnyM_take (i := 5) (oi := { dst := some 143, op := Go.Op.nilCheck (Go.Operand.tmp 142), type := 0, pos := "l14_machine.go:81", after := #[{ on := 4, ground := Go.Ground.data }], guard := none }) (v := ?_) rfl (by kernel_rfl) (by kernel_rfl) (by kernel_rfl) (by kernel_rfl) (fun _ _ _ h => h) (Or.inl ⟨by rfl, ?_⟩) (by assumption) ?_
  rotate_left
  · intro w hSw
    (try dsimp only at hSw)
    go_simp
    (try with_reducible rfl)
  try simp only [Act.put, List.setIfInBounds_toArray, List.set_cons_zero, List.set_cons_succ]
  refine wpAnyM_take (i := 6) (oi := { dst := some 144, op := Go.Op.fieldAddr 66 (Go.Operand.tmp 143) 2, type := 0, pos := "l14_machine.go:81", after := #[{ on := 5, ground := Go.Ground.data }], guard := none }) (v := ?_) rfl (by kernel_rfl) (by kernel_rfl) (by kernel_rfl) (by kernel_rfl) (fun _ _ _ h => h) (Or.inl ⟨by rfl, ?_⟩) (by assumption) ?_
  rotate_left
  · intro w hSw
    (try dsimp only at hSw)
    go_simp
    (try with_reducible rfl)
  try simp only [Act.put, List.setIfInBounds_toArray, List.set_cons_zero, List.set_cons_succ]
  refine wpAnyM_take (i := 7) (oi := { dst := some 145, op := Go.Op.load 63 (Go.Operand.tmp 144), type := 63, pos := "l14_machine.go:81", after := #[{ on := 6, ground := Go.Ground.data }], guard := none }) (v := ?_) rfl (by kernel_rfl) (by kernel_rfl) (by kernel_rfl) (by kernel_rfl) (fun _ _ _ h => h) (Or.inl ⟨by rfl, ?_⟩) (by assumption) ?_
  rotate_left
  · intro w hSw
    (try dsimp only at hSw)
    go_simp
    (try with_reducible rfl)
  try simp only [Act.put, List.setIfInBounds_toArray, List.set_cons_zero, List.set_cons_succ]
  refine wpAnyM_take (i := 8) (oi := { dst := some 146, op := Go.Op.nilCheck (Go.Operand.tmp 145), type := 0, pos := "l14_machine.go:81", after := #[{ on := 7, ground := Go.Ground.data }], guard := none }) (v := ?_) rfl (by kernel_rfl) (by kernel_rfl) (by kernel_rfl) (by kernel_rfl) (fun _ _ _ h => h) (Or.inl ⟨by rfl, ?_⟩) (by assumption) ?_
  rotate_left
  · intro w hSw
    (try dsimp only at hSw)
    go_simp
    (try with_reducible rfl)
  try simp only [Act.put, List.setIfInBounds_toArray, List.set_cons_zero, List.set_cons_succ]
  refine wpAnyM_take (i := 9) (oi := { dst := some 147, op := Go.Op.fieldAddr 69 (Go.Operand.tmp 146) 3, type := 0, pos := "l14_machine.go:81", after := #[{ on := 8, ground := Go.Ground.data }], guard := none }) (v := ?_) rfl (by kernel_rfl) (by kernel_rfl) (by kernel_rfl) (by kernel_rfl) (fun _ _ _ h => h) (Or.inl ⟨by rfl, ?_⟩) (by assumption) ?_
  rotate_left
  · intro w hSw
    (try dsimp only at hSw)
    go_simp
    (try with_reducible rfl)
  try simp only [Act.put, List.setIfInBounds_toArray, List.set_cons_zero, List.set_cons_succ]
  refine wpAnyM_take (i := 10) (oi := { dst := some 148, op := Go.Op.load 39 (Go.Operand.tmp 147), type := 39, pos := "l14_machine.go:81", after := #[{ on := 9, ground := Go.Ground.data }], guard := none }) (v := ?_) rfl (by kernel_rfl) (by kernel_rfl) (by kernel_rfl) (by kernel_rfl) (fun _ _ _ h => h) (Or.inl ⟨by rfl, ?_⟩) (by assumption) ?_
  rotate_left
  · intro w hSw
    (try dsimp only at hSw)
    go_simp
    (try with_reducible rfl)
  try simp only [Act.put, List.setIfInBounds_toArray, List.set_cons_zero, List.set_cons_succ]
  refine wpAnyM_take (i := 11) (oi := { dst := some 149, op := Go.Op.move (Go.Operand.tmp 5), type := 3, pos := "l14_machine.go:81", after := #[], guard := none }) (v := ?_) rfl (by kernel_rfl) (by kernel_rfl) (by kernel_rfl) (by kernel_rfl) (fun _ _ _ h => h) (Or.inl ⟨by rfl, ?_⟩) (by assumption) ?_
  rotate_left
  · intro w hSw
    (try dsimp only at hSw)
    go_simp
    (try with_reducible rfl)
  try simp only [Act.put, List.setIfInBounds_toArray, List.set_cons_zero, List.set_cons_succ]
  refine cmAnyM_oneK (i := 12) (o := { dst := some 150, op := Go.Op.buildSlice 39 1 #[(0, Go.Operand.tmp 149)], type := 39, pos := "l14_machine.go:81", after := #[{ on := 11, ground := Go.Ground.data }], guard := none }) rfl rfl (by kernel_rfl) (fun K9 hK9 => ?_)
  go_simp
  have hS3 : (fun w' => w'.cell? ⟨T, 2, none⟩ = some (.pointer (some ⟨P, 0, none⟩)) ∧ w'.cell? ⟨P, 3, none⟩ = some (.slice (some ⟨tb, 0, none⟩) tn tc)) (w2.alloc (.cells #[.int .i64 y] 3)) := ⟨Bel.keeps (Bel.alloc _ _) hHeld.1, Bel.keeps (Bel.alloc _ _) hHeld.2⟩
  refine hK9 _ _ ⟨fun _ => hS3, ?_⟩
  clear hK9
  refine cmAnyM_oneK (i := 13) (o := { dst := some 151, op := Go.Op.call { callee := Go.Callee.builtin Go.Builtin.append, args := #[Go.Operand.tmp 148, Go.Operand.tmp 150], argTypes := #[39, 39] }, type := 39, pos := "l14_machine.go:81", after := #[{ on := 10, ground := Go.Ground.data }, { on := 12, ground := Go.Ground.data }], guard := none }) rfl rfl (by kernel_rfl) (fun K9 hK9 => ?_)
  have hown2 : (w2.alloc (.cells #[.int .i64 y] 3)).ownsRow W0.heap.size 3 1 (.slice (some ⟨tb, 0, none⟩) tn tc) tn (m.told.map (fun x => Value.int .i64 x)) := by
    have := World.ownsRow.alloc HT9.out (.cells #[.int .i64 y] 3)
    rw [HTN.out] at this
    exact this
  refine wp_append_locM (.tmp 148) (.tmp 150) 39 rfl W0.heap.size 3 i0 (.int .i64 0) 1 8 Tryd.underlying39 hi hz0 hz1 hz2 rfl (by decide) (.slice (some ⟨tb, 0, none⟩) tn tc) tn (m.told.map (fun x => Value.int .i64 x)) (by simp [Act.eval]) hown2 ⟨w2.heap.size, 0, none⟩ 1 1 [.int .i64 y] (by simp [Act.eval]) rfl (cell_one_new _ _ _) (by simp [Value.oneCell']) (by omega) (by omega) (by have := H2.out.below.size; simp; omega) ?_
  intro v' wa hown' hgrow hat
  obtain ⟨g', cap', rfl⟩ := ownsRow_succ hown'
  have HO' : OwnInts wa W0.heap.size (.slice (some ⟨g', 0, none⟩) (m.told.length + 1) cap') (m.told ++ [y]) := by
    rw [HTN.out]
    refine OwnInts.next ?_
    rw [HTN.out]
    exact hown'
  have hat2 : g' = tb ∨ g' = w2.heap.size + 1 := by
    rcases hat with e | e
    · exact .inl (by simpa [Value.ownBlock] using e)
    · exact .inr (by simpa [Value.ownBlock] using e)
  obtain ⟨ea, eT, sa⟩ := H2.out.told_grown HO' hgrow hat2
  rw [show ({ m with pc := m.pc + 1 } : MacS).told.length = tn from HTN.out] at sa
  have SA : Hid (TAt W0 (wa.setCell ⟨P, 3, none⟩ (.slice (some ⟨g', 0, none⟩) (tn + 1) cap')) T P { m with pc := m.pc + 1, told := m.told ++ [y] } rg sg vb vc cb cc rv rb g' cap' pb pc) := sa
  have k2 : wa.cell? ⟨T, 2, none⟩ = some (.pointer (some ⟨P, 0, none⟩)) := (cell_of_heap eT 2).trans hHeld.1
  have k3 : wa.cell? ⟨P, 3, none⟩ = some (.slice (some ⟨tb, 0, none⟩) tn tc) := (cell_of_heap ea 3).trans hHeld.2
  have kf : wa.frozen? ⟨P, 3, none⟩ = false := frozen_of_cells ⟨_, ea.trans H2.out.s.box⟩ 3
  have hS4 : (fun w' => w'.cell? ⟨T, 2, none⟩ = some (.pointer (some ⟨P, 0, none⟩)) ∧ w'.cell? ⟨P, 3, none⟩ = some (.slice (some ⟨tb, 0, none⟩) tn tc)) wa := ⟨k2, k3⟩
  refine hK9 _ _ ⟨fun _ => hS4, ?_⟩
  clear hK9 hown' hgrow hat HO' sa hat2 hS3
  simp only [Act.put, List.setIfInBounds_toArray, List.set_cons_zero, List.set_cons_succ]
  refine cmAnyM_oneK (i := 14) (o := { dst := some 152, op := Go.Op.nilCheck (Go.Operand.tmp 141), type := 0, pos := "l14_machine.go:81", after := #[{ on := 3, ground := Go.Ground.data }, { on := 0, ground := Go.Ground.phase }, { on := 1, ground := Go.Ground.phase }, { on := 2, ground := Go.Ground.phase }, { on := 3, ground := Go.Ground.phase }, { on := 4, ground := Go.Ground.phase }, { on := 5, ground := Go.Ground.phase }, { on := 6, ground := Go.Ground.phase }, { on := 7, ground := Go.Ground.phase }, { on := 8, ground := Go.Ground.phase }, { on := 9, ground := Go.Ground.phase }, { on := 10, ground := Go.Ground.phase }, { on := 11, ground := Go.Ground.phase }, { on := 12, ground := Go.Ground.phase }, { on := 13, ground := Go.Ground.phase }], guard := none }) rfl rfl (by kernel_rfl) (fun K9 hK9 => ?_)
  go_simp
  refine hK9 _ _ ⟨fun _ => hS4, ?_⟩
  clear hK9
  refine cmAnyM_oneK (i := 15) (o := { dst := some 153, op := Go.Op.fieldAddr 69 (Go.Operand.tmp 152) 3, type := 0, pos := "l14_machine.go:81", after := #[{ on := 14, ground := Go.Ground.data }, { on := 0, ground := Go.Ground.phase }, { on := 1, ground := Go.Ground.phase }, { on := 2, ground := Go.Ground.phase }, { on := 3, ground := Go.Ground.phase }, { on := 4, ground := Go.Ground.phase }, { on := 5, ground := Go.Ground.phase }, { on := 6, ground := Go.Ground.phase }, { on := 7, ground := Go.Ground.phase }, { on := 8, ground := Go.Ground.phase }, { on := 9, ground := Go.Ground.phase }, { on := 10, ground := Go.Ground.phase }, { on := 11, ground := Go.Ground.phase }, { on := 12, ground := Go.Ground.phase }, { on := 13, ground := Go.Ground.phase }], guard := none }) rfl rfl (by kernel_rfl) (fun K9 hK9 => ?_)
  go_simp
  refine hK9 _ _ ⟨fun _ => hS4, ?_⟩
  clear hK9
  refine cmAnyM_oneK (i := 16) (o := { dst := none, op := Go.Op.store 39 (Go.Operand.tmp 153) (Go.Operand.tmp 151), type := 0, pos := "l14_machine.go:81", after := #[{ on := 15, ground := Go.Ground.data }, { on := 13, ground := Go.Ground.data }, { on := 13, ground := Go.Ground.chain }, { on := 0, ground := Go.Ground.phase }, { on := 1, ground := Go.Ground.phase }, { on := 2, ground := Go.Ground.phase }, { on := 3, ground := Go.Ground.phase }, { on := 4, ground := Go.Ground.phase }, { on := 5, ground := Go.Ground.phase }, { on := 6, ground := Go.Ground.phase }, { on := 7, ground := Go.Ground.phase }, { on := 8, ground := Go.Ground.phase }, { on := 9, ground := Go.Ground.phase }, { on := 10, ground := Go.Ground.phase }, { on := 11, ground := Go.Ground.phase }, { on := 12, ground := Go.Ground.phase }, { on := 13, ground := Go.Ground.phase }], guard := none }) rfl rfl (by kernel_rfl) (fun K9 hK9 => ?_)
  go_simp
  refine hK9 _ _ ⟨fun h => absurd rfl h, wpAnyM_done (by kernel_rfl) ?_ _⟩
  clear hK9
  simp only [noThrow, Exit.inBlock, Exit.then]
  go_at_K
  go_wp2_with fail
  go_ret
  rw [HY.out]
  exact ⟨rfl, _, _, _, _, _, _, _, _, _, _, _, _, _, SA.out⟩

set_option maxRecDepth 100000 in
set_option maxHeartbeats 4000000 in
theorem ts_readNo (d : Nat) (hd : d < 8) (hr : m.reads = []) (w : World) (h : TIs W0 w T m) (hpc : m.pc ≤ 900) :
    Calls Tryd.prog 39 #[.pointer (some ⟨T, 0, none⟩), .agg #[.int .i64 8, .int .i64 (d : Int), .int .i64 0, .int .i64 0, .int .i64 0]] w fun e w' => e = .returned (.int .i64 0) ∧ TIs W0 w' T { m with pc := m.pc + 1, regs := updN m.regs d 0 } := by
  obtain ⟨P, rg, sg, vb, vc, cb, cc, rv, rb, tb, tc, pb, pc, h⟩ := h
  have HH0 : Hid (TAt W0 w T P m rg sg vb vc cb cc rv rb tb tc pb pc) := h
  have t3 := h.cell.2.2.2
  have ft := h.frozen 3
  have hTl := h.lt
  obtain ⟨pn, HPN⟩ : ∃ p, Hid (m.pc = p) := ⟨_, rfl⟩
  rw [HPN.out] at t3 hpc
  clear h
  go_enter Tryd.func39, Tryd.ntmps39
  go_wp2_with fail
  obtain ⟨w1, hw1⟩ : ∃ W, (w.setCell ⟨T, 3, none⟩ (.int .i64 ((pn : Int) + 1))).alloc (.cells #[.int .i64 8, .int .i64 (d : Int), .int .i64 0, .int .i64 0, .int .i64 0] 25) = W := ⟨_, rfl⟩
  have h1 : TAt W0 w1 T P { m with pc := m.pc + 1 } rg sg vb vc cb cc rv rb tb tc pb pc := by
    have h3 := (HH0.out.setPc (m.pc + 1)).later (Bel.alloc _ (.cells #[.int .i64 8, .int .i64 (d : Int), .int .i64 0, .int .i64 0, .int .i64 0] 25))
    have e : ((m.pc + 1 : Nat) : Int) = (pn : Int) + 1 := by rw [HPN.out]; rfl
    rw [e, hw1] at h3
    exact h3
  have bx : w1.heap[w.heap.size]? = some (.cells #[.int .i64 8, .int .i64 (d : Int), .int .i64 0, .int .i64 0, .int .i64 0] 25 (0, 0)) := by
    rw [← hw1]
    exact heap_last (by simp)
  rw [hw1]
  clear hw1 t3 ft hTl
  generalize w.heap.size = B at bx ⊢
  have x0 : w1.cell? ⟨B, 0, none⟩ = some (.int .i64 8) := by simp [World.cell?, bx]
  have x1 : w1.cell? ⟨B, 1, none⟩ = some (.int .i64 (d : Int)) := by simp [World.cell?, bx]
  have x2 : w1.cell? ⟨B, 2, none⟩ = some (.int .i64 0) := by simp [World.cell?, bx]
  have x3 : w1.cell? ⟨B, 3, none⟩ = some (.int .i64 0) := by simp [World.cell?, bx]
  have x4 : w1.cell? ⟨B, 4, none⟩ = some (.int .i64 0) := by simp [World.cell?, bx]
  have hBr : rg ≠ B := (not_row bx (by decide) h1.regs.heapOf).symm
  have hBs : sg ≠ B := (not_row bx (by decide) h1.slots.heapOf).symm
  have hBc : cb ≠ B := (not_row bx (by decide) h1.s.cells.heapOf).symm
  have hrT : rg ≠ T := h1.hTr.symm
  have hsT : sg ≠ T := h1.hTs.symm
  have hcT : cb ≠ T := h1.hTc.symm
  have hrP : rg ≠ P := h1.hPr.symm
  obtain ⟨p0, p1, p2, p3⟩ := h1.cell
  obtain ⟨_, u1, u2, u3, _, _⟩ := h1.s.cell
  have fr : ∀ i, w1.frozen? ⟨rg, i, none⟩ = false := fun i => frozen_of_cells h1.regs.heapOf i
  have fs : ∀ i, w1.frozen? ⟨sg, i, none⟩ = false := fun i => frozen_of_cells h1.slots.heapOf i
  have fc : ∀ i, w1.frozen? ⟨cb, i, none⟩ = false := fun i => frozen_of_cells h1.s.cells.heapOf i
  have fT : w1.frozen? ⟨T, 3, none⟩ = false := h1.frozen 3
  have HH : Hid (TAt W0 w1 T P { m with pc := m.pc + 1 } rg sg vb vc cb cc rv rb tb tc pb pc) := h1
  have HBX : Hid (w1.heap[B]? = some (.cells #[.int .i64 8, .int .i64 (d : Int), .int .i64 0, .int .i64 0, .int .i64 0] 25 (0, 0))) := bx
  have ca := h1.regAt (i := 0) (by omega)
  obtain ⟨y, HY⟩ : ∃ y, Hid (m.regs 0 = y) := ⟨_, rfl⟩
  rw [show ({ m with pc := m.pc + 1 } : MacS).regs 0 = y from HY.out] at ca
  have cd := h1.regAt (i := d) hd
  have fd := fr d
  have hrd := h1.s.reads
  rw [show (msR { m with pc := m.pc + 1 }).reads = m.reads from rfl] at hrd
  rw [hr] at hrd
  obtain ⟨off, cap, erv, _, _, _, _, _⟩ := hrd
  subst erv
  clear hr
  have hd2 : (d : Int) < 8 := by omega
  clear h1 bx
  go_region_held3 (fun w' => w'.cell? ⟨T, 0, none⟩ = some (.slice (some ⟨rg, 0, none⟩) 8 8) ∧ w'.cell? ⟨B, 2, none⟩ = some (.int .i64 0) ∧ w'.cell? ⟨rg, 0, none⟩ = some (.int .i64 y)) (go_keep) (fail)
  simp only [Exit.then]
  go_at_K
  go_wp2_with fail
  have hHeld : (fun w' => w'.cell? ⟨T, 0, none⟩ = some (.slice (some ⟨rg, 0, none⟩) 8 8) ∧ w'.cell? ⟨B, 1, none⟩ = some (.int .i64 (d : Int))) w1.drew.drew := ⟨p0, x1⟩
  refine wp_noThrow (region_M 7 (fun w' => w'.cell? ⟨T, 0, none⟩ = some (.slice (some ⟨rg, 0, none⟩) 8 8) ∧ w'.cell? ⟨B, 1, none⟩ = some (.int .i64 (d : Int))) (by kernel_rfl) ?_)
  refine wpAnyM_take (i := 0) (oi := { dst := some 156, op := Go.Op.move (Go.Operand.tmp 0), type := 62, pos := "l14_machine.go:83", after := #[], guard := none }) (v := ?_) rfl (by kernel_rfl) (by kernel_rfl) (by kernel_rfl) (by kernel_rfl) (fun _ _ _ h => h) (Or.inl ⟨by rfl, ?_⟩) (by assumption) ?_
  rotate_left
  · intro w hSw
    (try dsimp only at hSw)
    go_simp
    (try with_reducible rfl)
  try simp only [Act.put, List.setIfInBounds_toArray, List.set_cons_zero, List.set_cons_succ]
  refine wpAnyM_take (i := 1) (oi := { dst := some 157, op := Go.Op.nilCheck (Go.Operand.tmp 156), type := 0, pos := "l14_machine.go:83", after := #[{ on := 0, ground := Go.Ground.data }], guard := none }) (v := ?_) rfl (by kernel_rfl) (by kernel_rfl) (by kernel_rfl) (by kernel_rfl) (fun _ _ _ h => h) (Or.inl ⟨by rfl, ?_⟩) (by assumption) ?_
  rotate_left
  · intro w hSw
    (try dsimp only at hSw)
    go_simp
    (try with_reducible rfl)
  try simp only [Act.put, List.setIfInBounds_toArray, List.set_cons_zero, List.set_cons_succ]
  refine wpAnyM_take (i := 2) (oi := { dst := some 158, op := Go.Op.fieldAddr 66 (Go.Operand.tmp 157) 0, type := 0, pos := "l14_machine.go:83", after := #[{ on := 1, ground := Go.Ground.data }], guard := none }) (v := ?_) rfl (by kernel_rfl) (by kernel_rfl) (by kernel_rfl) (by kernel_rfl) (fun _ _ _ h => h) (Or.inl ⟨by rfl, ?_⟩) (by assumption) ?_
  rotate_left
  · intro w hSw
    (try dsimp only at hSw)
    go_simp
    (try with_reducible rfl)
  try simp only [Act.put, List.setIfInBounds_toArray, List.set_cons_zero, List.set_cons_succ]
  refine wpAnyM_take (i := 3) (oi := { dst := some 159, op := Go.Op.load 39 (Go.Operand.tmp 158), type := 39, pos := "l14_machine.go:83", after := #[{ on := 2, ground := Go.Ground.data }], guard := none }) (v := ?_) rfl (by kernel_rfl) (by kernel_rfl) (by kernel_rfl) (by kernel_rfl) (fun _ _ _ h => h) (Or.inl ⟨by rfl, ?_⟩) (by assumption) ?_
  rotate_left
  · intro w hSw
    (try dsimp only at hSw)
    go_simp
    (try with_reducible rfl)
  try simp only [Act.put, List.setIfInBounds_toArray, List.set_cons_zero, List.set_cons_succ]
  refine wpAnyM_take (i := 4) (oi := { dst := some 160, op := Go.Op.fieldAddr 25 (Go.Operand.tmp 3) 1, type := 0, pos := "l14_machine.go:83", after := #[], guard := none }) (v := ?_) rfl (by kernel_rfl) (by kernel_rfl) (by kernel_rfl) (by kernel_rfl) (fun _ _ _ h => h) (Or.inl ⟨by rfl, ?_⟩) (by assumption) ?_
  rotate_left
  · intro w hSw
    (try dsimp only at hSw)
    go_simp
    (try with_reducible rfl)
  try simp only [Act.put, List.setIfInBounds_toArray, List.set_cons_zero, List.set_cons_succ]
  refine wpAnyM_take (i := 5) (oi := { dst := some 161, op := Go.Op.load 3 (Go.Operand.tmp 160), type := 3, pos := "l14_machine.go:83", after := #[{ on := 4, ground := Go.Ground.data }], guard := none }) (v := ?_) rfl (by kernel_rfl) (by kernel_rfl) (by kernel_rfl) (by kernel_rfl) (fun _ _ _ h => h) (Or.inl ⟨by rfl, ?_⟩) (by assumption) ?_
  rotate_left
  · intro w hSw
    (try dsimp only at hSw)
    go_simp
    (try with_reducible rfl)
  try simp only [Act.put, List.setIfInBounds_toArray, List.set_cons_zero, List.set_cons_succ]
  refine wpAnyM_take (i := 6) (oi := { dst := some 162, op := Go.Op.indexAddr 39 (Go.Operand.tmp 159) (Go.Operand.tmp 161), type := 0, pos := "l14_machine.go:83", after := #[{ on := 3, ground := Go.Ground.data }, { on := 5, ground := Go.Ground.data }, { on := 0, ground := Go.Ground.phase }, { on := 1, ground := Go.Ground.phase }, { on := 2, ground := Go.Ground.phase }, { on := 3, ground := Go.Ground.phase }, { on := 4, ground := Go.Ground.phase }, { on := 5, ground := Go.Ground.phase }], guard := none }) (v := ?_) rfl (by kernel_rfl) (by kernel_rfl) (by kernel_rfl) (by kernel_rfl) (fun _ _ _ h => h) (Or.inl ⟨by rfl, ?_⟩) (by assumption) ?_
  rotate_left
  · intro w hSw
    (try dsimp only at hSw)
    go_simp
    (try with_reducible rfl)
  try simp only [Act.put, List.setIfInBounds_toArray, List.set_cons_zero, List.set_cons_succ]
  refine cmAnyM_oneK (i := 7) (o := { dst := none, op := Go.Op.store 3 (Go.Operand.tmp 162) (Go.Operand.const (Go.Value.int Go.IntKind.i64 0)), type := 0, pos := "l14_machine.go:83", after := #[{ on := 6, ground := Go.Ground.data }, { on := 0, ground := Go.Ground.phase }, { on := 1, ground := Go.Ground.phase }, { on := 2, ground := Go.Ground.phase }, { on := 3, ground := Go.Ground.phase }, { on := 4, ground := Go.Ground.phase }, { on := 5, ground := Go.Ground.phase }], guard := none }) rfl rfl (by kernel_rfl) (fun K9 hK9 => ?_)
  go_simp
  refine hK9 _ _ ⟨fun h => absurd rfl h, wpAnyM_done (by kernel_rfl) ?_ _⟩
  clear hK9
  simp only [noThrow, Exit.then]
  go_at_K
  have h3 : TAt W0 ((w1.setCell ⟨rg, d, none⟩ (.int .i64 0)).drew.drew) T P { m with pc := m.pc + 1, regs := updN m.regs d 0 } rg sg vb vc cb cc (.slice (some ⟨rb, off, none⟩) 0 cap) rb tb tc pb pc := (HH.out.setReg hd 0).drew.drew
  generalize (w1.setCell ⟨rg, d, none⟩ (.int .i64 0)).drew.drew = w3 at h3 ⊢
  have H3 : Hid (TAt W0 w3 T P { m with pc := m.pc + 1, regs := updN m.regs d 0 } rg sg vb vc cb cc (.slice (some ⟨rb, off, none⟩) 0 cap) rb tb tc pb pc) := h3
  obtain ⟨_, _, p2', _⟩ := h3.cell
  obtain ⟨_, _, u2', _, _, _⟩ := h3.s.cell
  clear h3
  go_wp2_with fail
  go_ret
  exact ⟨rfl, _, _, _, _, _, _, _, _, _, _, _, _, _, H3.out⟩

set_option maxRecDepth 100000 in
set_option maxHeartbeats 4000000 in
theorem ts_read (d : Nat) (hd : d < 8) (z : Int) (l : List Int) (hr : m.reads = z :: l) (w : World) (h : TIs W0 w T m) (hpc : m.pc ≤ 900) :
    Calls Tryd.prog 39 #[.pointer (some ⟨T, 0, none⟩), .agg #[.int .i64 8, .int .i64 (d : Int), .int .i64 0, .int .i64 0, .int .i64 0]] w fun e w' => e = .returned (.int .i64 0) ∧ TIs W0 w' T { m with pc := m.pc + 1, regs := updN m.regs d z, reads := l } := by
  obtain ⟨P, rg, sg, vb, vc, cb, cc, rv, rb, tb, tc, pb, pc, h⟩ := h
  have HH0 : Hid (TAt W0 w T P m rg sg vb vc cb cc rv rb tb tc pb pc) := h
  have t3 := h.cell.2.2.2
  have ft := h.frozen 3
  have hTl := h.lt
  obtain ⟨pn, HPN⟩ : ∃ p, Hid (m.pc = p) := ⟨_, rfl⟩
  rw [HPN.out] at t3 hpc
  clear h
  go_enter Tryd.func39, Tryd.ntmps39
  go_wp2_with fail
  obtain ⟨w1, hw1⟩ : ∃ W, (w.setCell ⟨T, 3, none⟩ (.int .i64 ((pn : Int) + 1))).alloc (.cells #[.int .i64 8, .int .i64 (d : Int), .int .i64 0, .int .i64 0, .int .i64 0] 25) = W := ⟨_, rfl⟩
  have h1 : TAt W0 w1 T P { m with pc := m.pc + 1 } rg sg vb vc cb cc rv rb tb tc pb pc := by
    have h3 := (HH0.out.setPc (m.pc + 1)).later (Bel.alloc _ (.cells #[.int .i64 8, .int .i64 (d : Int), .int .i64 0, .int .i64 0, .int .i64 0] 25))
    have e : ((m.pc + 1 : Nat) : Int) = (pn : Int) + 1 := by rw [HPN.out]; rfl
    rw [e, hw1] at h3
    exact h3
  have bx : w1.heap[w.heap.size]? = some (.cells #[.int .i64 8, .int .i64 (d : Int), .int .i64 0, .int .i64 0, .int .i64 0] 25 (0, 0)) := by
    rw [← hw1]
    exact heap_last (by simp)
  rw [hw1]
  clear hw1 t3 ft hTl
  generalize w.heap.size = B at bx ⊢
  have x0 : w1.cell? ⟨B, 0, none⟩ = some (.int .i64 8) := by simp [World.cell?, bx]
  have x1 : w1.cell? ⟨B, 1, none⟩ = some (.int .i64 (d : Int)) := by simp [World.cell?, bx]
  have x2 : w1.cell? ⟨B, 2, none⟩ = some (.int .i64 0) := by simp [World.cell?, bx]
  have x3 : w1.cell? ⟨B, 3, none⟩ = some (.int .i64 0) := by simp [World.cell?, bx]
  have x4 : w1.cell? ⟨B, 4, none⟩ = some (.int .i64 0) := by simp [World.cell?, bx]
  have hBr : rg ≠ B := (not_row bx (by decide) h1.regs.heapOf).symm
  have hBs : sg ≠ B := (not_row bx (by decide) h1.slots.heapOf).symm
  have hBc : cb ≠ B := (not_row bx (by decide) h1.s.cells.heapOf).symm
  have hrT : rg ≠ T := h1.hTr.symm
  have hsT : sg ≠ T := h1.hTs.symm
  have hcT : cb ≠ T := h1.hTc.symm
  have hrP : rg ≠ P := h1.hPr.symm
  obtain ⟨p0, p1, p2, p3⟩ := h1.cell
  obtain ⟨_, u1, u2, u3, _, _⟩ := h1.s.cell
  have fr : ∀ i, w1.frozen? ⟨rg, i, none⟩ = false := fun i => frozen_of_cells h1.regs.heapOf i
  have fs : ∀ i, w1.frozen? ⟨sg, i, none⟩ = false := fun i => frozen_of_cells h1.slots.heapOf i
  have fc : ∀ i, w1.frozen? ⟨cb, i, none⟩ = false := fun i => frozen_of_cells h1.s.cells.heapOf i
  have fT : w1.frozen? ⟨T, 3, none⟩ = false := h1.frozen 3
  have HH : Hid (TAt W0 w1 T P { m with pc := m.pc + 1 } rg sg vb vc cb cc rv rb tb tc pb pc) := h1
  have HBX : Hid (w1.heap[B]? = some (.cells #[.int .i64 8, .int .i64 (d : Int), .int .i64 0, .int .i64 0, .int .i64 0] 25 (0, 0))) := bx
  have ca := h1.regAt (i := 0) (by omega)
  obtain ⟨y, HY⟩ : ∃ y, Hid (m.regs 0 = y) := ⟨_, rfl⟩
  rw [show ({ m with pc := m.pc + 1 } : MacS).regs 0 = y from HY.out] at ca
  have cd := h1.regAt (i := d) hd
  have fd := fr d
  have hrd := h1.s.reads
  rw [show (msR { m with pc := m.pc + 1 }).reads = m.reads from rfl] at hrd
  have HRD : Hid (m.reads = z :: l) := hr
  rw [hr] at hrd
  obtain ⟨n, HNL⟩ : ∃ n, Hid ((z :: l).length = n) := ⟨_, rfl⟩
  obtain ⟨off, cap, erv, hcap, hcap2, _, _, _⟩ := hrd
  rw [HNL.out] at erv hcap
  subst erv
  have hn1 : 1 ≤ n := by have := HNL.out; simp at this; omega
  have hn0 : (0 : Int) < (n : Int) := by omega
  clear hr
  have hd2 : (d : Int) < 8 := by omega
  clear h1 bx
  go_region_held3 (fun w' => w'.cell? ⟨T, 0, none⟩ = some (.slice (some ⟨rg, 0, none⟩) 8 8) ∧ w'.cell? ⟨B, 2, none⟩ = some (.int .i64 0) ∧ w'.cell? ⟨rg, 0, none⟩ = some (.int .i64 y)) (go_keep) (fail)
  simp only [Exit.then]
  go_at_K
  go_wp2_with fail
  have hHeld : (fun w' => w'.cell? ⟨T, 0, none⟩ = some (.slice (some ⟨rg, 0, none⟩) 8 8) ∧ w'.cell? ⟨B, 1, none⟩ = some (.int .i64 (d : Int))) w1.drew.drew := ⟨p0, x1⟩
  refine wp_noThrow (region_M 7 (fun w' => w'.cell? ⟨T, 0, none⟩ = some (.slice (some ⟨rg, 0, none⟩) 8 8) ∧ w'.cell? ⟨B, 1, none⟩ = some (.int .i64 (d : Int))) (by kernel_rfl) ?_)
  refine wpAnyM_take (i := 0) (oi := { dst := some 156, op := Go.Op.move (Go.Operand.tmp 0), type := 62, pos := "l14_machine.go:83", after := #[], guard := none }) (v := ?_) rfl (by kernel_rfl) (by kernel_rfl) (by kernel_rfl) (by kernel_rfl) (fun _ _ _ h => h) (Or.inl ⟨by rfl, ?_⟩) (by assumption) ?_
  rotate_left
  · intro w hSw
    (try dsimp only at hSw)
    go_simp
    (try with_reducible rfl)
  try simp only [Act.put, List.setIfInBounds_toArray, List.set_cons_zero, List.set_cons_succ]
  refine wpAnyM_take (i := 1) (oi := { dst := some 157, op := Go.Op.nilCheck (Go.Operand.tmp 156), type := 0, pos := "l14_machine.go:83", after := #[{ on := 0, ground := Go.Ground.data }], guard := none }) (v := ?_) rfl (by kernel_rfl) (by kernel_rfl) (by kernel_rfl) (by kernel_rfl) (fun _ _ _ h => h) (Or.inl ⟨by rfl, ?_⟩) (by assumption) ?_
  rotate_left
  · intro w hSw
    (try dsimp only at hSw)
    go_simp
    (try with_reducible rfl)
  try simp only [Act.put, List.setIfInBounds_toArray, List.set_cons_zero, List.set_cons_succ]
  refine wpAnyM_take (i := 2) (oi := { dst := some 158, op := Go.Op.fieldAddr 66 (Go.Operand.tmp 157) 0, type := 0, pos := "l14_machine.go:83", after := #[{ on := 1, ground := Go.Ground.data }], guard := none }) (v := ?_) rfl (by kernel_rfl) (by kernel_rfl) (by kernel_rfl) (by kernel_rfl) (fun _ _ _ h => h) (Or.inl ⟨by rfl, ?_⟩) (by assumption) ?_
  rotate_left
  · intro w hSw
    (try dsimp only at hSw)
    go_simp
    (try with_reducible rfl)
  try simp only [Act.put, List.setIfInBounds_toArray, List.set_cons_zero, List.set_cons_succ]
  refine wpAnyM_take (i := 3) (oi := { dst := some 159, op := Go.Op.load 39 (Go.Operand.tmp 158), type := 39, pos := "l14_machine.go:83", after := #[{ on := 2, ground := Go.Ground.data }], guard := none }) (v := ?_) rfl (by kernel_rfl) (by kernel_rfl) (by kernel_rfl) (by kernel_rfl) (fun _ _ _ h => h) (Or.inl ⟨by rfl, ?_⟩) (by assumption) ?_
  rotate_left
  · intro w hSw
    (try dsimp only at hSw)
    go_simp
    (try with_reducible rfl)
  try simp only [Act.put, List.setIfInBounds_toArray, List.set_cons_zero, List.set_cons_succ]
  refine wpAnyM_take (i := 4) (oi := { dst := some 160, op := Go.Op.fieldAddr 25 (Go.Operand.tmp 3) 1, type := 0, pos := "l14_machine.go:83", after := #[], guard := none }) (v := ?_) rfl (by kernel_rfl) (by kernel_rfl) (by kernel_rfl) (by kernel_rfl) (fun _ _ _ h => h) (Or.inl ⟨by rfl, ?_⟩) (by assumption) ?_
  rotate_left
  · intro w hSw
    (try dsimp only at hSw)
    go_simp
    (try with_reducible rfl)
  try simp only [Act.put, List.setIfInBounds_toArray, List.set_cons_zero, List.set_cons_succ]
  refine wpAnyM_take (i := 5) (oi := { dst := some 161, op := Go.Op.load 3 (Go.Operand.tmp 160), type := 3, pos := "l14_machine.go:83", after := #[{ on := 4, ground := Go.Ground.data }], guard := none }) (v := ?_) rfl (by kernel_rfl) (by kernel_rfl) (by kernel_rfl) (by kernel_rfl) (fun _ _ _ h => h) (Or.inl ⟨by rfl, ?_⟩) (by assumption) ?_
  rotate_left
  · intro w hSw
    (try dsimp only at hSw)
    go_simp
    (try with_reducible rfl)
  try simp only [Act.put, List.setIfInBounds_toArray, List.set_cons_zero, List.set_cons_succ]
  refine wpAnyM_take (i := 6) (oi := { dst := some 162, op := Go.Op.indexAddr 39 (Go.Operand.tmp 159) (Go.Operand.tmp 161), type := 0, pos := "l14_machine.go:83", after := #[{ on := 3, ground := Go.Ground.data }, { on := 5, ground := Go.Ground.data }, { on := 0, ground := Go.Ground.phase }, { on := 1, ground := Go.Ground.phase }, { on := 2, ground := Go.Ground.phase }, { on := 3, ground := Go.Ground.phase }, { on := 4, ground := Go.Ground.phase }, { on := 5, ground := Go.Ground.phase }], guard := none }) (v := ?_) rfl (by kernel_rfl) (by kernel_rfl) (by kernel_rfl) (by kernel_rfl) (fun _ _ _ h => h) (Or.inl ⟨by rfl, ?_⟩) (by assumption) ?_
  rotate_left
  · intro w hSw
    (try dsimp only at hSw)
    go_simp
    (try with_reducible rfl)
  try simp only [Act.put, List.setIfInBounds_toArray, List.set_cons_zero, List.set_cons_succ]
  refine cmAnyM_oneK (i := 7) (o := { dst := none, op := Go.Op.store 3 (Go.Operand.tmp 162) (Go.Operand.const (Go.Value.int Go.IntKind.i64 0)), type := 0, pos := "l14_machine.go:83", after := #[{ on := 6, ground := Go.Ground.data }, { on := 0, ground := Go.Ground.phase }, { on := 1, ground := Go.Ground.phase }, { on := 2, ground := Go.Ground.phase }, { on := 3, ground := Go.Ground.phase }, { on := 4, ground := Go.Ground.phase }, { on := 5, ground := Go.Ground.phase }], guard := none }) rfl rfl (by kernel_rfl) (fun K9 hK9 => ?_)
  go_simp
  refine hK9 _ _ ⟨fun h => absurd rfl h, wpAnyM_done (by kernel_rfl) ?_ _⟩
  clear hK9
  simp only [noThrow, Exit.then]
  go_at_K
  have h3 : TAt W0 ((w1.setCell ⟨rg, d, none⟩ (.int .i64 0)).drew.drew) T P { m with pc := m.pc + 1, regs := updN m.regs d 0 } rg sg vb vc cb cc (.slice (some ⟨rb, off, none⟩) n cap) rb tb tc pb pc := (HH.out.setReg hd 0).drew.drew
  have bx3 : ((w1.setCell ⟨rg, d, none⟩ (.int .i64 0)).drew.drew).heap[B]? = some (.cells #[.int .i64 8, .int .i64 (d : Int), .int .i64 0, .int .i64 0, .int .i64 0] 25 (0, 0)) := (heap_setCell_other _ _ _ _ hBr.symm).trans HBX.out
  generalize (w1.setCell ⟨rg, d, none⟩ (.int .i64 0)).drew.drew = w3 at h3 bx3 ⊢
  have H3 : Hid (TAt W0 w3 T P { m with pc := m.pc + 1, regs := updN m.regs d 0 } rg sg vb vc cb cc (.slice (some ⟨rb, off, none⟩) n cap) rb tb tc pb pc) := h3
  obtain ⟨p0', _, p2', _⟩ := h3.cell
  obtain ⟨_, _, u2', _, _, _⟩ := h3.s.cell
  have x1' : w3.cell? ⟨B, 1, none⟩ = some (.int .i64 (d : Int)) := by simp [World.cell?, bx3]
  have z0 : w3.cell? ⟨rb, off, none⟩ = some (.int .i64 z) := by
    obtain ⟨off', cap', e', _, _, _, _, hcc⟩ := h3.s.reads
    have eo : off = off' := by simp at e'; exact e'.1
    subst eo
    have h5 := hcc 0 (by show 0 < m.reads.length; rw [HRD.out]; simp)
    rw [show (msR { m with pc := m.pc + 1, regs := updN m.regs d 0 }).reads.getD 0 0 = z by show m.reads.getD 0 0 = z; rw [HRD.out]; rfl] at h5
    simpa using h5
  have cd' := h3.regAt (i := d) hd
  have fd' : w3.frozen? ⟨rg, d, none⟩ = false := frozen_of_cells h3.regs.heapOf d
  clear h3 p0 p1 p2 p3 u1 u2 u3 x0 x1 x2 x3 x4 ca cd fr fs fc fT fd hHeld
  go_wp2_with fail
  have hHeld : (fun w' => w'.cell? ⟨T, 0, none⟩ = some (.slice (some ⟨rg, 0, none⟩) 8 8) ∧ w'.cell? ⟨B, 1, none⟩ = some (.int .i64 (d : Int)) ∧ w'.cell? ⟨T, 2, none⟩ = some (.pointer (some ⟨P, 0, none⟩)) ∧ w'.cell? ⟨P, 2, none⟩ = some (.slice (some ⟨rb, off, none⟩) n cap) ∧ w'.cell? ⟨rb, off, none⟩ = some (.int .i64 z)) w3.drew := ⟨p0', x1', p2', u2', z0⟩
  refine wp_noThrow (region_M 16 (fun w' => w'.cell? ⟨T, 0, none⟩ = some (.slice (some ⟨rg, 0, none⟩) 8 8) ∧ w'.cell? ⟨B, 1, none⟩ = some (.int .i64 (d : Int)) ∧ w'.cell? ⟨T, 2, none⟩ = some (.pointer (some ⟨P, 0, none⟩)) ∧ w'.cell? ⟨P, 2, none⟩ = some (.slice (some ⟨rb, off, none⟩) n cap) ∧ w'.cell? ⟨rb, off, none⟩ = some (.int .i64 z)) (by kernel_rfl) ?_)
  refine wpAnyM_take (i := 0) (oi := { dst := some 172, op := Go.Op.move (Go.Operand.tmp 0), type := 62, pos := "l14_machine.go:85", after := #[], guard := none }) (v := ?_) rfl (by kernel_rfl) (by kernel_rfl) (by kernel_rfl) (by kernel_rfl) (fun _ _ _ h => h) (Or.inl ⟨by rfl, ?_⟩) (by assumption) ?_
  rotate_left
  · intro w hSw
    (try dsimp only at hSw)
    go_simp
    (try with_reducible rfl)
  try simp only [Act.put, List.setIfInBounds_toArray, List.set_cons_zero, List.set_cons_succ]
  refine wpAnyM_take (i := 1) (oi := { dst := some 173, op := Go.Op.nilCheck (Go.Operand.tmp 172), type := 0, pos := "l14_machine.go:85", after := #[{ on := 0, ground := Go.Ground.data }], guard := none }) (v := ?_) rfl (by kernel_rfl) (by kernel_rfl) (by kernel_rfl) (by kernel_rfl) (fun _ _ _ h => h) (Or.inl ⟨by rfl, ?_⟩) (by assumption) ?_
  rotate_left
  · intro w hSw
    (try dsimp only at hSw)
    go_simp
    (try with_reducible rfl)
  try simp only [Act.put, List.setIfInBounds_toArray, List.set_cons_zero, List.set_cons_succ]
  refine wpAnyM_take (i := 2) (oi := { dst := some 174, op := Go.Op.fieldAddr 66 (Go.Operand.tmp 173) 0, type := 0, pos := "l14_machine.go:85", after := #[{ on := 1, ground := Go.Ground.data }], guard := none }) (v := ?_) rfl (by kernel_rfl) (by kernel_rfl) (by kernel_rfl) (by kernel_rfl) (fun _ _ _ h => h) (Or.inl ⟨by rfl, ?_⟩) (by assumption) ?_
  rotate_left
  · intro w hSw
    (try dsimp only at hSw)
    go_simp
    (try with_reducible rfl)
  try simp only [Act.put, List.setIfInBounds_toArray, List.set_cons_zero, List.set_cons_succ]
  refine wpAnyM_take (i := 3) (oi := { dst := some 175, op := Go.Op.load 39 (Go.Operand.tmp 174), type := 39, pos := "l14_machine.go:85", after := #[{ on := 2, ground := Go.Ground.data }], guard := none }) (v := ?_) rfl (by kernel_rfl) (by kernel_rfl) (by kernel_rfl) (by kernel_rfl) (fun _ _ _ h => h) (Or.inl ⟨by rfl, ?_⟩) (by assumption) ?_
  rotate_left
  · intro w hSw
    (try dsimp only at hSw)
    go_simp
    (try with_reducible rfl)
  try simp only [Act.put, List.setIfInBounds_toArray, List.set_cons_zero, List.set_cons_succ]
  refine wpAnyM_take (i := 4) (oi := { dst := some 176, op := Go.Op.fieldAddr 25 (Go.Operand.tmp 3) 1, type := 0, pos := "l14_machine.go:85", after := #[], guard := none }) (v := ?_) rfl (by kernel_rfl) (by kernel_rfl) (by kernel_rfl) (by kernel_rfl) (fun _ _ _ h => h) (Or.inl ⟨by rfl, ?_⟩) (by assumption) ?_
  rotate_left
  · intro w hSw
    (try dsimp only at hSw)
    go_simp
    (try with_reducible rfl)
  try simp only [Act.put, List.setIfInBounds_toArray, List.set_cons_zero, List.set_cons_succ]
  refine wpAnyM_take (i := 5) (oi := { dst := some 177, op := Go.Op.load 3 (Go.Operand.tmp 176), type := 3, pos := "l14_machine.go:85", after := #[{ on := 4, ground := Go.Ground.data }], guard := none }) (v := ?_) rfl (by kernel_rfl) (by kernel_rfl) (by kernel_rfl) (by kernel_rfl) (fun _ _ _ h => h) (Or.inl ⟨by rfl, ?_⟩) (by assumption) ?_
  rotate_left
  · intro w hSw
    (try dsimp only at hSw)
    go_simp
    (try with_reducible rfl)
  try simp only [Act.put, List.setIfInBounds_toArray, List.set_cons_zero, List.set_cons_succ]
  refine wpAnyM_take (i := 6) (oi := { dst := some 178, op := Go.Op.move (Go.Operand.tmp 0), type := 62, pos := "l14_machine.go:85", after := #[], guard := none }) (v := ?_) rfl (by kernel_rfl) (by kernel_rfl) (by kernel_rfl) (by kernel_rfl) (fun _ _ _ h => h) (Or.inl ⟨by rfl, ?_⟩) (by assumption) ?_
  rotate_left
  · intro w hSw
    (try dsimp only at hSw)
    go_simp
    (try with_reducible rfl)
  try simp only [Act.put, List.setIfInBounds_toArray, List.set_cons_zero, List.set_cons_succ]
  refine wpAnyM_take (i := 7) (oi := { dst := some 179, op := Go.Op.nilCheck (Go.Operand.tmp 178), type := 0, pos := "l14_machine.go:85", after := #[{ on := 6, ground := Go.Ground.data }], guard := none }) (v := ?_) rfl (by kernel_rfl) (by kernel_rfl) (by kernel_rfl) (by kernel_rfl) (fun _ _ _ h => h) (Or.inl ⟨by rfl, ?_⟩) (by assumption) ?_
  rotate_left
  · intro w hSw
    (try dsimp only at hSw)
    go_simp
    (try with_reducible rfl)
  try simp only [Act.put, List.setIfInBounds_toArray, List.set_cons_zero, List.set_cons_succ]
  refine wpAnyM_take (i := 8) (oi := { dst := some 180, op := Go.Op.fieldAddr 66 (Go.Operand.tmp 179) 2, type := 0, pos := "l14_machine.go:85", after := #[{ on := 7, ground := Go.Ground.data }], guard := none }) (v := ?_) rfl (by kernel_rfl) (by kernel_rfl) (by kernel_rfl) (by kernel_rfl) (fun _ _ _ h => h) (Or.inl ⟨by rfl, ?_⟩) (by assumption) ?_
  rotate_left
  · intro w hSw
    (try dsimp only at hSw)
    go_simp
    (try with_reducible rfl)
  try simp only [Act.put, List.setIfInBounds_toArray, List.set_cons_zero, List.set_cons_succ]
  refine wpAnyM_take (i := 9) (oi := { dst := some 181, op := Go.Op.load 63 (Go.Operand.tmp 180), type := 63, pos := "l14_machine.go:85", after := #[{ on := 8, ground := Go.Ground.data }], guard := none }) (v := ?_) rfl (by kernel_rfl) (by kernel_rfl) (by kernel_rfl) (by kernel_rfl) (fun _ _ _ h => h) (Or.inl ⟨by rfl, ?_⟩) (by assumption) ?_
  rotate_left
  · intro w hSw
    (try dsimp only at hSw)
    go_simp
    (try with_reducible rfl)
  try simp only [Act.put, List.setIfInBounds_toArray, List.set_cons_zero, List.set_cons_succ]
  refine wpAnyM_take (i := 10) (oi := { dst := some 182, op := Go.Op.nilCheck (Go.Operand.tmp 181), type := 0, pos := "l14_machine.go:85", after := #[{ on := 9, ground := Go.Ground.data }], guard := none }) (v := ?_) rfl (by kernel_rfl) (by kernel_rfl) (by kernel_rfl) (by kernel_rfl) (fun _ _ _ h => h) (Or.inl ⟨by rfl, ?_⟩) (by assumption) ?_
  rotate_left
  · intro w hSw
    (try dsimp only at hSw)
    go_simp
    (try with_reducible rfl)
  try simp only [Act.put, List.setIfInBounds_toArray, List.set_cons_zero, List.set_cons_succ]
  refine wpAnyM_take (i := 11) (oi := { dst := some 183, op := Go.Op.fieldAddr 69 (Go.Operand.tmp 182) 2, type := 0, pos := "l14_machine.go:85", after := #[{ on := 10, ground := Go.Ground.data }], guard := none }) (v := ?_) rfl (by kernel_rfl) (by kernel_rfl) (by kernel_rfl) (by kernel_rfl) (fun _ _ _ h => h) (Or.inl ⟨by rfl, ?_⟩) (by assumption) ?_
  rotate_left
  · intro w hSw
    (try dsimp only at hSw)
    go_simp
    (try with_reducible rfl)
  try simp only [Act.put, List.setIfInBounds_toArray, List.set_cons_zero, List.set_cons_succ]
  refine wpAnyM_take (i := 12) (oi := { dst := some 184, op := Go.Op.load 39 (Go.Operand.tmp 183), type := 39, pos := "l14_machine.go:85", after := #[{ on := 11, ground := Go.Ground.data }], guard := none }) (v := ?_) rfl (by kernel_rfl) (by kernel_rfl) (by kernel_rfl) (by kernel_rfl) (fun _ _ _ h => h) (Or.inl ⟨by rfl, ?_⟩) (by assumption) ?_
  rotate_left
  · intro w hSw
    (try dsimp only at hSw)
    go_simp
    (try with_reducible rfl)
  try simp only [Act.put, List.setIfInBounds_toArray, List.set_cons_zero, List.set_cons_succ]
  refine wpAnyM_take (i := 13) (oi := { dst := some 185, op := Go.Op.indexAddr 39 (Go.Operand.tmp 184) (Go.Operand.const (Go.Value.int Go.IntKind.i64 0)), type := 0, pos := "l14_machine.go:85", after := #[{ on := 12, ground := Go.Ground.data }], guard := none }) (v := ?_) rfl (by kernel_rfl) (by kernel_rfl) (by kernel_rfl) (by kernel_rfl) (fun _ _ _ h => h) (Or.inl ⟨by rfl, ?_⟩) (by assumption) ?_
  rotate_left
  · intro w hSw
    (try dsimp only at hSw)
    go_simp
    (try with_reducible rfl)
  try simp only [Act.put, List.setIfInBounds_toArray, List.set_cons_zero, List.set_cons_succ]
  refine wpAnyM_take (i := 14) (oi := { dst := some 186, op := Go.Op.load 3 (Go.Operand.tmp 185), type := 3, pos := "l14_machine.go:85", after := #[{ on := 13, ground := Go.Ground.data }], guard := none }) (v := ?_) rfl (by kernel_rfl) (by kernel_rfl) (by kernel_rfl) (by kernel_rfl) (fun _ _ _ h => h) (Or.inl ⟨by rfl, ?_⟩) (by assumption) ?_
  rotate_left
  · intro w hSw
    (try dsimp only at hSw)
    go_simp
    (try with_reducible rfl)
  try simp only [Act.put, List.setIfInBounds_toArray, List.set_cons_zero, List.set_cons_succ]
  refine wpAnyM_take (i := 15) (oi := { dst := some 187, op := Go.Op.indexAddr 39 (Go.Operand.tmp 175) (Go.Operand.tmp 177), type := 0, pos := "l14_machine.go:85", after := #[{ on := 3, ground := Go.Ground.data }, { on := 5, ground := Go.Ground.data }, { on := 0, ground := Go.Ground.phase }, { on := 1, ground := Go.Ground.phase }, { on := 2, ground := Go.Ground.phase }, { on := 3, ground := Go.Ground.phase }, { on := 4, ground := Go.Ground.phase }, { on := 5, ground := Go.Ground.phase }, { on := 6, ground := Go.Ground.phase }, { on := 7, ground := Go.Ground.phase }, { on := 8, ground := Go.Ground.phase }, { on := 9, ground := Go.Ground.phase }, { on := 10, ground := Go.Ground.phase }, { on := 11, ground := Go.Ground.phase }, { on := 12, ground := Go.Ground.phase }, { on := 13, ground := Go.Ground.phase }, { on := 14, ground := Go.Ground.phase }], guard := none }) (v := ?_) rfl (by kernel_rfl) (by kernel_rfl) (by kernel_rfl) (by kernel_rfl) (fun _ _ _ h => h) (Or.inl ⟨by rfl, ?_⟩) (by assumption) ?_
  rotate_left
  · intro w hSw
    (try dsimp only at hSw)
    go_simp
    (try with_reducible rfl)
  try simp only [Act.put, List.setIfInBounds_toArray, List.set_cons_zero, List.set_cons_succ]
  refine cmAnyM_oneK (i := 16) (o := { dst := none, op := Go.Op.store 3 (Go.Operand.tmp 187) (Go.Operand.tmp 186), type := 0, pos := "l14_machine.go:85", after := #[{ on := 15, ground := Go.Ground.data }, { on := 14, ground := Go.Ground.data }, { on := 0, ground := Go.Ground.phase }, { on := 1, ground := Go.Ground.phase }, { on := 2, ground := Go.Ground.phase }, { on := 3, ground := Go.Ground.phase }, { on := 4, ground := Go.Ground.phase }, { on := 5, ground := Go.Ground.phase }, { on := 6, ground := Go.Ground.phase }, { on := 7, ground := Go.Ground.phase }, { on := 8, ground := Go.Ground.phase }, { on := 9, ground := Go.Ground.phase }, { on := 10, ground := Go.Ground.phase }, { on := 11, ground := Go.Ground.phase }, { on := 12, ground := Go.Ground.phase }, { on := 13, ground := Go.Ground.phase }, { on := 14, ground := Go.Ground.phase }], guard := none }) rfl rfl (by kernel_rfl) (fun K9 hK9 => ?_)
  go_simp
  refine hK9 _ _ ⟨fun h => absurd rfl h, wpAnyM_done (by kernel_rfl) ?_ _⟩
  clear hK9 hHeld
  simp only [noThrow, Exit.then]
  go_at_K
  have h4 : TAt W0 ((w3.setCell ⟨rg, d, none⟩ (.int .i64 z)).drew) T P { m with pc := m.pc + 1, regs := updN m.regs d z } rg sg vb vc cb cc (.slice (some ⟨rb, off, none⟩) n cap) rb tb tc pb pc := by
    have h5 := (H3.out.setReg hd z).drew
    dsimp only at h5
    rw [updN_twice] at h5
    exact h5
  generalize (w3.setCell ⟨rg, d, none⟩ (.int .i64 z)).drew = w4 at h4 ⊢
  have H4 : Hid (TAt W0 w4 T P { m with pc := m.pc + 1, regs := updN m.regs d z } rg sg vb vc cb cc (.slice (some ⟨rb, off, none⟩) n cap) rb tb tc pb pc) := h4
  obtain ⟨_, _, q2, _⟩ := h4.cell
  obtain ⟨_, _, v2, _, _, _⟩ := h4.s.cell
  have f2 : w4.frozen? ⟨P, 2, none⟩ = false := h4.s.frozen 2
  clear h4 p0' p2' u2' x1' z0 cd' fd' bx3
  have HRI : Hid (∀ nv, nv = Value.slice (some ⟨rb, off, none⟩) (n - 1) 0 ∧ n = 1 ∨ nv = Value.slice (some ⟨rb, off + 1, none⟩) (n - 1) (cap - 1) → ReadsIn w4 W0.heap.size nv rb l) := by
    intro nv hnv
    obtain ⟨off', cap', e', g1, g2, g3, g4, g5⟩ := H4.out.s.reads
    have eo : off = off' ∧ cap = cap' := by simp at e'; exact ⟨e'.1, e'.2.2⟩
    obtain ⟨rfl, rfl⟩ := eo
    have hnl : n - 1 = l.length := by have := HNL.out; simp at this; omega
    rcases hnv with ⟨rfl, h1⟩ | rfl
    · have hl0 : l = [] := List.eq_nil_of_length_eq_zero (by omega)
      refine ⟨off, 0, by rw [hnl], by rw [hl0]; simp, by omega, g3, g4, fun i hi => ?_⟩
      rw [hl0] at hi
      simp at hi
    · refine ⟨off + 1, cap - 1, by rw [hnl], by omega, by omega, g3, g4, fun i hi => ?_⟩
      have h5 := g5 (i + 1) (by show i + 1 < m.reads.length; rw [HRD.out]; simp; omega)
      rw [show (msR { m with pc := m.pc + 1, regs := updN m.regs d z }).reads.getD (i + 1) 0 = l.getD i 0 by show m.reads.getD (i + 1) 0 = _; rw [HRD.out]; simp [List.getD]] at h5
      have e : off + (i + 1) = off + 1 + i := by omega
      rw [e] at h5
      exact h5
  go_wp2_with fail
  have hHeld : (fun w' => w'.cell? ⟨T, 2, none⟩ = some (.pointer (some ⟨P, 0, none⟩)) ∧ w'.cell? ⟨P, 2, none⟩ = some (.slice (some ⟨rb, off, none⟩) n cap)) w4.drew := ⟨q2, v2⟩
  refine wp_noThrow (region_M 14 (fun w' => w'.cell? ⟨T, 2, none⟩ = some (.pointer (some ⟨P, 0, none⟩)) ∧ w'.cell? ⟨P, 2, none⟩ = some (.slice (some ⟨rb, off, none⟩) n cap)) (by kernel_rfl) ?_)
  refine wpAnyM_take (i := 0) (oi := { dst := some 188, op := Go.Op.move (Go.Operand.tmp 0), type := 62, pos := "l14_machine.go:86", after := #[], guard := none }) (v := ?_) rfl (by kernel_rfl) (by kernel_rfl) (by kernel_rfl) (by kernel_rfl) (fun _ _ _ h => h) (Or.inl ⟨by rfl, ?_⟩) (by assumption) ?_
  rotate_left
  · intro w hSw
    (try dsimp only at hSw)
    go_simp
    (try with_reducible rfl)
  try simp only [Act.put, List.setIfInBounds_toArray, List.set_cons_zero, List.set_cons_succ]
  refine wpAnyM_take (i := 1) (oi := { dst := some 189, op := Go.Op.nilCheck (Go.Operand.tmp 188), type := 0, pos := "l14_machine.go:86", after := #[{ on := 0, ground := Go.Ground.data }], guard := none }) (v := ?_) rfl (by kernel_rfl) (by kernel_rfl) (by kernel_rfl) (by kernel_rfl) (fun _ _ _ h => h) (Or.inl ⟨by rfl, ?_⟩) (by assumption) ?_
  rotate_left
  · intro w hSw
    (try dsimp only at hSw)
    go_simp
    (try with_reducible rfl)
  try simp only [Act.put, List.setIfInBounds_toArray, List.set_cons_zero, List.set_cons_succ]
  refine wpAnyM_take (i := 2) (oi := { dst := some 190, op := Go.Op.fieldAddr 66 (Go.Operand.tmp 189) 2, type := 0, pos := "l14_machine.go:86", after := #[{ on := 1, ground := Go.Ground.data }], guard := none }) (v := ?_) rfl (by kernel_rfl) (by kernel_rfl) (by kernel_rfl) (by kernel_rfl) (fun _ _ _ h => h) (Or.inl ⟨by rfl, ?_⟩) (by assumption) ?_
  rotate_left
  · intro w hSw
    (try dsimp only at hSw)
    go_simp
    (try with_reducible rfl)
  try simp only [Act.put, List.setIfInBounds_toArray, List.set_cons_zero, List.set_cons_succ]
  refine wpAnyM_take (i := 3) (oi := { dst := some 191, op := Go.Op.load 63 (Go.Operand.tmp 190), type := 63, pos := "l14_machine.go:86", after := #[{ on := 2, ground := Go.Ground.data }], guard := none }) (v := ?_) rfl (by kernel_rfl) (by kernel_rfl) (by kernel_rfl) (by kernel_rfl) (fun _ _ _ h => h) (Or.inl ⟨by rfl, ?_⟩) (by assumption) ?_
  rotate_left
  · intro w hSw
    (try dsimp only at hSw)
    go_simp
    (try with_reducible rfl)
  try simp only [Act.put, List.setIfInBounds_toArray, List.set_cons_zero, List.set_cons_succ]
  refine wpAnyM_take (i := 4) (oi := { dst := some 192, op := Go.Op.move (Go.Operand.tmp 0), type := 62, pos := "l14_machine.go:86", after := #[], guard := none }) (v := ?_) rfl (by kernel_rfl) (by kernel_rfl) (by kernel_rfl) (by kernel_rfl) (fun _ _ _ h => h) (Or.inl ⟨by rfl, ?_⟩) (by assumption) ?_
  rotate_left
  · intro w hSw
    (try dsimp only at hSw)
    go_simp
    (try with_reducible rfl)
  try simp only [Act.put, List.setIfInBounds_toArray, List.set_cons_zero, List.set_cons_succ]
  refine wpAnyM_take (i := 5) (oi := { dst := some 193, op := Go.Op.nilCheck (Go.Operand.tmp 192), type := 0, pos := "l14_machine.go:86", after := #[{ on := 4, ground := Go.Ground.data }], guard := none }) (v := ?_) rfl (by kernel_rfl) (by kernel_rfl) (by kernel_rfl) (by kernel_rfl) (fun _ _ _ h => h) (Or.inl ⟨by rfl, ?_⟩) (by assumption) ?_
  rotate_left
  · intro w hSw
    (try dsimp only at hSw)
    go_simp
    (try with_reducible rfl)
  try simp only [Act.put, List.setIfInBounds_toArray, List.set_cons_zero, List.set_cons_succ]
  refine wpAnyM_take (i := 6) (oi := { dst := some 194, op := Go.Op.fieldAddr 66 (Go.Operand.tmp 193) 2, type := 0, pos := "l14_machine.go:86", after := #[{ on := 5, ground := Go.Ground.data }], guard := none }) (v := ?_) rfl (by kernel_rfl) (by kernel_rfl) (by kernel_rfl) (by kernel_rfl) (fun _ _ _ h => h) (Or.inl ⟨by rfl, ?_⟩) (by assumption) ?_
  rotate_left
  · intro w hSw
    (try dsimp only at hSw)
    go_simp
    (try with_reducible rfl)
  try simp only [Act.put, List.setIfInBounds_toArray, List.set_cons_zero, List.set_cons_succ]
  refine wpAnyM_take (i := 7) (oi := { dst := some 195, op := Go.Op.load 63 (Go.Operand.tmp 194), type := 63, pos := "l14_machine.go:86", after := #[{ on := 6, ground := Go.Ground.data }], guard := none }) (v := ?_) rfl (by kernel_rfl) (by kernel_rfl) (by kernel_rfl) (by kernel_rfl) (fun _ _ _ h => h) (Or.inl ⟨by rfl, ?_⟩) (by assumption) ?_
  rotate_left
  · intro w hSw
    (try dsimp only at hSw)
    go_simp
    (try with_reducible rfl)
  try simp only [Act.put, List.setIfInBounds_toArray, List.set_cons_zero, List.set_cons_succ]
  refine wpAnyM_take (i := 8) (oi := { dst := some 196, op := Go.Op.nilCheck (Go.Operand.tmp 195), type := 0, pos := "l14_machine.go:86", after := #[{ on := 7, ground := Go.Ground.data }], guard := none }) (v := ?_) rfl (by kernel_rfl) (by kernel_rfl) (by kernel_rfl) (by kernel_rfl) (fun _ _ _ h => h) (Or.inl ⟨by rfl, ?_⟩) (by assumption) ?_
  rotate_left
  · intro w hSw
    (try dsimp only at hSw)
    go_simp
    (try with_reducible rfl)
  try simp only [Act.put, List.setIfInBounds_toArray, List.set_cons_zero, List.set_cons_succ]
  refine wpAnyM_take (i := 9) (oi := { dst := some 197, op := Go.Op.fieldAddr 69 (Go.Operand.tmp 196) 2, type := 0, pos := "l14_machine.go:86", after := #[{ on := 8, ground := Go.Ground.data }], guard := none }) (v := ?_) rfl (by kernel_rfl) (by kernel_rfl) (by kernel_rfl) (by kernel_rfl) (fun _ _ _ h => h) (Or.inl ⟨by rfl, ?_⟩) (by assumption) ?_
  rotate_left
  · intro w hSw
    (try dsimp only at hSw)
    go_simp
    (try with_reducible rfl)
  try simp only [Act.put, List.setIfInBounds_toArray, List.set_cons_zero, List.set_cons_succ]
  refine wpAnyM_take (i := 10) (oi := { dst := some 198, op := Go.Op.load 39 (Go.Operand.tmp 197), type := 39, pos := "l14_machine.go:86", after := #[{ on := 9, ground := Go.Ground.data }], guard := none }) (v := ?_) rfl (by kernel_rfl) (by kernel_rfl) (by kernel_rfl) (by kernel_rfl) (fun _ _ _ h => h) (Or.inl ⟨by rfl, ?_⟩) (by assumption) ?_
  rotate_left
  · intro w hSw
    (try dsimp only at hSw)
    go_simp
    (try with_reducible rfl)
  try simp only [Act.put, List.setIfInBounds_toArray, List.set_cons_zero, List.set_cons_succ]
  by_cases hc1 : cap = 1
  · have hn : n = 1 := by omega
    subst hc1
    subst hn
    refine wpAnyM_take (i := 11) (oi := { dst := some 199, op := Go.Op.slice 39 (Go.Operand.tmp 198) (some (Go.Operand.const (Go.Value.int Go.IntKind.i64 1))) none none, type := 39, pos := "l14_machine.go:86", after := #[{ on := 10, ground := Go.Ground.data }], guard := none }) (v := ?_) rfl (by kernel_rfl) (by kernel_rfl) (by kernel_rfl) (by kernel_rfl) (fun _ _ _ h => h) (Or.inl ⟨by rfl, ?_⟩) (by assumption) ?_
    rotate_left
    · intro w hSw
      (try dsimp only at hSw)
      go_simp
      (try with_reducible rfl)
    try simp only [Act.put, List.setIfInBounds_toArray, List.set_cons_zero, List.set_cons_succ]
    refine cmAnyM_oneK (i := 12) (o := { dst := some 200, op := Go.Op.nilCheck (Go.Operand.tmp 191), type := 0, pos := "l14_machine.go:86", after := #[{ on := 3, ground := Go.Ground.data }, { on := 0, ground := Go.Ground.phase }, { on := 1, ground := Go.Ground.phase }, { on := 2, ground := Go.Ground.phase }, { on := 3, ground := Go.Ground.phase }, { on := 4, ground := Go.Ground.phase }, { on := 5, ground := Go.Ground.phase }, { on := 6, ground := Go.Ground.phase }, { on := 7, ground := Go.Ground.phase }, { on := 8, ground := Go.Ground.phase }, { on := 9, ground := Go.Ground.phase }, { on := 10, ground := Go.Ground.phase }, { on := 11, ground := Go.Ground.phase }], guard := none }) rfl rfl (by kernel_rfl) (fun K9 hK9 => ?_)
    go_simp
    refine hK9 _ _ ⟨fun _ => hHeld, ?_⟩
    clear hK9
    refine wpAnyM_take (i := 13) (oi := { dst := some 201, op := Go.Op.fieldAddr 69 (Go.Operand.tmp 200) 2, type := 0, pos := "l14_machine.go:86", after := #[{ on := 12, ground := Go.Ground.data }, { on := 0, ground := Go.Ground.phase }, { on := 1, ground := Go.Ground.phase }, { on := 2, ground := Go.Ground.phase }, { on := 3, ground := Go.Ground.phase }, { on := 4, ground := Go.Ground.phase }, { on := 5, ground := Go.Ground.phase }, { on := 6, ground := Go.Ground.phase }, { on := 7, ground := Go.Ground.phase }, { on := 8, ground := Go.Ground.phase }, { on := 9, ground := Go.Ground.phase }, { on := 10, ground := Go.Ground.phase }, { on := 11, ground := Go.Ground.phase }], guard := none }) (v := ?_) rfl (by kernel_rfl) (by kernel_rfl) (by kernel_rfl) (by kernel_rfl) (fun _ _ _ h => h) (Or.inl ⟨by rfl, ?_⟩) (by assumption) ?_
    rotate_left
    · intro w hSw
      (try dsimp only at hSw)
      go_simp
      (try with_reducible rfl)
    try simp only [Act.put, List.setIfInBounds_toArray, List.set_cons_zero, List.set_cons_succ]
    refine cmAnyM_oneK (i := 14) (o := { dst := none, op := Go.Op.store 39 (Go.Operand.tmp 201) (Go.Operand.tmp 199), type := 0, pos := "l14_machine.go:86", after := #[{ on := 13, ground := Go.Ground.data }, { on := 11, ground := Go.Ground.data }, { on := 0, ground := Go.Ground.phase }, { on := 1, ground := Go.Ground.phase }, { on := 2, ground := Go.Ground.phase }, { on := 3, ground := Go.Ground.phase }, { on := 4, ground := Go.Ground.phase }, { on := 5, ground := Go.Ground.phase }, { on := 6, ground := Go.Ground.phase }, { on := 7, ground := Go.Ground.phase }, { on := 8, ground := Go.Ground.phase }, { on := 9, ground := Go.Ground.phase }, { on := 10, ground := Go.Ground.phase }, { on := 11, ground := Go.Ground.phase }], guard := none }) rfl rfl (by kernel_rfl) (fun K9 hK9 => ?_)
    go_simp
    refine hK9 _ _ ⟨fun h => absurd rfl h, wpAnyM_done (by kernel_rfl) ?_ _⟩
    clear hK9
    simp only [noThrow, Exit.inBlock, Exit.then]
    go_at_K
    go_wp2_with fail
    go_ret
    have hx := HRI.out _ (.inl ⟨rfl, by trivial⟩)
    exact ⟨rfl, _, _, _, _, _, _, _, _, _, _, _, _, _, (H4.out.setReads hx).drew⟩
  · have hi1 : (1 : Int) ≤ (n : Int) := by omega
    refine wpAnyM_take (i := 11) (oi := { dst := some 199, op := Go.Op.slice 39 (Go.Operand.tmp 198) (some (Go.Operand.const (Go.Value.int Go.IntKind.i64 1))) none none, type := 39, pos := "l14_machine.go:86", after := #[{ on := 10, ground := Go.Ground.data }], guard := none }) (v := ?_) rfl (by kernel_rfl) (by kernel_rfl) (by kernel_rfl) (by kernel_rfl) (fun _ _ _ h => h) (Or.inl ⟨by rfl, ?_⟩) (by assumption) ?_
    rotate_left
    · intro w hSw
      (try dsimp only at hSw)
      go_simp
      (try with_reducible rfl)
    try simp only [Act.put, List.setIfInBounds_toArray, List.set_cons_zero, List.set_cons_succ]
    refine cmAnyM_oneK (i := 12) (o := { dst := some 200, op := Go.Op.nilCheck (Go.Operand.tmp 191), type := 0, pos := "l14_machine.go:86", after := #[{ on := 3, ground := Go.Ground.data }, { on := 0, ground := Go.Ground.phase }, { on := 1, ground := Go.Ground.phase }, { on := 2, ground := Go.Ground.phase }, { on := 3, ground := Go.Ground.phase }, { on := 4, ground := Go.Ground.phase }, { on := 5, ground := Go.Ground.phase }, { on := 6, ground := Go.Ground.phase }, { on := 7, ground := Go.Ground.phase }, { on := 8, ground := Go.Ground.phase }, { on := 9, ground := Go.Ground.phase }, { on := 10, ground := Go.Ground.phase }, { on := 11, ground := Go.Ground.phase }], guard := none }) rfl rfl (by kernel_rfl) (fun K9 hK9 => ?_)
    go_simp
    refine hK9 _ _ ⟨fun _ => hHeld, ?_⟩
    clear hK9
    refine wpAnyM_take (i := 13) (oi := { dst := some 201, op := Go.Op.fieldAddr 69 (Go.Operand.tmp 200) 2, type := 0, pos := "l14_machine.go:86", after := #[{ on := 12, ground := Go.Ground.data }, { on := 0, ground := Go.Ground.phase }, { on := 1, ground := Go.Ground.phase }, { on := 2, ground := Go.Ground.phase }, { on := 3, ground := Go.Ground.phase }, { on := 4, ground := Go.Ground.phase }, { on := 5, ground := Go.Ground.phase }, { on := 6, ground := Go.Ground.phase }, { on := 7, ground := Go.Ground.phase }, { on := 8, ground := Go.Ground.phase }, { on := 9, ground := Go.Ground.phase }, { on := 10, ground := Go.Ground.phase }, { on := 11, ground := Go.Ground.phase }], guard := none }) (v := ?_) rfl (by kernel_rfl) (by kernel_rfl) (by kernel_rfl) (by kernel_rfl) (fun _ _ _ h => h) (Or.inl ⟨by rfl, ?_⟩) (by assumption) ?_
    rotate_left
    · intro w hSw
      (try dsimp only at hSw)
      go_simp
      (try with_reducible rfl)
    try simp only [Act.put, List.setIfInBounds_toArray, List.set_cons_zero, List.set_cons_succ]
    refine cmAnyM_oneK (i := 14) (o := { dst := none, op := Go.Op.store 39 (Go.Operand.tmp 201) (Go.Operand.tmp 199), type := 0, pos := "l14_machine.go:86", after := #[{ on := 13, ground := Go.Ground.data }, { on := 11, ground := Go.Ground.data }, { on := 0, ground := Go.Ground.phase }, { on := 1, ground := Go.Ground.phase }, { on := 2, ground := Go.Ground.phase }, { on := 3, ground := Go.Ground.phase }, { on := 4, ground := Go.Ground.phase }, { on := 5, ground := Go.Ground.phase }, { on := 6, ground := Go.Ground.phase }, { on := 7, ground := Go.Ground.phase }, { on := 8, ground := Go.Ground.phase }, { on := 9, ground := Go.Ground.phase }, { on := 10, ground := Go.Ground.phase }, { on := 11, ground := Go.Ground.phase }], guard := none }) rfl rfl (by kernel_rfl) (fun K9 hK9 => ?_)
    go_simp
    refine hK9 _ _ ⟨fun h => absurd rfl h, wpAnyM_done (by kernel_rfl) ?_ _⟩
    clear hK9
    simp only [noThrow, Exit.inBlock, Exit.then]
    go_at_K
    go_wp2_with fail
    go_ret
    have hx := HRI.out _ (.inr rfl)
    exact ⟨rfl, _, _, _, _, _, _, _, _, _, _, _, _, _, (H4.out.setReads hx).drew⟩

end
end Go.Proofs.YtebcocehdjoafaaDoor
