/- A place of a list is done: the model's l6Ins, for each kind of place. -/
import Derived.Test.YtkpddakmcnknjaaSpecMem
import Derived.Test.YtkpddakmcnknjaaImplStep
namespace Go.Proofs.Ytkpddakmcnknjaa
open Go.ChangeShapes Go.WideShapes Go.ChangeAt Go.RowKit Go.Shelf
set_option linter.unusedVariables false

theorem keep_copyV {w : World} {R d a : Nat} {y : Int} (c : w.cell? ⟨R, a, none⟩ = some (.int .i64 y)) : (w.setCell ⟨R, d, none⟩ (.int .i64 y)).cell? ⟨R, a, none⟩ = some (.int .i64 y) := by
  by_cases e : a = d
  · subst e
    exact World.cell?_setCell_same _ _ _ c
  · exact far_off c e
theorem FrR.setRow {P vb o lo n cap : Nat} {w : World} {l : List Int} (h : OwnInts w lo (.slice (some ⟨vb, 0, none⟩) n cap) l) (v : Value) : FrR P P w (w.setCell ⟨vb, o, none⟩ v) :=
  ⟨by simp, fun i ob hi _ _ h3 => by
    rw [heap_setCell_other _ _ _ _ (fun e => by
      obtain ⟨c, hc⟩ := h.heapOf
      have e2 : i = vb := e
      rw [e2, hc] at hi
      cases hi
      exact h3 _ _ rfl)]
    exact hi⟩

theorem in7_yes {x : Int} (h : cellOk x) (w : World) : Calls Try.prog 52 #[.int .i64 x, .int .i64 0, .int .i64 7] w fun e w' => e = .returned (.bool true) ∧ w' = w := by
  have h0 : (0 : Int) ≤ x := h.1
  have h1 : x ≤ 7 := h.2
  go_enter Try.func52, Try.ntmps52
  go_wp2
  go_ret
  exact ⟨rfl, rfl⟩
theorem in7_no {x : Int} (h : ¬ cellOk x) (w : World) : Calls Try.prog 52 #[.int .i64 x, .int .i64 0, .int .i64 7] w fun e w' => e = .returned (.bool false) ∧ w' = w := by
  by_cases h0 : (0 : Int) ≤ x
  · have h1 : ¬ x ≤ 7 := fun h1 => h ⟨h0, h1⟩
    clear h
    go_enter Try.func52, Try.ntmps52
    go_wp2
    go_ret
    exact ⟨rfl, rfl⟩
  · clear h
    go_enter Try.func52, Try.ntmps52
    go_wp2
    go_ret
    exact ⟨rfl, rfl⟩
/-- append to a list of the call's own, as an operation. -/
theorem wp_append_loc {P : Program} {o : Oper} {a : Act} {w : World} {K : Act → World → Prop} {Q : Exit → Act → World → Prop}
    (s x : Operand) (t : TypeId) (hop : o.op = Op.call { callee := Callee.builtin Builtin.append, args := #[s, x], argTypes := #[t, t] })
    (base : Nat) (e : TypeId) (i : TypeInfo) (z : Value) (size bytes : Nat) (h1 : P.underlying t = some (.slice e)) (h2 : P.info? e = some i) (h3 : i.zero = some z) (h4 : i.size = size) (h5 : i.bytes = bytes) (h6 : z.cells.size = size) (h7 : 0 < size)
    (v : Value) (k : Nat) (xs : List Value) (hs : a.eval s = v) (hown : w.ownsRow base e size v k xs) (ad : Addr) (m c : Nat) (news : List Value) (hx : a.eval x = .slice (some ad) m c) (hn : news.length = m * size)
    (hc : ∀ j u, news[j]? = some u → w.cell? (ad.add j) = some u) (h1c : ∀ u ∈ news, u.oneCell' = true) (b1 : k + m ≤ maxLen) (b2 : (k + m) * bytes ≤ 140737488355328) (b3 : base ≤ w.heap.size)
    (hK : ∀ v' w', w'.ownsRow base e size v' (k + m) (xs ++ news) → w.grownBy w' v.ownBlock → (v'.ownBlock = v.ownBlock ∨ v'.ownBlock = some w.heap.size) → K (a.put o.dst v') w') : Oper.wp P o a w K Q := by
  obtain ⟨v', w', hrun, r1, r2, r3, r4⟩ := run_append_own_at (P := P) w base t o.type e i z size bytes h1 h2 h3 h4 h5 h6 h7 v k xs hown ad m c news hn hc h1c b1 b2 b3
  unfold Oper.wp
  simp [execOp, hop, resolve, invoke, builtin, hs, hx, hrun, Result.andThen]
  exact hK v' w' r1 r2 r4
theorem updN_updN (f : Nat → Int) (d : Nat) (x y : Int) : updN (updN f d x) d y = updN f d y := by
  funext i
  unfold updN
  split <;> rfl

section
variable {W0 : World} {P vn : Nat} {s : RunS}

set_option maxRecDepth 100000 in
set_option maxHeartbeats 4000000 in
theorem sIns_const (d : Nat) (n : Int) (hd : d < vn) (w : World) (h : SIs W0 w P vn s) :
    Calls Try.prog 58 #[.pointer (some ⟨P, 0, none⟩), .agg #[.int .i64 20, .int .i64 (d : Int), .int .i64 0, .int .i64 0, .int .i64 n]] w fun e w' => e = .returned (.int .i64 0) ∧ STo W0 P vn w { s with vals := updN s.vals d n } w' := by
  obtain ⟨vb, vc, cb, cc, rv, rb, tb, tc, pb, pc, h⟩ := h
  have HH0 : Hid (SAt W0 w P vn s vb vc cb cc rv rb tb tc pb pc) := h
  have hd2 : (d : Int) < (vn : Int) := by omega
  clear h
  have hok : wordOkV 20 = false := rfl
  go_enter Try.func58, Try.ntmps58
  go_wp2_with fail
  refine (spec_wordOk 20 _).mono ?_
  rintro e w1 ⟨rfl, hw1⟩
  subst hw1
  rw [hok]
  have bx := World.alloc_heap_new w (.cells #[.int .i64 20, .int .i64 (d : Int), .int .i64 0, .int .i64 0, .int .i64 n] 91)
  have h := HH0.out.later (Bel.alloc w (.cells #[.int .i64 20, .int .i64 (d : Int), .int .i64 0, .int .i64 0, .int .i64 n] 91))
  have HF : Hid (FrR P P w (w.alloc (.cells #[.int .i64 20, .int .i64 (d : Int), .int .i64 0, .int .i64 0, .int .i64 n] 91))) := FrR.ofBelow (Bel.alloc w _)
  have hPB : P ≠ w.heap.size := by have := HH0.out.lt; omega
  have HBw : Hid (w.heap.size ≤ w.heap.size) := Nat.le_refl _
  generalize w.alloc (.cells #[.int .i64 20, .int .i64 (d : Int), .int .i64 0, .int .i64 0, .int .i64 n] 91) = w1 at bx h HF ⊢
  generalize w.heap.size = B at bx hPB ⊢
  have x0 : w1.cell? ⟨B, 0, none⟩ = some (.int .i64 20) := by simp [World.cell?, bx]
  have x1 : w1.cell? ⟨B, 1, none⟩ = some (.int .i64 (d : Int)) := by simp [World.cell?, bx]
  have x2 : w1.cell? ⟨B, 2, none⟩ = some (.int .i64 0) := by simp [World.cell?, bx]
  have x3 : w1.cell? ⟨B, 3, none⟩ = some (.int .i64 0) := by simp [World.cell?, bx]
  have x4 : w1.cell? ⟨B, 4, none⟩ = some (.int .i64 n) := by simp [World.cell?, bx]
  have HBX : Hid (w1.heap[B]? = some (.cells #[.int .i64 20, .int .i64 (d : Int), .int .i64 0, .int .i64 0, .int .i64 n] 91 (0, 0))) := bx
  have hVB : vb ≠ B := fun e => not_row bx (by decide) h.vals.heapOf e.symm
  have hCB : cb ≠ B := fun e => not_row bx (by decide) h.cells.heapOf e.symm
  have hPV : P ≠ vb := not_row h.box (by decide) h.vals.heapOf
  have hPC : P ≠ cb := not_row h.box (by decide) h.cells.heapOf
  have hVC := h.d1
  obtain ⟨p0, p1, p2, p3, p4, p5⟩ := h.cell
  have HH : Hid (SAt W0 w1 P vn s vb vc cb cc rv rb tb tc pb pc) := h
  have fv : ∀ i, w1.frozen? ⟨vb, i, none⟩ = false := fun i => frozen_of_cells h.vals.heapOf i
  have fc : ∀ i, w1.frozen? ⟨cb, i, none⟩ = false := fun i => frozen_of_cells h.cells.heapOf i
  clear bx
  have cd := h.valAt hd
  obtain ⟨z, Hz⟩ : ∃ z, Hid (s.vals d = z) := ⟨_, rfl⟩
  rw [Hz.out] at cd
  have fz := fv d
  clear h fv fc
  go_wp2_with fail
  go_region_held3 (fun w' => w'.cell? ⟨P, 0, none⟩ = some (.slice (some ⟨vb, 0, none⟩) vn vc) ∧ w'.cell? ⟨B, 1, none⟩ = some (.int .i64 (d : Int)) ∧ w'.cell? ⟨B, 4, none⟩ = some (.int .i64 n)) (first | exact ⟨far_block p0 (fun e => hPV e.symm), far_block x1 hVB, far_block x4 hVB⟩ | go_keep) (fail)
  simp only [Exit.inBlock, Exit.then]
  go_at_K
  go_wp2
  go_ret
  refine ⟨rfl, ⟨vb, vc, cb, cc, rv, rb, tb, tc, pb, pc, ?_⟩, ?_⟩
  · first | exact (HH.out.setVal hd n).drew | exact HH.out.setVal hd n
  · refine HF.out.trans ((FrR.setRow (P := P) (o := d) HH.out.vals (.int .i64 n)).trans ?_)
    first | exact FrR.refl _ _ _ | exact FrR.drew _ _ _ | exact (FrR.drew _ _ _).trans (FrR.drew _ _ _)

set_option maxRecDepth 100000 in
set_option maxHeartbeats 4000000 in
theorem sIns_copy (d a : Nat) (hd : d < vn) (ha : a < vn) (w : World) (h : SIs W0 w P vn s) :
    Calls Try.prog 58 #[.pointer (some ⟨P, 0, none⟩), .agg #[.int .i64 25, .int .i64 (d : Int), .int .i64 (a : Int), .int .i64 0, .int .i64 0]] w fun e w' => e = .returned (.int .i64 0) ∧ STo W0 P vn w { s with vals := updN s.vals d (s.vals a) } w' := by
  obtain ⟨vb, vc, cb, cc, rv, rb, tb, tc, pb, pc, h⟩ := h
  have HH0 : Hid (SAt W0 w P vn s vb vc cb cc rv rb tb tc pb pc) := h
  have hd2 : (d : Int) < (vn : Int) := by omega
  have ha2 : (a : Int) < (vn : Int) := by omega
  clear h
  have hok : wordOkV 25 = false := rfl
  go_enter Try.func58, Try.ntmps58
  go_wp2_with fail
  refine (spec_wordOk 25 _).mono ?_
  rintro e w1 ⟨rfl, hw1⟩
  subst hw1
  rw [hok]
  have bx := World.alloc_heap_new w (.cells #[.int .i64 25, .int .i64 (d : Int), .int .i64 (a : Int), .int .i64 0, .int .i64 0] 91)
  have h := HH0.out.later (Bel.alloc w (.cells #[.int .i64 25, .int .i64 (d : Int), .int .i64 (a : Int), .int .i64 0, .int .i64 0] 91))
  have HF : Hid (FrR P P w (w.alloc (.cells #[.int .i64 25, .int .i64 (d : Int), .int .i64 (a : Int), .int .i64 0, .int .i64 0] 91))) := FrR.ofBelow (Bel.alloc w _)
  have hPB : P ≠ w.heap.size := by have := HH0.out.lt; omega
  have HBw : Hid (w.heap.size ≤ w.heap.size) := Nat.le_refl _
  generalize w.alloc (.cells #[.int .i64 25, .int .i64 (d : Int), .int .i64 (a : Int), .int .i64 0, .int .i64 0] 91) = w1 at bx h HF ⊢
  generalize w.heap.size = B at bx hPB ⊢
  have x0 : w1.cell? ⟨B, 0, none⟩ = some (.int .i64 25) := by simp [World.cell?, bx]
  have x1 : w1.cell? ⟨B, 1, none⟩ = some (.int .i64 (d : Int)) := by simp [World.cell?, bx]
  have x2 : w1.cell? ⟨B, 2, none⟩ = some (.int .i64 (a : Int)) := by simp [World.cell?, bx]
  have x3 : w1.cell? ⟨B, 3, none⟩ = some (.int .i64 0) := by simp [World.cell?, bx]
  have x4 : w1.cell? ⟨B, 4, none⟩ = some (.int .i64 0) := by simp [World.cell?, bx]
  have HBX : Hid (w1.heap[B]? = some (.cells #[.int .i64 25, .int .i64 (d : Int), .int .i64 (a : Int), .int .i64 0, .int .i64 0] 91 (0, 0))) := bx
  have hVB : vb ≠ B := fun e => not_row bx (by decide) h.vals.heapOf e.symm
  have hCB : cb ≠ B := fun e => not_row bx (by decide) h.cells.heapOf e.symm
  have hPV : P ≠ vb := not_row h.box (by decide) h.vals.heapOf
  have hPC : P ≠ cb := not_row h.box (by decide) h.cells.heapOf
  have hVC := h.d1
  obtain ⟨p0, p1, p2, p3, p4, p5⟩ := h.cell
  have HH : Hid (SAt W0 w1 P vn s vb vc cb cc rv rb tb tc pb pc) := h
  have fv : ∀ i, w1.frozen? ⟨vb, i, none⟩ = false := fun i => frozen_of_cells h.vals.heapOf i
  have fc : ∀ i, w1.frozen? ⟨cb, i, none⟩ = false := fun i => frozen_of_cells h.cells.heapOf i
  clear bx
  have cd := h.valAt hd
  obtain ⟨z, Hz⟩ : ∃ z, Hid (s.vals d = z) := ⟨_, rfl⟩
  rw [Hz.out] at cd
  have ca := h.valAt ha
  obtain ⟨y, Hy⟩ : ∃ y, Hid (s.vals a = y) := ⟨_, rfl⟩
  rw [Hy.out] at ca
  have fz := fv d
  clear h fv fc
  go_wp2_with fail
  go_region_held3 (fun w' => w'.cell? ⟨P, 0, none⟩ = some (.slice (some ⟨vb, 0, none⟩) vn vc) ∧ w'.cell? ⟨B, 1, none⟩ = some (.int .i64 (d : Int)) ∧ w'.cell? ⟨B, 2, none⟩ = some (.int .i64 (a : Int)) ∧ w'.cell? ⟨vb, a, none⟩ = some (.int .i64 y)) (first | exact ⟨far_block p0 (fun e => hPV e.symm), far_block x1 hVB, far_block x2 hVB, keep_copyV ca⟩ | go_keep) (fail)
  simp only [Exit.inBlock, Exit.then]
  go_at_K
  go_wp2
  go_ret
  rw [Hy.out]
  refine ⟨rfl, ⟨vb, vc, cb, cc, rv, rb, tb, tc, pb, pc, ?_⟩, ?_⟩
  · first | exact (HH.out.setVal hd y).drew | exact HH.out.setVal hd y
  · refine HF.out.trans ((FrR.setRow (P := P) (o := d) HH.out.vals (.int .i64 y)).trans ?_)
    first | exact FrR.refl _ _ _ | exact FrR.drew _ _ _ | exact (FrR.drew _ _ _).trans (FrR.drew _ _ _)

set_option maxRecDepth 100000 in
set_option maxHeartbeats 4000000 in
theorem sIns_word (op : Int) (d a b : Nat) (hd : d < vn) (ha : a < vn) (hb : b < vn) (hop : 1 ≤ op) (hop1 : op ≤ 10) (w : World) (h : SIs W0 w P vn s) :
    Calls Try.prog 58 #[.pointer (some ⟨P, 0, none⟩), .agg #[.int .i64 op, .int .i64 (d : Int), .int .i64 (a : Int), .int .i64 (b : Int), .int .i64 0]] w fun e w' => e = .returned (.int .i64 0) ∧ STo W0 P vn w { s with vals := updN s.vals d (wordV op (s.vals a) (s.vals b)) } w' := by
  obtain ⟨vb, vc, cb, cc, rv, rb, tb, tc, pb, pc, h⟩ := h
  have HH0 : Hid (SAt W0 w P vn s vb vc cb cc rv rb tb tc pb pc) := h
  have hd2 : (d : Int) < (vn : Int) := by omega
  have ha2 : (a : Int) < (vn : Int) := by omega
  have hb2 : (b : Int) < (vn : Int) := by omega
  clear h
  have hok : wordOkV op = true := wordOkV_yes hop hop1
  go_enter Try.func58, Try.ntmps58
  go_wp2_with fail
  refine (spec_wordOk op _).mono ?_
  rintro e w1 ⟨rfl, hw1⟩
  subst hw1
  rw [hok]
  have bx := World.alloc_heap_new w (.cells #[.int .i64 op, .int .i64 (d : Int), .int .i64 (a : Int), .int .i64 (b : Int), .int .i64 0] 91)
  have h := HH0.out.later (Bel.alloc w (.cells #[.int .i64 op, .int .i64 (d : Int), .int .i64 (a : Int), .int .i64 (b : Int), .int .i64 0] 91))
  have HF : Hid (FrR P P w (w.alloc (.cells #[.int .i64 op, .int .i64 (d : Int), .int .i64 (a : Int), .int .i64 (b : Int), .int .i64 0] 91))) := FrR.ofBelow (Bel.alloc w _)
  have hPB : P ≠ w.heap.size := by have := HH0.out.lt; omega
  have HBw : Hid (w.heap.size ≤ w.heap.size) := Nat.le_refl _
  generalize w.alloc (.cells #[.int .i64 op, .int .i64 (d : Int), .int .i64 (a : Int), .int .i64 (b : Int), .int .i64 0] 91) = w1 at bx h HF ⊢
  generalize w.heap.size = B at bx hPB ⊢
  have x0 : w1.cell? ⟨B, 0, none⟩ = some (.int .i64 op) := by simp [World.cell?, bx]
  have x1 : w1.cell? ⟨B, 1, none⟩ = some (.int .i64 (d : Int)) := by simp [World.cell?, bx]
  have x2 : w1.cell? ⟨B, 2, none⟩ = some (.int .i64 (a : Int)) := by simp [World.cell?, bx]
  have x3 : w1.cell? ⟨B, 3, none⟩ = some (.int .i64 (b : Int)) := by simp [World.cell?, bx]
  have x4 : w1.cell? ⟨B, 4, none⟩ = some (.int .i64 0) := by simp [World.cell?, bx]
  have HBX : Hid (w1.heap[B]? = some (.cells #[.int .i64 op, .int .i64 (d : Int), .int .i64 (a : Int), .int .i64 (b : Int), .int .i64 0] 91 (0, 0))) := bx
  have hVB : vb ≠ B := fun e => not_row bx (by decide) h.vals.heapOf e.symm
  have hCB : cb ≠ B := fun e => not_row bx (by decide) h.cells.heapOf e.symm
  have hPV : P ≠ vb := not_row h.box (by decide) h.vals.heapOf
  have hPC : P ≠ cb := not_row h.box (by decide) h.cells.heapOf
  have hVC := h.d1
  obtain ⟨p0, p1, p2, p3, p4, p5⟩ := h.cell
  have HH : Hid (SAt W0 w1 P vn s vb vc cb cc rv rb tb tc pb pc) := h
  have fv : ∀ i, w1.frozen? ⟨vb, i, none⟩ = false := fun i => frozen_of_cells h.vals.heapOf i
  have fc : ∀ i, w1.frozen? ⟨cb, i, none⟩ = false := fun i => frozen_of_cells h.cells.heapOf i
  clear bx
  have cd := h.valAt hd
  obtain ⟨z, Hz⟩ : ∃ z, Hid (s.vals d = z) := ⟨_, rfl⟩
  rw [Hz.out] at cd
  have ca := h.valAt ha
  obtain ⟨y, Hy⟩ : ∃ y, Hid (s.vals a = y) := ⟨_, rfl⟩
  rw [Hy.out] at ca
  have cb9 := h.valAt hb
  obtain ⟨x, Hx⟩ : ∃ x, Hid (s.vals b = x) := ⟨_, rfl⟩
  rw [Hx.out] at cb9
  have fz := fv d
  clear h fv fc
  go_wp2_with fail
  have hS : (fun w' => w'.cell? ⟨P, 0, none⟩ = some (.slice (some ⟨vb, 0, none⟩) vn vc) ∧ w'.cell? ⟨B, 0, none⟩ = some (.int .i64 op) ∧ w'.cell? ⟨B, 1, none⟩ = some (.int .i64 (d : Int)) ∧ w'.cell? ⟨B, 2, none⟩ = some (.int .i64 (a : Int)) ∧ w'.cell? ⟨B, 3, none⟩ = some (.int .i64 (b : Int)) ∧ w'.cell? ⟨vb, a, none⟩ = some (.int .i64 y) ∧ w'.cell? ⟨vb, b, none⟩ = some (.int .i64 x)) w1.drew := ⟨p0, x0, x1, x2, x3, ca, cb9⟩
  refine region_M 26 (fun w' => w'.cell? ⟨P, 0, none⟩ = some (.slice (some ⟨vb, 0, none⟩) vn vc) ∧ w'.cell? ⟨B, 0, none⟩ = some (.int .i64 op) ∧ w'.cell? ⟨B, 1, none⟩ = some (.int .i64 (d : Int)) ∧ w'.cell? ⟨B, 2, none⟩ = some (.int .i64 (a : Int)) ∧ w'.cell? ⟨B, 3, none⟩ = some (.int .i64 (b : Int)) ∧ w'.cell? ⟨vb, a, none⟩ = some (.int .i64 y) ∧ w'.cell? ⟨vb, b, none⟩ = some (.int .i64 x)) (by kernel_rfl) ?_
  refine wpAnyM_take (i := 0) (oi := { dst := some 9, op := Op.move (Operand.tmp 0), type := 66, pos := "l06_run.go:19", after := #[], guard := none }) (v := .pointer (some ⟨P, 0, none⟩)) rfl (by kernel_rfl) (by kernel_rfl) (by kernel_rfl) (by kernel_rfl) (fun _ _ _ h => h) (Or.inl ⟨by rfl, fun W hW => by obtain ⟨q0, q1, q2, q3, q4, q5, q6⟩ := hW; go_simp⟩) hS ?_
  simp only [Act.put, List.setIfInBounds_toArray, List.set_cons_zero, List.set_cons_succ]
  refine wpAnyM_take (i := 1) (oi := { dst := some 10, op := Op.nilCheck (Operand.tmp 9), type := 0, pos := "l06_run.go:19", after := #[{ on := 0, ground := Ground.data }], guard := none }) (v := .pointer (some ⟨P, 0, none⟩)) rfl (by kernel_rfl) (by kernel_rfl) (by kernel_rfl) (by kernel_rfl) (fun _ _ _ h => h) (Or.inl ⟨by rfl, fun W hW => by obtain ⟨q0, q1, q2, q3, q4, q5, q6⟩ := hW; go_simp⟩) hS ?_
  simp only [Act.put, List.setIfInBounds_toArray, List.set_cons_zero, List.set_cons_succ]
  refine wpAnyM_take (i := 2) (oi := { dst := some 11, op := Op.fieldAddr 70 (Operand.tmp 10) 0, type := 0, pos := "l06_run.go:19", after := #[{ on := 1, ground := Ground.data }], guard := none }) (v := .pointer (some ⟨P, 0, none⟩)) rfl (by kernel_rfl) (by kernel_rfl) (by kernel_rfl) (by kernel_rfl) (fun _ _ _ h => h) (Or.inl ⟨by rfl, fun W hW => by obtain ⟨q0, q1, q2, q3, q4, q5, q6⟩ := hW; go_simp⟩) hS ?_
  simp only [Act.put, List.setIfInBounds_toArray, List.set_cons_zero, List.set_cons_succ]
  refine wpAnyM_take (i := 3) (oi := { dst := some 12, op := Op.load 27 (Operand.tmp 11), type := 27, pos := "l06_run.go:19", after := #[{ on := 2, ground := Ground.data }], guard := none }) (v := .slice (some ⟨vb, 0, none⟩) vn vc) rfl (by kernel_rfl) (by kernel_rfl) (by kernel_rfl) (by kernel_rfl) (fun _ _ _ h => h) (Or.inl ⟨by rfl, fun W hW => by obtain ⟨q0, q1, q2, q3, q4, q5, q6⟩ := hW; go_simp⟩) hS ?_
  simp only [Act.put, List.setIfInBounds_toArray, List.set_cons_zero, List.set_cons_succ]
  refine wpAnyM_take (i := 4) (oi := { dst := some 13, op := Op.fieldAddr 91 (Operand.tmp 3) 1, type := 0, pos := "l06_run.go:19", after := #[], guard := none }) (v := .pointer (some ⟨B, 1, none⟩)) rfl (by kernel_rfl) (by kernel_rfl) (by kernel_rfl) (by kernel_rfl) (fun _ _ _ h => h) (Or.inl ⟨by rfl, fun W hW => by obtain ⟨q0, q1, q2, q3, q4, q5, q6⟩ := hW; go_simp⟩) hS ?_
  simp only [Act.put, List.setIfInBounds_toArray, List.set_cons_zero, List.set_cons_succ]
  refine wpAnyM_take (i := 5) (oi := { dst := some 14, op := Op.load 3 (Operand.tmp 13), type := 3, pos := "l06_run.go:19", after := #[{ on := 4, ground := Ground.data }], guard := none }) (v := .int .i64 (d : Int)) rfl (by kernel_rfl) (by kernel_rfl) (by kernel_rfl) (by kernel_rfl) (fun _ _ _ h => h) (Or.inl ⟨by rfl, fun W hW => by obtain ⟨q0, q1, q2, q3, q4, q5, q6⟩ := hW; go_simp⟩) hS ?_
  simp only [Act.put, List.setIfInBounds_toArray, List.set_cons_zero, List.set_cons_succ]
  refine wpAnyM_take (i := 6) (oi := { dst := some 15, op := Op.fieldAddr 91 (Operand.tmp 3) 0, type := 0, pos := "l06_run.go:19", after := #[], guard := none }) (v := .pointer (some ⟨B, 0, none⟩)) rfl (by kernel_rfl) (by kernel_rfl) (by kernel_rfl) (by kernel_rfl) (fun _ _ _ h => h) (Or.inl ⟨by rfl, fun W hW => by obtain ⟨q0, q1, q2, q3, q4, q5, q6⟩ := hW; go_simp⟩) hS ?_
  simp only [Act.put, List.setIfInBounds_toArray, List.set_cons_zero, List.set_cons_succ]
  refine wpAnyM_take (i := 7) (oi := { dst := some 16, op := Op.load 3 (Operand.tmp 15), type := 3, pos := "l06_run.go:19", after := #[{ on := 6, ground := Ground.data }], guard := none }) (v := .int .i64 op) rfl (by kernel_rfl) (by kernel_rfl) (by kernel_rfl) (by kernel_rfl) (fun _ _ _ h => h) (Or.inl ⟨by rfl, fun W hW => by obtain ⟨q0, q1, q2, q3, q4, q5, q6⟩ := hW; go_simp⟩) hS ?_
  simp only [Act.put, List.setIfInBounds_toArray, List.set_cons_zero, List.set_cons_succ]
  refine wpAnyM_take (i := 8) (oi := { dst := some 17, op := Op.move (Operand.tmp 0), type := 66, pos := "l06_run.go:19", after := #[], guard := none }) (v := .pointer (some ⟨P, 0, none⟩)) rfl (by kernel_rfl) (by kernel_rfl) (by kernel_rfl) (by kernel_rfl) (fun _ _ _ h => h) (Or.inl ⟨by rfl, fun W hW => by obtain ⟨q0, q1, q2, q3, q4, q5, q6⟩ := hW; go_simp⟩) hS ?_
  simp only [Act.put, List.setIfInBounds_toArray, List.set_cons_zero, List.set_cons_succ]
  refine wpAnyM_take (i := 9) (oi := { dst := some 18, op := Op.nilCheck (Operand.tmp 17), type := 0, pos := "l06_run.go:19", after := #[{ on := 8, ground := Ground.data }], guard := none }) (v := .pointer (some ⟨P, 0, none⟩)) rfl (by kernel_rfl) (by kernel_rfl) (by kernel_rfl) (by kernel_rfl) (fun _ _ _ h => h) (Or.inl ⟨by rfl, fun W hW => by obtain ⟨q0, q1, q2, q3, q4, q5, q6⟩ := hW; go_simp⟩) hS ?_
  simp only [Act.put, List.setIfInBounds_toArray, List.set_cons_zero, List.set_cons_succ]
  refine wpAnyM_take (i := 10) (oi := { dst := some 19, op := Op.fieldAddr 70 (Operand.tmp 18) 0, type := 0, pos := "l06_run.go:19", after := #[{ on := 9, ground := Ground.data }], guard := none }) (v := .pointer (some ⟨P, 0, none⟩)) rfl (by kernel_rfl) (by kernel_rfl) (by kernel_rfl) (by kernel_rfl) (fun _ _ _ h => h) (Or.inl ⟨by rfl, fun W hW => by obtain ⟨q0, q1, q2, q3, q4, q5, q6⟩ := hW; go_simp⟩) hS ?_
  simp only [Act.put, List.setIfInBounds_toArray, List.set_cons_zero, List.set_cons_succ]
  refine wpAnyM_take (i := 11) (oi := { dst := some 20, op := Op.load 27 (Operand.tmp 19), type := 27, pos := "l06_run.go:19", after := #[{ on := 10, ground := Ground.data }], guard := none }) (v := .slice (some ⟨vb, 0, none⟩) vn vc) rfl (by kernel_rfl) (by kernel_rfl) (by kernel_rfl) (by kernel_rfl) (fun _ _ _ h => h) (Or.inl ⟨by rfl, fun W hW => by obtain ⟨q0, q1, q2, q3, q4, q5, q6⟩ := hW; go_simp⟩) hS ?_
  simp only [Act.put, List.setIfInBounds_toArray, List.set_cons_zero, List.set_cons_succ]
  refine wpAnyM_take (i := 12) (oi := { dst := some 21, op := Op.fieldAddr 91 (Operand.tmp 3) 2, type := 0, pos := "l06_run.go:19", after := #[], guard := none }) (v := .pointer (some ⟨B, 2, none⟩)) rfl (by kernel_rfl) (by kernel_rfl) (by kernel_rfl) (by kernel_rfl) (fun _ _ _ h => h) (Or.inl ⟨by rfl, fun W hW => by obtain ⟨q0, q1, q2, q3, q4, q5, q6⟩ := hW; go_simp⟩) hS ?_
  simp only [Act.put, List.setIfInBounds_toArray, List.set_cons_zero, List.set_cons_succ]
  refine wpAnyM_take (i := 13) (oi := { dst := some 22, op := Op.load 3 (Operand.tmp 21), type := 3, pos := "l06_run.go:19", after := #[{ on := 12, ground := Ground.data }], guard := none }) (v := .int .i64 (a : Int)) rfl (by kernel_rfl) (by kernel_rfl) (by kernel_rfl) (by kernel_rfl) (fun _ _ _ h => h) (Or.inl ⟨by rfl, fun W hW => by obtain ⟨q0, q1, q2, q3, q4, q5, q6⟩ := hW; go_simp⟩) hS ?_
  simp only [Act.put, List.setIfInBounds_toArray, List.set_cons_zero, List.set_cons_succ]
  refine wpAnyM_take (i := 14) (oi := { dst := some 23, op := Op.indexAddr 27 (Operand.tmp 20) (Operand.tmp 22), type := 0, pos := "l06_run.go:19", after := #[{ on := 11, ground := Ground.data }, { on := 13, ground := Ground.data }], guard := none }) (v := .pointer (some ⟨vb, a, none⟩)) rfl (by kernel_rfl) (by kernel_rfl) (by kernel_rfl) (by kernel_rfl) (fun _ _ _ h => h) (Or.inl ⟨by rfl, fun W hW => by obtain ⟨q0, q1, q2, q3, q4, q5, q6⟩ := hW; go_simp⟩) hS ?_
  simp only [Act.put, List.setIfInBounds_toArray, List.set_cons_zero, List.set_cons_succ]
  refine wpAnyM_take (i := 15) (oi := { dst := some 24, op := Op.load 3 (Operand.tmp 23), type := 3, pos := "l06_run.go:19", after := #[{ on := 14, ground := Ground.data }], guard := none }) (v := .int .i64 y) rfl (by kernel_rfl) (by kernel_rfl) (by kernel_rfl) (by kernel_rfl) (fun _ _ _ h => h) (Or.inl ⟨by rfl, fun W hW => by obtain ⟨q0, q1, q2, q3, q4, q5, q6⟩ := hW; go_simp⟩) hS ?_
  simp only [Act.put, List.setIfInBounds_toArray, List.set_cons_zero, List.set_cons_succ]
  refine wpAnyM_take (i := 16) (oi := { dst := some 25, op := Op.move (Operand.tmp 0), type := 66, pos := "l06_run.go:19", after := #[], guard := none }) (v := .pointer (some ⟨P, 0, none⟩)) rfl (by kernel_rfl) (by kernel_rfl) (by kernel_rfl) (by kernel_rfl) (fun _ _ _ h => h) (Or.inl ⟨by rfl, fun W hW => by obtain ⟨q0, q1, q2, q3, q4, q5, q6⟩ := hW; go_simp⟩) hS ?_
  simp only [Act.put, List.setIfInBounds_toArray, List.set_cons_zero, List.set_cons_succ]
  refine wpAnyM_take (i := 17) (oi := { dst := some 26, op := Op.nilCheck (Operand.tmp 25), type := 0, pos := "l06_run.go:19", after := #[{ on := 16, ground := Ground.data }], guard := none }) (v := .pointer (some ⟨P, 0, none⟩)) rfl (by kernel_rfl) (by kernel_rfl) (by kernel_rfl) (by kernel_rfl) (fun _ _ _ h => h) (Or.inl ⟨by rfl, fun W hW => by obtain ⟨q0, q1, q2, q3, q4, q5, q6⟩ := hW; go_simp⟩) hS ?_
  simp only [Act.put, List.setIfInBounds_toArray, List.set_cons_zero, List.set_cons_succ]
  refine wpAnyM_take (i := 18) (oi := { dst := some 27, op := Op.fieldAddr 70 (Operand.tmp 26) 0, type := 0, pos := "l06_run.go:19", after := #[{ on := 17, ground := Ground.data }], guard := none }) (v := .pointer (some ⟨P, 0, none⟩)) rfl (by kernel_rfl) (by kernel_rfl) (by kernel_rfl) (by kernel_rfl) (fun _ _ _ h => h) (Or.inl ⟨by rfl, fun W hW => by obtain ⟨q0, q1, q2, q3, q4, q5, q6⟩ := hW; go_simp⟩) hS ?_
  simp only [Act.put, List.setIfInBounds_toArray, List.set_cons_zero, List.set_cons_succ]
  refine wpAnyM_take (i := 19) (oi := { dst := some 28, op := Op.load 27 (Operand.tmp 27), type := 27, pos := "l06_run.go:19", after := #[{ on := 18, ground := Ground.data }], guard := none }) (v := .slice (some ⟨vb, 0, none⟩) vn vc) rfl (by kernel_rfl) (by kernel_rfl) (by kernel_rfl) (by kernel_rfl) (fun _ _ _ h => h) (Or.inl ⟨by rfl, fun W hW => by obtain ⟨q0, q1, q2, q3, q4, q5, q6⟩ := hW; go_simp⟩) hS ?_
  simp only [Act.put, List.setIfInBounds_toArray, List.set_cons_zero, List.set_cons_succ]
  refine wpAnyM_take (i := 20) (oi := { dst := some 29, op := Op.fieldAddr 91 (Operand.tmp 3) 3, type := 0, pos := "l06_run.go:19", after := #[], guard := none }) (v := .pointer (some ⟨B, 3, none⟩)) rfl (by kernel_rfl) (by kernel_rfl) (by kernel_rfl) (by kernel_rfl) (fun _ _ _ h => h) (Or.inl ⟨by rfl, fun W hW => by obtain ⟨q0, q1, q2, q3, q4, q5, q6⟩ := hW; go_simp⟩) hS ?_
  simp only [Act.put, List.setIfInBounds_toArray, List.set_cons_zero, List.set_cons_succ]
  refine wpAnyM_take (i := 21) (oi := { dst := some 30, op := Op.load 3 (Operand.tmp 29), type := 3, pos := "l06_run.go:19", after := #[{ on := 20, ground := Ground.data }], guard := none }) (v := .int .i64 (b : Int)) rfl (by kernel_rfl) (by kernel_rfl) (by kernel_rfl) (by kernel_rfl) (fun _ _ _ h => h) (Or.inl ⟨by rfl, fun W hW => by obtain ⟨q0, q1, q2, q3, q4, q5, q6⟩ := hW; go_simp⟩) hS ?_
  simp only [Act.put, List.setIfInBounds_toArray, List.set_cons_zero, List.set_cons_succ]
  refine wpAnyM_take (i := 22) (oi := { dst := some 31, op := Op.indexAddr 27 (Operand.tmp 28) (Operand.tmp 30), type := 0, pos := "l06_run.go:19", after := #[{ on := 19, ground := Ground.data }, { on := 21, ground := Ground.data }], guard := none }) (v := .pointer (some ⟨vb, b, none⟩)) rfl (by kernel_rfl) (by kernel_rfl) (by kernel_rfl) (by kernel_rfl) (fun _ _ _ h => h) (Or.inl ⟨by rfl, fun W hW => by obtain ⟨q0, q1, q2, q3, q4, q5, q6⟩ := hW; go_simp⟩) hS ?_
  simp only [Act.put, List.setIfInBounds_toArray, List.set_cons_zero, List.set_cons_succ]
  refine wpAnyM_take (i := 23) (oi := { dst := some 32, op := Op.load 3 (Operand.tmp 31), type := 3, pos := "l06_run.go:19", after := #[{ on := 22, ground := Ground.data }], guard := none }) (v := .int .i64 x) rfl (by kernel_rfl) (by kernel_rfl) (by kernel_rfl) (by kernel_rfl) (fun _ _ _ h => h) (Or.inl ⟨by rfl, fun W hW => by obtain ⟨q0, q1, q2, q3, q4, q5, q6⟩ := hW; go_simp⟩) hS ?_
  simp only [Act.put, List.setIfInBounds_toArray, List.set_cons_zero, List.set_cons_succ]
  refine wpAnyM_oneK (i := 24) (o := { dst := some 33, op := Op.call { callee := Callee.value (Operand.func 82), args := #[Operand.tmp 16, Operand.tmp 24, Operand.tmp 32], argTypes := #[3, 3, 3] }, type := 3, pos := "l06_run.go:19", after := #[{ on := 7, ground := Ground.data }, { on := 15, ground := Ground.data }, { on := 23, ground := Ground.data }], guard := none }) rfl rfl (by kernel_rfl) (fun K hK => ?_)
  refine wp_call_of (f := 82) (args := #[.int .i64 op, .int .i64 y, .int .i64 x]) (by go_simp) (spec_word op y x _) ?_
  rintro e w4 ⟨rfl, hw4⟩
  subst hw4
  refine ⟨_, rfl, ?_⟩
  refine hK _ _ ⟨fun _ => hS, ?_⟩
  clear hK
  simp only [Act.put, List.setIfInBounds_toArray, List.set_cons_zero, List.set_cons_succ]
  refine wpAnyM_take (i := 25) (oi := { dst := some 34, op := Op.indexAddr 27 (Operand.tmp 12) (Operand.tmp 14), type := 0, pos := "l06_run.go:19", after := #[{ on := 3, ground := Ground.data }, { on := 5, ground := Ground.data }, { on := 0, ground := Ground.phase }, { on := 1, ground := Ground.phase }, { on := 2, ground := Ground.phase }, { on := 3, ground := Ground.phase }, { on := 4, ground := Ground.phase }, { on := 5, ground := Ground.phase }, { on := 6, ground := Ground.phase }, { on := 7, ground := Ground.phase }, { on := 8, ground := Ground.phase }, { on := 9, ground := Ground.phase }, { on := 10, ground := Ground.phase }, { on := 11, ground := Ground.phase }, { on := 12, ground := Ground.phase }, { on := 13, ground := Ground.phase }, { on := 14, ground := Ground.phase }, { on := 15, ground := Ground.phase }, { on := 16, ground := Ground.phase }, { on := 17, ground := Ground.phase }, { on := 18, ground := Ground.phase }, { on := 19, ground := Ground.phase }, { on := 20, ground := Ground.phase }, { on := 21, ground := Ground.phase }, { on := 22, ground := Ground.phase }, { on := 23, ground := Ground.phase }, { on := 24, ground := Ground.phase }], guard := none }) (v := .pointer (some ⟨vb, d, none⟩)) rfl (by kernel_rfl) (by kernel_rfl) (by kernel_rfl) (by kernel_rfl) (fun _ _ _ h => h) (Or.inl ⟨by rfl, fun W hW => by obtain ⟨q0, q1, q2, q3, q4, q5, q6⟩ := hW; go_simp⟩) hS ?_
  simp only [Act.put, List.setIfInBounds_toArray, List.set_cons_zero, List.set_cons_succ]
  refine wpAnyM_oneK (i := 26) (o := { dst := none, op := Op.store 3 (Operand.tmp 34) (Operand.tmp 33), type := 0, pos := "l06_run.go:19", after := #[{ on := 25, ground := Ground.data }, { on := 24, ground := Ground.data }, { on := 24, ground := Ground.chain }, { on := 0, ground := Ground.phase }, { on := 1, ground := Ground.phase }, { on := 2, ground := Ground.phase }, { on := 3, ground := Ground.phase }, { on := 4, ground := Ground.phase }, { on := 5, ground := Ground.phase }, { on := 6, ground := Ground.phase }, { on := 7, ground := Ground.phase }, { on := 8, ground := Ground.phase }, { on := 9, ground := Ground.phase }, { on := 10, ground := Ground.phase }, { on := 11, ground := Ground.phase }, { on := 12, ground := Ground.phase }, { on := 13, ground := Ground.phase }, { on := 14, ground := Ground.phase }, { on := 15, ground := Ground.phase }, { on := 16, ground := Ground.phase }, { on := 17, ground := Ground.phase }, { on := 18, ground := Ground.phase }, { on := 19, ground := Ground.phase }, { on := 20, ground := Ground.phase }, { on := 21, ground := Ground.phase }, { on := 22, ground := Ground.phase }, { on := 23, ground := Ground.phase }, { on := 24, ground := Ground.phase }], guard := none }) rfl rfl (by kernel_rfl) (fun K hK => ?_)
  go_simp
  refine hK _ _ ⟨fun h => absurd rfl h, wpAnyM_done (by kernel_rfl) ?_ _⟩
  clear hK
  simp only [Exit.inBlock, Exit.then]
  go_at_K
  go_wp2
  go_ret
  rw [Hy.out, Hx.out]
  refine ⟨rfl, ⟨vb, vc, cb, cc, rv, rb, tb, tc, pb, pc, ?_⟩, ?_⟩
  · first | exact (HH.out.setVal hd (wordV op y x)).drew | exact HH.out.setVal hd (wordV op y x)
  · refine HF.out.trans ((FrR.setRow (P := P) (o := d) HH.out.vals (.int .i64 (wordV op y x))).trans ?_)
    first | exact FrR.refl _ _ _ | exact FrR.drew _ _ _ | exact (FrR.drew _ _ _).trans (FrR.drew _ _ _)

set_option maxRecDepth 100000 in
set_option maxHeartbeats 4000000 in
theorem sIns_load (d a c : Nat) (hd : d < vn) (ha : a < vn) (hc : c < 8) (hv : s.vals a = (c : Int)) (w : World) (h : SIs W0 w P vn s) :
    Calls Try.prog 58 #[.pointer (some ⟨P, 0, none⟩), .agg #[.int .i64 21, .int .i64 (d : Int), .int .i64 (a : Int), .int .i64 0, .int .i64 0]] w fun e w' => e = .returned (.int .i64 0) ∧ STo W0 P vn w { s with vals := updN s.vals d (s.cells c) } w' := by
  obtain ⟨vb, vc, cb, cc, rv, rb, tb, tc, pb, pc, h⟩ := h
  have HH0 : Hid (SAt W0 w P vn s vb vc cb cc rv rb tb tc pb pc) := h
  have hd2 : (d : Int) < (vn : Int) := by omega
  have ha2 : (a : Int) < (vn : Int) := by omega
  have HV : Hid (s.vals a = (c : Int)) := hv
  clear hv
  clear h
  have hok : wordOkV 21 = false := rfl
  go_enter Try.func58, Try.ntmps58
  go_wp2_with fail
  refine (spec_wordOk 21 _).mono ?_
  rintro e w1 ⟨rfl, hw1⟩
  subst hw1
  rw [hok]
  have bx := World.alloc_heap_new w (.cells #[.int .i64 21, .int .i64 (d : Int), .int .i64 (a : Int), .int .i64 0, .int .i64 0] 91)
  have h := HH0.out.later (Bel.alloc w (.cells #[.int .i64 21, .int .i64 (d : Int), .int .i64 (a : Int), .int .i64 0, .int .i64 0] 91))
  have HF : Hid (FrR P P w (w.alloc (.cells #[.int .i64 21, .int .i64 (d : Int), .int .i64 (a : Int), .int .i64 0, .int .i64 0] 91))) := FrR.ofBelow (Bel.alloc w _)
  have hPB : P ≠ w.heap.size := by have := HH0.out.lt; omega
  have HBw : Hid (w.heap.size ≤ w.heap.size) := Nat.le_refl _
  generalize w.alloc (.cells #[.int .i64 21, .int .i64 (d : Int), .int .i64 (a : Int), .int .i64 0, .int .i64 0] 91) = w1 at bx h HF ⊢
  generalize w.heap.size = B at bx hPB ⊢
  have x0 : w1.cell? ⟨B, 0, none⟩ = some (.int .i64 21) := by simp [World.cell?, bx]
  have x1 : w1.cell? ⟨B, 1, none⟩ = some (.int .i64 (d : Int)) := by simp [World.cell?, bx]
  have x2 : w1.cell? ⟨B, 2, none⟩ = some (.int .i64 (a : Int)) := by simp [World.cell?, bx]
  have x3 : w1.cell? ⟨B, 3, none⟩ = some (.int .i64 0) := by simp [World.cell?, bx]
  have x4 : w1.cell? ⟨B, 4, none⟩ = some (.int .i64 0) := by simp [World.cell?, bx]
  have HBX : Hid (w1.heap[B]? = some (.cells #[.int .i64 21, .int .i64 (d : Int), .int .i64 (a : Int), .int .i64 0, .int .i64 0] 91 (0, 0))) := bx
  have hVB : vb ≠ B := fun e => not_row bx (by decide) h.vals.heapOf e.symm
  have hCB : cb ≠ B := fun e => not_row bx (by decide) h.cells.heapOf e.symm
  have hPV : P ≠ vb := not_row h.box (by decide) h.vals.heapOf
  have hPC : P ≠ cb := not_row h.box (by decide) h.cells.heapOf
  have hVC := h.d1
  obtain ⟨p0, p1, p2, p3, p4, p5⟩ := h.cell
  have HH : Hid (SAt W0 w1 P vn s vb vc cb cc rv rb tb tc pb pc) := h
  have fv : ∀ i, w1.frozen? ⟨vb, i, none⟩ = false := fun i => frozen_of_cells h.vals.heapOf i
  have fc : ∀ i, w1.frozen? ⟨cb, i, none⟩ = false := fun i => frozen_of_cells h.cells.heapOf i
  clear bx
  have cd := h.valAt hd
  obtain ⟨z, Hz⟩ : ∃ z, Hid (s.vals d = z) := ⟨_, rfl⟩
  rw [Hz.out] at cd
  have ca := h.valAt ha
  rw [HV.out] at ca
  have cy := h.cellAt hc
  obtain ⟨y, Hy⟩ : ∃ y, Hid (s.cells c = y) := ⟨_, rfl⟩
  rw [Hy.out] at cy
  have fz := fv d
  have hc2 : (c : Int) < 8 := by omega
  have hcok : cellOk (c : Int) := ⟨by omega, by omega⟩
  have HCO : Hid (cellOk (c : Int)) := hcok
  clear h fv fc hcok
  go_wp2_with fail
  go_region_held3 (fun w' => w'.cell? ⟨P, 0, none⟩ = some (.slice (some ⟨vb, 0, none⟩) vn vc) ∧ w'.cell? ⟨B, 2, none⟩ = some (.int .i64 (a : Int)) ∧ w'.cell? ⟨vb, a, none⟩ = some (.int .i64 (c : Int))) (go_keep) (first | (go_at_call 52; refine (in7_yes HCO.out _).mono ?_; rintro e w2 ⟨rfl, hw2⟩; subst hw2))
  simp only [Exit.then]
  go_at_K
  go_wp2_with fail
  have hS : (fun w' => w'.cell? ⟨P, 0, none⟩ = some (.slice (some ⟨vb, 0, none⟩) vn vc) ∧ w'.cell? ⟨P, 1, none⟩ = some (.slice (some ⟨cb, 0, none⟩) 8 cc) ∧ w'.cell? ⟨B, 1, none⟩ = some (.int .i64 (d : Int)) ∧ w'.cell? ⟨B, 2, none⟩ = some (.int .i64 (a : Int)) ∧ w'.cell? ⟨vb, a, none⟩ = some (.int .i64 (c : Int)) ∧ w'.cell? ⟨cb, c, none⟩ = some (.int .i64 y)) w1.drew.drew := ⟨p0, p1, x1, x2, ca, cy⟩
  refine region_M 21 (fun w' => w'.cell? ⟨P, 0, none⟩ = some (.slice (some ⟨vb, 0, none⟩) vn vc) ∧ w'.cell? ⟨P, 1, none⟩ = some (.slice (some ⟨cb, 0, none⟩) 8 cc) ∧ w'.cell? ⟨B, 1, none⟩ = some (.int .i64 (d : Int)) ∧ w'.cell? ⟨B, 2, none⟩ = some (.int .i64 (a : Int)) ∧ w'.cell? ⟨vb, a, none⟩ = some (.int .i64 (c : Int)) ∧ w'.cell? ⟨cb, c, none⟩ = some (.int .i64 y)) (by kernel_rfl) ?_
  refine wpAnyM_take (i := 0) (oi := { dst := some 81, op := Op.move (Operand.tmp 0), type := 66, pos := "l06_run.go:28", after := #[], guard := none }) (v := .pointer (some ⟨P, 0, none⟩)) rfl (by kernel_rfl) (by kernel_rfl) (by kernel_rfl) (by kernel_rfl) (fun _ _ _ h => h) (Or.inl ⟨by rfl, fun W hW => by obtain ⟨q0, q1, q2, q3, q4, q5⟩ := hW; go_simp⟩) hS ?_
  simp only [Act.put, List.setIfInBounds_toArray, List.set_cons_zero, List.set_cons_succ]
  refine wpAnyM_take (i := 1) (oi := { dst := some 82, op := Op.nilCheck (Operand.tmp 81), type := 0, pos := "l06_run.go:28", after := #[{ on := 0, ground := Ground.data }], guard := none }) (v := .pointer (some ⟨P, 0, none⟩)) rfl (by kernel_rfl) (by kernel_rfl) (by kernel_rfl) (by kernel_rfl) (fun _ _ _ h => h) (Or.inl ⟨by rfl, fun W hW => by obtain ⟨q0, q1, q2, q3, q4, q5⟩ := hW; go_simp⟩) hS ?_
  simp only [Act.put, List.setIfInBounds_toArray, List.set_cons_zero, List.set_cons_succ]
  refine wpAnyM_take (i := 2) (oi := { dst := some 83, op := Op.fieldAddr 70 (Operand.tmp 82) 0, type := 0, pos := "l06_run.go:28", after := #[{ on := 1, ground := Ground.data }], guard := none }) (v := .pointer (some ⟨P, 0, none⟩)) rfl (by kernel_rfl) (by kernel_rfl) (by kernel_rfl) (by kernel_rfl) (fun _ _ _ h => h) (Or.inl ⟨by rfl, fun W hW => by obtain ⟨q0, q1, q2, q3, q4, q5⟩ := hW; go_simp⟩) hS ?_
  simp only [Act.put, List.setIfInBounds_toArray, List.set_cons_zero, List.set_cons_succ]
  refine wpAnyM_take (i := 3) (oi := { dst := some 84, op := Op.load 27 (Operand.tmp 83), type := 27, pos := "l06_run.go:28", after := #[{ on := 2, ground := Ground.data }], guard := none }) (v := .slice (some ⟨vb, 0, none⟩) vn vc) rfl (by kernel_rfl) (by kernel_rfl) (by kernel_rfl) (by kernel_rfl) (fun _ _ _ h => h) (Or.inl ⟨by rfl, fun W hW => by obtain ⟨q0, q1, q2, q3, q4, q5⟩ := hW; go_simp⟩) hS ?_
  simp only [Act.put, List.setIfInBounds_toArray, List.set_cons_zero, List.set_cons_succ]
  refine wpAnyM_take (i := 4) (oi := { dst := some 85, op := Op.fieldAddr 91 (Operand.tmp 3) 1, type := 0, pos := "l06_run.go:28", after := #[], guard := none }) (v := .pointer (some ⟨B, 1, none⟩)) rfl (by kernel_rfl) (by kernel_rfl) (by kernel_rfl) (by kernel_rfl) (fun _ _ _ h => h) (Or.inl ⟨by rfl, fun W hW => by obtain ⟨q0, q1, q2, q3, q4, q5⟩ := hW; go_simp⟩) hS ?_
  simp only [Act.put, List.setIfInBounds_toArray, List.set_cons_zero, List.set_cons_succ]
  refine wpAnyM_take (i := 5) (oi := { dst := some 86, op := Op.load 3 (Operand.tmp 85), type := 3, pos := "l06_run.go:28", after := #[{ on := 4, ground := Ground.data }], guard := none }) (v := .int .i64 (d : Int)) rfl (by kernel_rfl) (by kernel_rfl) (by kernel_rfl) (by kernel_rfl) (fun _ _ _ h => h) (Or.inl ⟨by rfl, fun W hW => by obtain ⟨q0, q1, q2, q3, q4, q5⟩ := hW; go_simp⟩) hS ?_
  simp only [Act.put, List.setIfInBounds_toArray, List.set_cons_zero, List.set_cons_succ]
  refine wpAnyM_take (i := 6) (oi := { dst := some 87, op := Op.move (Operand.tmp 0), type := 66, pos := "l06_run.go:28", after := #[], guard := none }) (v := .pointer (some ⟨P, 0, none⟩)) rfl (by kernel_rfl) (by kernel_rfl) (by kernel_rfl) (by kernel_rfl) (fun _ _ _ h => h) (Or.inl ⟨by rfl, fun W hW => by obtain ⟨q0, q1, q2, q3, q4, q5⟩ := hW; go_simp⟩) hS ?_
  simp only [Act.put, List.setIfInBounds_toArray, List.set_cons_zero, List.set_cons_succ]
  refine wpAnyM_take (i := 7) (oi := { dst := some 88, op := Op.nilCheck (Operand.tmp 87), type := 0, pos := "l06_run.go:28", after := #[{ on := 6, ground := Ground.data }], guard := none }) (v := .pointer (some ⟨P, 0, none⟩)) rfl (by kernel_rfl) (by kernel_rfl) (by kernel_rfl) (by kernel_rfl) (fun _ _ _ h => h) (Or.inl ⟨by rfl, fun W hW => by obtain ⟨q0, q1, q2, q3, q4, q5⟩ := hW; go_simp⟩) hS ?_
  simp only [Act.put, List.setIfInBounds_toArray, List.set_cons_zero, List.set_cons_succ]
  refine wpAnyM_take (i := 8) (oi := { dst := some 89, op := Op.fieldAddr 70 (Operand.tmp 88) 1, type := 0, pos := "l06_run.go:28", after := #[{ on := 7, ground := Ground.data }], guard := none }) (v := .pointer (some ⟨P, 1, none⟩)) rfl (by kernel_rfl) (by kernel_rfl) (by kernel_rfl) (by kernel_rfl) (fun _ _ _ h => h) (Or.inl ⟨by rfl, fun W hW => by obtain ⟨q0, q1, q2, q3, q4, q5⟩ := hW; go_simp⟩) hS ?_
  simp only [Act.put, List.setIfInBounds_toArray, List.set_cons_zero, List.set_cons_succ]
  refine wpAnyM_take (i := 9) (oi := { dst := some 90, op := Op.load 27 (Operand.tmp 89), type := 27, pos := "l06_run.go:28", after := #[{ on := 8, ground := Ground.data }], guard := none }) (v := .slice (some ⟨cb, 0, none⟩) 8 cc) rfl (by kernel_rfl) (by kernel_rfl) (by kernel_rfl) (by kernel_rfl) (fun _ _ _ h => h) (Or.inl ⟨by rfl, fun W hW => by obtain ⟨q0, q1, q2, q3, q4, q5⟩ := hW; go_simp⟩) hS ?_
  simp only [Act.put, List.setIfInBounds_toArray, List.set_cons_zero, List.set_cons_succ]
  refine wpAnyM_take (i := 10) (oi := { dst := some 91, op := Op.move (Operand.tmp 0), type := 66, pos := "l06_run.go:28", after := #[], guard := none }) (v := .pointer (some ⟨P, 0, none⟩)) rfl (by kernel_rfl) (by kernel_rfl) (by kernel_rfl) (by kernel_rfl) (fun _ _ _ h => h) (Or.inl ⟨by rfl, fun W hW => by obtain ⟨q0, q1, q2, q3, q4, q5⟩ := hW; go_simp⟩) hS ?_
  simp only [Act.put, List.setIfInBounds_toArray, List.set_cons_zero, List.set_cons_succ]
  refine wpAnyM_take (i := 11) (oi := { dst := some 92, op := Op.nilCheck (Operand.tmp 91), type := 0, pos := "l06_run.go:28", after := #[{ on := 10, ground := Ground.data }], guard := none }) (v := .pointer (some ⟨P, 0, none⟩)) rfl (by kernel_rfl) (by kernel_rfl) (by kernel_rfl) (by kernel_rfl) (fun _ _ _ h => h) (Or.inl ⟨by rfl, fun W hW => by obtain ⟨q0, q1, q2, q3, q4, q5⟩ := hW; go_simp⟩) hS ?_
  simp only [Act.put, List.setIfInBounds_toArray, List.set_cons_zero, List.set_cons_succ]
  refine wpAnyM_take (i := 12) (oi := { dst := some 93, op := Op.fieldAddr 70 (Operand.tmp 92) 0, type := 0, pos := "l06_run.go:28", after := #[{ on := 11, ground := Ground.data }], guard := none }) (v := .pointer (some ⟨P, 0, none⟩)) rfl (by kernel_rfl) (by kernel_rfl) (by kernel_rfl) (by kernel_rfl) (fun _ _ _ h => h) (Or.inl ⟨by rfl, fun W hW => by obtain ⟨q0, q1, q2, q3, q4, q5⟩ := hW; go_simp⟩) hS ?_
  simp only [Act.put, List.setIfInBounds_toArray, List.set_cons_zero, List.set_cons_succ]
  refine wpAnyM_take (i := 13) (oi := { dst := some 94, op := Op.load 27 (Operand.tmp 93), type := 27, pos := "l06_run.go:28", after := #[{ on := 12, ground := Ground.data }], guard := none }) (v := .slice (some ⟨vb, 0, none⟩) vn vc) rfl (by kernel_rfl) (by kernel_rfl) (by kernel_rfl) (by kernel_rfl) (fun _ _ _ h => h) (Or.inl ⟨by rfl, fun W hW => by obtain ⟨q0, q1, q2, q3, q4, q5⟩ := hW; go_simp⟩) hS ?_
  simp only [Act.put, List.setIfInBounds_toArray, List.set_cons_zero, List.set_cons_succ]
  refine wpAnyM_take (i := 14) (oi := { dst := some 95, op := Op.fieldAddr 91 (Operand.tmp 3) 2, type := 0, pos := "l06_run.go:28", after := #[], guard := none }) (v := .pointer (some ⟨B, 2, none⟩)) rfl (by kernel_rfl) (by kernel_rfl) (by kernel_rfl) (by kernel_rfl) (fun _ _ _ h => h) (Or.inl ⟨by rfl, fun W hW => by obtain ⟨q0, q1, q2, q3, q4, q5⟩ := hW; go_simp⟩) hS ?_
  simp only [Act.put, List.setIfInBounds_toArray, List.set_cons_zero, List.set_cons_succ]
  refine wpAnyM_take (i := 15) (oi := { dst := some 96, op := Op.load 3 (Operand.tmp 95), type := 3, pos := "l06_run.go:28", after := #[{ on := 14, ground := Ground.data }], guard := none }) (v := .int .i64 (a : Int)) rfl (by kernel_rfl) (by kernel_rfl) (by kernel_rfl) (by kernel_rfl) (fun _ _ _ h => h) (Or.inl ⟨by rfl, fun W hW => by obtain ⟨q0, q1, q2, q3, q4, q5⟩ := hW; go_simp⟩) hS ?_
  simp only [Act.put, List.setIfInBounds_toArray, List.set_cons_zero, List.set_cons_succ]
  refine wpAnyM_take (i := 16) (oi := { dst := some 97, op := Op.indexAddr 27 (Operand.tmp 94) (Operand.tmp 96), type := 0, pos := "l06_run.go:28", after := #[{ on := 13, ground := Ground.data }, { on := 15, ground := Ground.data }], guard := none }) (v := .pointer (some ⟨vb, a, none⟩)) rfl (by kernel_rfl) (by kernel_rfl) (by kernel_rfl) (by kernel_rfl) (fun _ _ _ h => h) (Or.inl ⟨by rfl, fun W hW => by obtain ⟨q0, q1, q2, q3, q4, q5⟩ := hW; go_simp⟩) hS ?_
  simp only [Act.put, List.setIfInBounds_toArray, List.set_cons_zero, List.set_cons_succ]
  refine wpAnyM_take (i := 17) (oi := { dst := some 98, op := Op.load 3 (Operand.tmp 97), type := 3, pos := "l06_run.go:28", after := #[{ on := 16, ground := Ground.data }], guard := none }) (v := .int .i64 (c : Int)) rfl (by kernel_rfl) (by kernel_rfl) (by kernel_rfl) (by kernel_rfl) (fun _ _ _ h => h) (Or.inl ⟨by rfl, fun W hW => by obtain ⟨q0, q1, q2, q3, q4, q5⟩ := hW; go_simp⟩) hS ?_
  simp only [Act.put, List.setIfInBounds_toArray, List.set_cons_zero, List.set_cons_succ]
  refine wpAnyM_take (i := 18) (oi := { dst := some 99, op := Op.indexAddr 27 (Operand.tmp 90) (Operand.tmp 98), type := 0, pos := "l06_run.go:28", after := #[{ on := 9, ground := Ground.data }, { on := 17, ground := Ground.data }], guard := none }) (v := .pointer (some ⟨cb, c, none⟩)) rfl (by kernel_rfl) (by kernel_rfl) (by kernel_rfl) (by kernel_rfl) (fun _ _ _ h => h) (Or.inl ⟨by rfl, fun W hW => by obtain ⟨q0, q1, q2, q3, q4, q5⟩ := hW; go_simp⟩) hS ?_
  simp only [Act.put, List.setIfInBounds_toArray, List.set_cons_zero, List.set_cons_succ]
  refine wpAnyM_take (i := 19) (oi := { dst := some 100, op := Op.load 3 (Operand.tmp 99), type := 3, pos := "l06_run.go:28", after := #[{ on := 18, ground := Ground.data }], guard := none }) (v := .int .i64 y) rfl (by kernel_rfl) (by kernel_rfl) (by kernel_rfl) (by kernel_rfl) (fun _ _ _ h => h) (Or.inl ⟨by rfl, fun W hW => by obtain ⟨q0, q1, q2, q3, q4, q5⟩ := hW; go_simp⟩) hS ?_
  simp only [Act.put, List.setIfInBounds_toArray, List.set_cons_zero, List.set_cons_succ]
  refine wpAnyM_take (i := 20) (oi := { dst := some 101, op := Op.indexAddr 27 (Operand.tmp 84) (Operand.tmp 86), type := 0, pos := "l06_run.go:28", after := #[{ on := 3, ground := Ground.data }, { on := 5, ground := Ground.data }, { on := 0, ground := Ground.phase }, { on := 1, ground := Ground.phase }, { on := 2, ground := Ground.phase }, { on := 3, ground := Ground.phase }, { on := 4, ground := Ground.phase }, { on := 5, ground := Ground.phase }, { on := 6, ground := Ground.phase }, { on := 7, ground := Ground.phase }, { on := 8, ground := Ground.phase }, { on := 9, ground := Ground.phase }, { on := 10, ground := Ground.phase }, { on := 11, ground := Ground.phase }, { on := 12, ground := Ground.phase }, { on := 13, ground := Ground.phase }, { on := 14, ground := Ground.phase }, { on := 15, ground := Ground.phase }, { on := 16, ground := Ground.phase }, { on := 17, ground := Ground.phase }, { on := 18, ground := Ground.phase }, { on := 19, ground := Ground.phase }], guard := none }) (v := .pointer (some ⟨vb, d, none⟩)) rfl (by kernel_rfl) (by kernel_rfl) (by kernel_rfl) (by kernel_rfl) (fun _ _ _ h => h) (Or.inl ⟨by rfl, fun W hW => by obtain ⟨q0, q1, q2, q3, q4, q5⟩ := hW; go_simp⟩) hS ?_
  simp only [Act.put, List.setIfInBounds_toArray, List.set_cons_zero, List.set_cons_succ]
  refine wpAnyM_oneK (i := 21) (o := { dst := none, op := Op.store 3 (Operand.tmp 101) (Operand.tmp 100), type := 0, pos := "l06_run.go:28", after := #[{ on := 20, ground := Ground.data }, { on := 19, ground := Ground.data }, { on := 0, ground := Ground.phase }, { on := 1, ground := Ground.phase }, { on := 2, ground := Ground.phase }, { on := 3, ground := Ground.phase }, { on := 4, ground := Ground.phase }, { on := 5, ground := Ground.phase }, { on := 6, ground := Ground.phase }, { on := 7, ground := Ground.phase }, { on := 8, ground := Ground.phase }, { on := 9, ground := Ground.phase }, { on := 10, ground := Ground.phase }, { on := 11, ground := Ground.phase }, { on := 12, ground := Ground.phase }, { on := 13, ground := Ground.phase }, { on := 14, ground := Ground.phase }, { on := 15, ground := Ground.phase }, { on := 16, ground := Ground.phase }, { on := 17, ground := Ground.phase }, { on := 18, ground := Ground.phase }, { on := 19, ground := Ground.phase }], guard := none }) rfl rfl (by kernel_rfl) (fun K hK => ?_)
  go_simp
  refine hK _ _ ⟨fun h => absurd rfl h, wpAnyM_done (by kernel_rfl) ?_ _⟩
  clear hK
  simp only [Exit.inBlock, Exit.then]
  go_at_K
  go_wp2
  go_ret
  rw [Hy.out]
  refine ⟨rfl, ⟨vb, vc, cb, cc, rv, rb, tb, tc, pb, pc, ?_⟩, ?_⟩
  · first | exact (HH.out.setVal hd y).drew.drew | exact (HH.out.setVal hd y).drew | exact HH.out.setVal hd y
  · refine HF.out.trans ((FrR.setRow (P := P) (o := d) HH.out.vals (.int .i64 y)).trans ?_)
    first | exact FrR.refl _ _ _ | exact FrR.drew _ _ _ | exact (FrR.drew _ _ _).trans (FrR.drew _ _ _)

set_option maxRecDepth 100000 in
set_option maxHeartbeats 4000000 in
theorem sIns_loadNo (d a : Nat) (ha : a < vn) (hv : ¬ cellOk (s.vals a)) (w : World) (h : SIs W0 w P vn s) :
    Calls Try.prog 58 #[.pointer (some ⟨P, 0, none⟩), .agg #[.int .i64 21, .int .i64 (d : Int), .int .i64 (a : Int), .int .i64 0, .int .i64 0]] w fun e w' => e = .returned (.int .i64 2) ∧ STo W0 P vn w s w' := by
  obtain ⟨vb, vc, cb, cc, rv, rb, tb, tc, pb, pc, h⟩ := h
  have HH0 : Hid (SAt W0 w P vn s vb vc cb cc rv rb tb tc pb pc) := h
  have ha2 : (a : Int) < (vn : Int) := by omega
  have HV : Hid (¬ cellOk (s.vals a)) := hv
  clear hv
  clear h
  have hok : wordOkV 21 = false := rfl
  go_enter Try.func58, Try.ntmps58
  go_wp2_with fail
  refine (spec_wordOk 21 _).mono ?_
  rintro e w1 ⟨rfl, hw1⟩
  subst hw1
  rw [hok]
  have bx := World.alloc_heap_new w (.cells #[.int .i64 21, .int .i64 (d : Int), .int .i64 (a : Int), .int .i64 0, .int .i64 0] 91)
  have h := HH0.out.later (Bel.alloc w (.cells #[.int .i64 21, .int .i64 (d : Int), .int .i64 (a : Int), .int .i64 0, .int .i64 0] 91))
  have HF : Hid (FrR P P w (w.alloc (.cells #[.int .i64 21, .int .i64 (d : Int), .int .i64 (a : Int), .int .i64 0, .int .i64 0] 91))) := FrR.ofBelow (Bel.alloc w _)
  have hPB : P ≠ w.heap.size := by have := HH0.out.lt; omega
  have HBw : Hid (w.heap.size ≤ w.heap.size) := Nat.le_refl _
  generalize w.alloc (.cells #[.int .i64 21, .int .i64 (d : Int), .int .i64 (a : Int), .int .i64 0, .int .i64 0] 91) = w1 at bx h HF ⊢
  generalize w.heap.size = B at bx hPB ⊢
  have x0 : w1.cell? ⟨B, 0, none⟩ = some (.int .i64 21) := by simp [World.cell?, bx]
  have x1 : w1.cell? ⟨B, 1, none⟩ = some (.int .i64 (d : Int)) := by simp [World.cell?, bx]
  have x2 : w1.cell? ⟨B, 2, none⟩ = some (.int .i64 (a : Int)) := by simp [World.cell?, bx]
  have x3 : w1.cell? ⟨B, 3, none⟩ = some (.int .i64 0) := by simp [World.cell?, bx]
  have x4 : w1.cell? ⟨B, 4, none⟩ = some (.int .i64 0) := by simp [World.cell?, bx]
  have HBX : Hid (w1.heap[B]? = some (.cells #[.int .i64 21, .int .i64 (d : Int), .int .i64 (a : Int), .int .i64 0, .int .i64 0] 91 (0, 0))) := bx
  have hVB : vb ≠ B := fun e => not_row bx (by decide) h.vals.heapOf e.symm
  have hCB : cb ≠ B := fun e => not_row bx (by decide) h.cells.heapOf e.symm
  have hPV : P ≠ vb := not_row h.box (by decide) h.vals.heapOf
  have hPC : P ≠ cb := not_row h.box (by decide) h.cells.heapOf
  have hVC := h.d1
  obtain ⟨p0, p1, p2, p3, p4, p5⟩ := h.cell
  have HH : Hid (SAt W0 w1 P vn s vb vc cb cc rv rb tb tc pb pc) := h
  have fv : ∀ i, w1.frozen? ⟨vb, i, none⟩ = false := fun i => frozen_of_cells h.vals.heapOf i
  have fc : ∀ i, w1.frozen? ⟨cb, i, none⟩ = false := fun i => frozen_of_cells h.cells.heapOf i
  clear bx
  have ca := h.valAt ha
  obtain ⟨y, Hy⟩ : ∃ y, Hid (s.vals a = y) := ⟨_, rfl⟩
  rw [Hy.out] at ca
  have HCN : Hid (¬ cellOk y) := by
    show ¬ cellOk y
    rw [← Hy.out]; exact HV.out
  clear h fv fc
  go_wp2_with fail
  go_region_held3 (fun w' => w'.cell? ⟨P, 0, none⟩ = some (.slice (some ⟨vb, 0, none⟩) vn vc) ∧ w'.cell? ⟨B, 2, none⟩ = some (.int .i64 (a : Int)) ∧ w'.cell? ⟨vb, a, none⟩ = some (.int .i64 y)) (go_keep) (first | (go_at_call 52; refine (in7_no HCN.out _).mono ?_; rintro e w2 ⟨rfl, hw2⟩; subst hw2))
  simp only [Exit.then]
  go_at_K
  go_wp2_with fail
  go_ret
  refine ⟨rfl, ⟨vb, vc, cb, cc, rv, rb, tb, tc, pb, pc, ?_⟩, ?_⟩
  · first | exact HH.out.drew | exact HH.out
  · refine HF.out.trans ?_
    first | exact FrR.drew _ _ _ | exact FrR.refl _ _ _

set_option maxRecDepth 100000 in
set_option maxHeartbeats 4000000 in
theorem sIns_storeNo (a b : Nat) (ha : a < vn) (hv : ¬ cellOk (s.vals a)) (w : World) (h : SIs W0 w P vn s) :
    Calls Try.prog 58 #[.pointer (some ⟨P, 0, none⟩), .agg #[.int .i64 22, .int .i64 0, .int .i64 (a : Int), .int .i64 (b : Int), .int .i64 0]] w fun e w' => e = .returned (.int .i64 2) ∧ STo W0 P vn w s w' := by
  obtain ⟨vb, vc, cb, cc, rv, rb, tb, tc, pb, pc, h⟩ := h
  have HH0 : Hid (SAt W0 w P vn s vb vc cb cc rv rb tb tc pb pc) := h
  have ha2 : (a : Int) < (vn : Int) := by omega
  have HV : Hid (¬ cellOk (s.vals a)) := hv
  clear hv
  clear h
  have hok : wordOkV 22 = false := rfl
  go_enter Try.func58, Try.ntmps58
  go_wp2_with fail
  refine (spec_wordOk 22 _).mono ?_
  rintro e w1 ⟨rfl, hw1⟩
  subst hw1
  rw [hok]
  have bx := World.alloc_heap_new w (.cells #[.int .i64 22, .int .i64 0, .int .i64 (a : Int), .int .i64 (b : Int), .int .i64 0] 91)
  have h := HH0.out.later (Bel.alloc w (.cells #[.int .i64 22, .int .i64 0, .int .i64 (a : Int), .int .i64 (b : Int), .int .i64 0] 91))
  have HF : Hid (FrR P P w (w.alloc (.cells #[.int .i64 22, .int .i64 0, .int .i64 (a : Int), .int .i64 (b : Int), .int .i64 0] 91))) := FrR.ofBelow (Bel.alloc w _)
  have hPB : P ≠ w.heap.size := by have := HH0.out.lt; omega
  have HBw : Hid (w.heap.size ≤ w.heap.size) := Nat.le_refl _
  generalize w.alloc (.cells #[.int .i64 22, .int .i64 0, .int .i64 (a : Int), .int .i64 (b : Int), .int .i64 0] 91) = w1 at bx h HF ⊢
  generalize w.heap.size = B at bx hPB ⊢
  have x0 : w1.cell? ⟨B, 0, none⟩ = some (.int .i64 22) := by simp [World.cell?, bx]
  have x1 : w1.cell? ⟨B, 1, none⟩ = some (.int .i64 0) := by simp [World.cell?, bx]
  have x2 : w1.cell? ⟨B, 2, none⟩ = some (.int .i64 (a : Int)) := by simp [World.cell?, bx]
  have x3 : w1.cell? ⟨B, 3, none⟩ = some (.int .i64 (b : Int)) := by simp [World.cell?, bx]
  have x4 : w1.cell? ⟨B, 4, none⟩ = some (.int .i64 0) := by simp [World.cell?, bx]
  have HBX : Hid (w1.heap[B]? = some (.cells #[.int .i64 22, .int .i64 0, .int .i64 (a : Int), .int .i64 (b : Int), .int .i64 0] 91 (0, 0))) := bx
  have hVB : vb ≠ B := fun e => not_row bx (by decide) h.vals.heapOf e.symm
  have hCB : cb ≠ B := fun e => not_row bx (by decide) h.cells.heapOf e.symm
  have hPV : P ≠ vb := not_row h.box (by decide) h.vals.heapOf
  have hPC : P ≠ cb := not_row h.box (by decide) h.cells.heapOf
  have hVC := h.d1
  obtain ⟨p0, p1, p2, p3, p4, p5⟩ := h.cell
  have HH : Hid (SAt W0 w1 P vn s vb vc cb cc rv rb tb tc pb pc) := h
  have fv : ∀ i, w1.frozen? ⟨vb, i, none⟩ = false := fun i => frozen_of_cells h.vals.heapOf i
  have fc : ∀ i, w1.frozen? ⟨cb, i, none⟩ = false := fun i => frozen_of_cells h.cells.heapOf i
  clear bx
  have ca := h.valAt ha
  obtain ⟨y, Hy⟩ : ∃ y, Hid (s.vals a = y) := ⟨_, rfl⟩
  rw [Hy.out] at ca
  have HCN : Hid (¬ cellOk y) := by
    show ¬ cellOk y
    rw [← Hy.out]; exact HV.out
  clear h fv fc
  go_wp2_with fail
  go_region_held3 (fun w' => w'.cell? ⟨P, 0, none⟩ = some (.slice (some ⟨vb, 0, none⟩) vn vc) ∧ w'.cell? ⟨B, 2, none⟩ = some (.int .i64 (a : Int)) ∧ w'.cell? ⟨vb, a, none⟩ = some (.int .i64 y)) (go_keep) (first | (go_at_call 52; refine (in7_no HCN.out _).mono ?_; rintro e w2 ⟨rfl, hw2⟩; subst hw2))
  simp only [Exit.then]
  go_at_K
  go_wp2_with fail
  go_ret
  refine ⟨rfl, ⟨vb, vc, cb, cc, rv, rb, tb, tc, pb, pc, ?_⟩, ?_⟩
  · first | exact HH.out.drew | exact HH.out
  · refine HF.out.trans ?_
    first | exact FrR.drew _ _ _ | exact FrR.refl _ _ _

set_option maxRecDepth 100000 in
set_option maxHeartbeats 4000000 in
theorem sIns_store (a b c : Nat) (ha : a < vn) (hb : b < vn) (hc : c < 8) (hv : s.vals a = (c : Int)) (w : World) (h : SIs W0 w P vn s) :
    Calls Try.prog 58 #[.pointer (some ⟨P, 0, none⟩), .agg #[.int .i64 22, .int .i64 0, .int .i64 (a : Int), .int .i64 (b : Int), .int .i64 0]] w fun e w' => e = .returned (.int .i64 0) ∧ STo W0 P vn w { s with cells := updN s.cells c (s.vals b) } w' := by
  obtain ⟨vb, vc, cb, cc, rv, rb, tb, tc, pb, pc, h⟩ := h
  have HH0 : Hid (SAt W0 w P vn s vb vc cb cc rv rb tb tc pb pc) := h
  have ha2 : (a : Int) < (vn : Int) := by omega
  have hb2 : (b : Int) < (vn : Int) := by omega
  have HV : Hid (s.vals a = (c : Int)) := hv
  clear hv
  clear h
  have hok : wordOkV 22 = false := rfl
  go_enter Try.func58, Try.ntmps58
  go_wp2_with fail
  refine (spec_wordOk 22 _).mono ?_
  rintro e w1 ⟨rfl, hw1⟩
  subst hw1
  rw [hok]
  have bx := World.alloc_heap_new w (.cells #[.int .i64 22, .int .i64 0, .int .i64 (a : Int), .int .i64 (b : Int), .int .i64 0] 91)
  have h := HH0.out.later (Bel.alloc w (.cells #[.int .i64 22, .int .i64 0, .int .i64 (a : Int), .int .i64 (b : Int), .int .i64 0] 91))
  have HF : Hid (FrR P P w (w.alloc (.cells #[.int .i64 22, .int .i64 0, .int .i64 (a : Int), .int .i64 (b : Int), .int .i64 0] 91))) := FrR.ofBelow (Bel.alloc w _)
  have hPB : P ≠ w.heap.size := by have := HH0.out.lt; omega
  have HBw : Hid (w.heap.size ≤ w.heap.size) := Nat.le_refl _
  generalize w.alloc (.cells #[.int .i64 22, .int .i64 0, .int .i64 (a : Int), .int .i64 (b : Int), .int .i64 0] 91) = w1 at bx h HF ⊢
  generalize w.heap.size = B at bx hPB ⊢
  have x0 : w1.cell? ⟨B, 0, none⟩ = some (.int .i64 22) := by simp [World.cell?, bx]
  have x1 : w1.cell? ⟨B, 1, none⟩ = some (.int .i64 0) := by simp [World.cell?, bx]
  have x2 : w1.cell? ⟨B, 2, none⟩ = some (.int .i64 (a : Int)) := by simp [World.cell?, bx]
  have x3 : w1.cell? ⟨B, 3, none⟩ = some (.int .i64 (b : Int)) := by simp [World.cell?, bx]
  have x4 : w1.cell? ⟨B, 4, none⟩ = some (.int .i64 0) := by simp [World.cell?, bx]
  have HBX : Hid (w1.heap[B]? = some (.cells #[.int .i64 22, .int .i64 0, .int .i64 (a : Int), .int .i64 (b : Int), .int .i64 0] 91 (0, 0))) := bx
  have hVB : vb ≠ B := fun e => not_row bx (by decide) h.vals.heapOf e.symm
  have hCB : cb ≠ B := fun e => not_row bx (by decide) h.cells.heapOf e.symm
  have hPV : P ≠ vb := not_row h.box (by decide) h.vals.heapOf
  have hPC : P ≠ cb := not_row h.box (by decide) h.cells.heapOf
  have hVC := h.d1
  obtain ⟨p0, p1, p2, p3, p4, p5⟩ := h.cell
  have HH : Hid (SAt W0 w1 P vn s vb vc cb cc rv rb tb tc pb pc) := h
  have fv : ∀ i, w1.frozen? ⟨vb, i, none⟩ = false := fun i => frozen_of_cells h.vals.heapOf i
  have fc : ∀ i, w1.frozen? ⟨cb, i, none⟩ = false := fun i => frozen_of_cells h.cells.heapOf i
  clear bx
  have ca := h.valAt ha
  rw [HV.out] at ca
  have cy := h.cellAt hc
  obtain ⟨z, Hz⟩ : ∃ y, Hid (s.cells c = y) := ⟨_, rfl⟩
  rw [Hz.out] at cy
  have cb9 := h.valAt hb
  obtain ⟨y, Hy⟩ : ∃ y, Hid (s.vals b = y) := ⟨_, rfl⟩
  rw [Hy.out] at cb9
  have fz := fc c
  have hc2 : (c : Int) < 8 := by omega
  have HCO : Hid (cellOk (c : Int)) := ⟨by omega, by omega⟩
  clear h fv fc
  go_wp2_with fail
  go_region_held3 (fun w' => w'.cell? ⟨P, 0, none⟩ = some (.slice (some ⟨vb, 0, none⟩) vn vc) ∧ w'.cell? ⟨B, 2, none⟩ = some (.int .i64 (a : Int)) ∧ w'.cell? ⟨vb, a, none⟩ = some (.int .i64 (c : Int))) (go_keep) (first | (go_at_call 52; refine (in7_yes HCO.out _).mono ?_; rintro e w2 ⟨rfl, hw2⟩; subst hw2))
  simp only [Exit.then]
  go_at_K
  go_wp2_with fail
  go_region_held3 (fun w' => w'.cell? ⟨P, 0, none⟩ = some (.slice (some ⟨vb, 0, none⟩) vn vc) ∧ w'.cell? ⟨P, 1, none⟩ = some (.slice (some ⟨cb, 0, none⟩) 8 cc) ∧ w'.cell? ⟨B, 2, none⟩ = some (.int .i64 (a : Int)) ∧ w'.cell? ⟨B, 3, none⟩ = some (.int .i64 (b : Int)) ∧ w'.cell? ⟨vb, a, none⟩ = some (.int .i64 (c : Int)) ∧ w'.cell? ⟨vb, b, none⟩ = some (.int .i64 y)) (first | exact ⟨far_block p0 (fun e => hPC e.symm), far_block p1 (fun e => hPC e.symm), far_block x2 hCB, far_block x3 hCB, far_block ca (fun e => hVC e.symm), far_block cb9 (fun e => hVC e.symm)⟩ | go_keep) (fail)
  simp only [Exit.inBlock, Exit.then]
  go_at_K
  go_wp2
  go_ret
  rw [Hy.out]
  refine ⟨rfl, ⟨vb, vc, cb, cc, rv, rb, tb, tc, pb, pc, ?_⟩, ?_⟩
  · first | exact (HH.out.setCell hc y).drew.drew | exact (HH.out.setCell hc y).drew | exact HH.out.setCell hc y
  · refine HF.out.trans ((FrR.setRow (P := P) (o := c) HH.out.cells (.int .i64 y)).trans ?_)
    first | exact FrR.refl _ _ _ | exact FrR.drew _ _ _ | exact (FrR.drew _ _ _).trans (FrR.drew _ _ _)

set_option maxRecDepth 100000 in
set_option maxHeartbeats 4000000 in
theorem sIns_readNo (d : Nat) (hd : d < vn) (hr : s.reads = []) (w : World) (h : SIs W0 w P vn s) :
    Calls Try.prog 58 #[.pointer (some ⟨P, 0, none⟩), .agg #[.int .i64 24, .int .i64 (d : Int), .int .i64 0, .int .i64 0, .int .i64 0]] w fun e w' => e = .returned (.int .i64 0) ∧ STo W0 P vn w { s with vals := updN s.vals d 0 } w' := by
  obtain ⟨vb, vc, cb, cc, rv, rb, tb, tc, pb, pc, h⟩ := h
  have HH0 : Hid (SAt W0 w P vn s vb vc cb cc rv rb tb tc pb pc) := h
  have hd2 : (d : Int) < (vn : Int) := by omega
  have HRN : Hid (s.reads = []) := hr
  clear hr
  clear h
  have hok : wordOkV 24 = false := rfl
  go_enter Try.func58, Try.ntmps58
  go_wp2_with fail
  refine (spec_wordOk 24 _).mono ?_
  rintro e w1 ⟨rfl, hw1⟩
  subst hw1
  rw [hok]
  have bx := World.alloc_heap_new w (.cells #[.int .i64 24, .int .i64 (d : Int), .int .i64 0, .int .i64 0, .int .i64 0] 91)
  have h := HH0.out.later (Bel.alloc w (.cells #[.int .i64 24, .int .i64 (d : Int), .int .i64 0, .int .i64 0, .int .i64 0] 91))
  have HF : Hid (FrR P P w (w.alloc (.cells #[.int .i64 24, .int .i64 (d : Int), .int .i64 0, .int .i64 0, .int .i64 0] 91))) := FrR.ofBelow (Bel.alloc w _)
  have hPB : P ≠ w.heap.size := by have := HH0.out.lt; omega
  have HBw : Hid (w.heap.size ≤ w.heap.size) := Nat.le_refl _
  generalize w.alloc (.cells #[.int .i64 24, .int .i64 (d : Int), .int .i64 0, .int .i64 0, .int .i64 0] 91) = w1 at bx h HF ⊢
  generalize w.heap.size = B at bx hPB ⊢
  have x0 : w1.cell? ⟨B, 0, none⟩ = some (.int .i64 24) := by simp [World.cell?, bx]
  have x1 : w1.cell? ⟨B, 1, none⟩ = some (.int .i64 (d : Int)) := by simp [World.cell?, bx]
  have x2 : w1.cell? ⟨B, 2, none⟩ = some (.int .i64 0) := by simp [World.cell?, bx]
  have x3 : w1.cell? ⟨B, 3, none⟩ = some (.int .i64 0) := by simp [World.cell?, bx]
  have x4 : w1.cell? ⟨B, 4, none⟩ = some (.int .i64 0) := by simp [World.cell?, bx]
  have HBX : Hid (w1.heap[B]? = some (.cells #[.int .i64 24, .int .i64 (d : Int), .int .i64 0, .int .i64 0, .int .i64 0] 91 (0, 0))) := bx
  have hVB : vb ≠ B := fun e => not_row bx (by decide) h.vals.heapOf e.symm
  have hCB : cb ≠ B := fun e => not_row bx (by decide) h.cells.heapOf e.symm
  have hPV : P ≠ vb := not_row h.box (by decide) h.vals.heapOf
  have hPC : P ≠ cb := not_row h.box (by decide) h.cells.heapOf
  have hVC := h.d1
  obtain ⟨p0, p1, p2, p3, p4, p5⟩ := h.cell
  have HH : Hid (SAt W0 w1 P vn s vb vc cb cc rv rb tb tc pb pc) := h
  have fv : ∀ i, w1.frozen? ⟨vb, i, none⟩ = false := fun i => frozen_of_cells h.vals.heapOf i
  have fc : ∀ i, w1.frozen? ⟨cb, i, none⟩ = false := fun i => frozen_of_cells h.cells.heapOf i
  clear bx
  have cd := h.valAt hd
  obtain ⟨z, Hz⟩ : ∃ z, Hid (s.vals d = z) := ⟨_, rfl⟩
  rw [Hz.out] at cd
  have fz := fv d
  obtain ⟨off, rcap, erv, _⟩ := h.reads
  rw [HRN.out] at erv
  rw [erv] at p2
  simp only [List.length_nil] at p2
  clear erv
  clear h fv fc
  go_wp2_with fail
  go_region_held3 (fun w' => w'.cell? ⟨P, 0, none⟩ = some (.slice (some ⟨vb, 0, none⟩) vn vc) ∧ w'.cell? ⟨B, 1, none⟩ = some (.int .i64 (d : Int))) (first | exact ⟨far_block p0 (fun e => hPV e.symm), far_block x1 hVB⟩ | go_keep) (fail)
  simp only [Exit.then]
  go_at_K
  have p2' := far_block (o := d) (v := .int .i64 0) p2 (fun e => hPV e.symm)
  go_wp2_with fail
  go_ret
  refine ⟨rfl, ⟨vb, vc, cb, cc, rv, rb, tb, tc, pb, pc, ?_⟩, ?_⟩
  · first | exact (HH.out.setVal hd 0).drew | exact HH.out.setVal hd 0
  · refine HF.out.trans ((FrR.setRow (P := P) (o := d) HH.out.vals (.int .i64 0)).trans ?_)
    first | exact FrR.refl _ _ _ | exact FrR.drew _ _ _ | exact (FrR.drew _ _ _).trans (FrR.drew _ _ _)

set_option maxRecDepth 100000 in
set_option maxHeartbeats 4000000 in
theorem sIns_read (d : Nat) (hd : d < vn) (x : Int) (l : List Int) (hr : s.reads = x :: l) (w : World) (h : SIs W0 w P vn s) :
    Calls Try.prog 58 #[.pointer (some ⟨P, 0, none⟩), .agg #[.int .i64 24, .int .i64 (d : Int), .int .i64 0, .int .i64 0, .int .i64 0]] w fun e w' => e = .returned (.int .i64 0) ∧ STo W0 P vn w { s with vals := updN s.vals d x, reads := l } w' := by
  obtain ⟨vb, vc, cb, cc, rv, rb, tb, tc, pb, pc, h⟩ := h
  have HH0 : Hid (SAt W0 w P vn s vb vc cb cc rv rb tb tc pb pc) := h
  have hd2 : (d : Int) < (vn : Int) := by omega
  have HRN : Hid (s.reads = x :: l) := hr
  clear hr
  clear h
  have hok : wordOkV 24 = false := rfl
  go_enter Try.func58, Try.ntmps58
  go_wp2_with fail
  refine (spec_wordOk 24 _).mono ?_
  rintro e w1 ⟨rfl, hw1⟩
  subst hw1
  rw [hok]
  have bx := World.alloc_heap_new w (.cells #[.int .i64 24, .int .i64 (d : Int), .int .i64 0, .int .i64 0, .int .i64 0] 91)
  have h := HH0.out.later (Bel.alloc w (.cells #[.int .i64 24, .int .i64 (d : Int), .int .i64 0, .int .i64 0, .int .i64 0] 91))
  have HF : Hid (FrR P P w (w.alloc (.cells #[.int .i64 24, .int .i64 (d : Int), .int .i64 0, .int .i64 0, .int .i64 0] 91))) := FrR.ofBelow (Bel.alloc w _)
  have hPB : P ≠ w.heap.size := by have := HH0.out.lt; omega
  have HBw : Hid (w.heap.size ≤ w.heap.size) := Nat.le_refl _
  generalize w.alloc (.cells #[.int .i64 24, .int .i64 (d : Int), .int .i64 0, .int .i64 0, .int .i64 0] 91) = w1 at bx h HF ⊢
  generalize w.heap.size = B at bx hPB ⊢
  have x0 : w1.cell? ⟨B, 0, none⟩ = some (.int .i64 24) := by simp [World.cell?, bx]
  have x1 : w1.cell? ⟨B, 1, none⟩ = some (.int .i64 (d : Int)) := by simp [World.cell?, bx]
  have x2 : w1.cell? ⟨B, 2, none⟩ = some (.int .i64 0) := by simp [World.cell?, bx]
  have x3 : w1.cell? ⟨B, 3, none⟩ = some (.int .i64 0) := by simp [World.cell?, bx]
  have x4 : w1.cell? ⟨B, 4, none⟩ = some (.int .i64 0) := by simp [World.cell?, bx]
  have HBX : Hid (w1.heap[B]? = some (.cells #[.int .i64 24, .int .i64 (d : Int), .int .i64 0, .int .i64 0, .int .i64 0] 91 (0, 0))) := bx
  have hVB : vb ≠ B := fun e => not_row bx (by decide) h.vals.heapOf e.symm
  have hCB : cb ≠ B := fun e => not_row bx (by decide) h.cells.heapOf e.symm
  have hPV : P ≠ vb := not_row h.box (by decide) h.vals.heapOf
  have hPC : P ≠ cb := not_row h.box (by decide) h.cells.heapOf
  have hVC := h.d1
  obtain ⟨p0, p1, p2, p3, p4, p5⟩ := h.cell
  have HH : Hid (SAt W0 w1 P vn s vb vc cb cc rv rb tb tc pb pc) := h
  have fv : ∀ i, w1.frozen? ⟨vb, i, none⟩ = false := fun i => frozen_of_cells h.vals.heapOf i
  have fc : ∀ i, w1.frozen? ⟨cb, i, none⟩ = false := fun i => frozen_of_cells h.cells.heapOf i
  clear bx
  have h2 := h.setVal hd 0
  have hr := h2.reads
  have HR2 : Hid (ReadsIn (w1.setCell ⟨vb, d, none⟩ (.int .i64 0)) W0.heap.size rv rb s.reads) := hr
  obtain ⟨off, rcap, erv, hc1, hc2, hlo, hhp, hcc⟩ := hr
  have erv2 : rv = .slice (some ⟨rb, off, none⟩) (x :: l).length rcap := by rw [← HRN.out]; exact erv
  have hc1' : (x :: l).length ≤ rcap := by rw [← HRN.out]; exact hc1
  have r0 : (w1.setCell ⟨vb, d, none⟩ (.int .i64 0)).cell? ⟨rb, off, none⟩ = some (.int .i64 x) := by
    have := hcc 0 (by show 0 < s.reads.length; rw [HRN.out]; simp)
    have e : ({ s with vals := updN s.vals d 0 } : RunS).reads.getD 0 0 = x := by show s.reads.getD 0 0 = x; rw [HRN.out]; rfl
    rw [e] at this
    simpa using this
  obtain ⟨n, HNL⟩ : ∃ n, Hid ((x :: l).length = n) := ⟨_, rfl⟩
  rw [HNL.out] at erv2 hc1'
  subst erv2
  have hn1 : 1 ≤ n := by have := HNL.out; simp at this; omega
  have hn0 : (0 : Int) < (n : Int) := by omega
  have cd2 := h2.valAt hd
  have hVR := h.d2
  have fd2 : (w1.setCell ⟨vb, d, none⟩ (.int .i64 0)).frozen? ⟨vb, d, none⟩ = false := frozen_of_cells h2.vals.heapOf d
  have fP2 := (h2.setVal hd x).frozen 2
  have HH2 : Hid (SAt W0 (w1.setCell ⟨vb, d, none⟩ (.int .i64 0)) P vn { s with vals := updN s.vals d 0 } vb vc cb cc (.slice (some ⟨rb, off, none⟩) n rcap) rb tb tc pb pc) := h2
  have P0 := far_block (o := d) (v := .int .i64 0) p0 (fun e => hPV e.symm)
  have P2 := far_block (o := d) (v := .int .i64 0) p2 (fun e => hPV e.symm)
  have X1 := far_block (o := d) (v := .int .i64 0) x1 hVB
  have hcc2 : Hid (∀ i, i < s.reads.length → (w1.setCell ⟨vb, d, none⟩ (.int .i64 0)).cell? ⟨rb, off + i, none⟩ = some (.int .i64 (s.reads.getD i 0))) := hcc
  have hhp2 : Hid (∃ c, (w1.setCell ⟨vb, d, none⟩ (.int .i64 0)).heap[rb]? = some (.cells c 3 (0, 0))) := hhp
  have HLO : Hid (W0.heap.size ≤ rb) := hlo
  have cd := h.valAt hd
  obtain ⟨z, Hz⟩ : ∃ z, Hid (s.vals d = z) := ⟨_, rfl⟩
  rw [Hz.out] at cd
  have fz := fv d
  clear h fv fc h2 hcc hhp hlo HR2 erv hc1
  go_wp2_with fail
  go_region_held3 (fun w' => w'.cell? ⟨P, 0, none⟩ = some (.slice (some ⟨vb, 0, none⟩) vn vc) ∧ w'.cell? ⟨B, 1, none⟩ = some (.int .i64 (d : Int))) (first | exact ⟨P0, X1⟩ | go_keep) (fail)
  simp only [Exit.then]
  go_at_K
  generalize hw2 : w1.setCell ⟨vb, d, none⟩ (.int .i64 0) = w2 at *
  go_wp2_with fail
  go_region_held3 (fun w' => w'.cell? ⟨P, 0, none⟩ = some (.slice (some ⟨vb, 0, none⟩) vn vc) ∧ w'.cell? ⟨B, 1, none⟩ = some (.int .i64 (d : Int)) ∧ w'.cell? ⟨P, 2, none⟩ = some (.slice (some ⟨rb, off, none⟩) n rcap) ∧ w'.cell? ⟨rb, off, none⟩ = some (.int .i64 x)) (first | exact ⟨far_block P0 (fun e => hPV e.symm), far_block X1 hVB, far_block P2 (fun e => hPV e.symm), far_block r0 hVR⟩ | go_keep) (fail)
  simp only [Exit.then]
  go_at_K
  have P2' := far_block (o := d) (v := .int .i64 x) P2 (fun e => hPV e.symm)
  have h3 : SAt W0 (w2.setCell ⟨vb, d, none⟩ (.int .i64 x)) P vn { s with vals := updN s.vals d x } vb vc cb cc (.slice (some ⟨rb, off, none⟩) n rcap) rb tb tc pb pc := by
    have h4 := HH2.out.setVal hd x
    dsimp only at h4
    rw [updN_updN] at h4
    exact h4
  obtain ⟨off', cap', e', g1, g2, g3, g4, g5⟩ := h3.reads
  have eo : off' = off ∧ cap' = rcap := by simp at e'; exact ⟨e'.1.symm, e'.2.2.symm⟩
  obtain ⟨rfl, rfl⟩ := eo
  have H3 : Hid (SAt W0 (w2.setCell ⟨vb, d, none⟩ (.int .i64 x)) P vn { s with vals := updN s.vals d x } vb vc cb cc (.slice (some ⟨rb, off', none⟩) n cap') rb tb tc pb pc) := h3
  have G4 : Hid (∃ c, (w2.setCell ⟨vb, d, none⟩ (.int .i64 x)).heap[rb]? = some (.cells c 3 (0, 0))) := g4
  have G5 : Hid (∀ i, i < s.reads.length → (w2.setCell ⟨vb, d, none⟩ (.int .i64 x)).cell? ⟨rb, off' + i, none⟩ = some (.int .i64 (s.reads.getD i 0))) := g5
  clear h3 g1 g2 g3 g4 g5 e' hcc2 hhp2
  go_wp2_with fail
  · go_ret
    refine ⟨rfl, ⟨vb, vc, cb, cc, .slice (some ⟨rb, off', none⟩) (n - 1) 0, rb, tb, tc, pb, pc, ?_⟩, ?_⟩
    · have hl0 : l = [] := by
        have := HNL.out
        simp at this
        exact List.eq_nil_of_length_eq_zero (by omega)
      have hx : ReadsIn (w2.setCell ⟨vb, d, none⟩ (.int .i64 x)) W0.heap.size (.slice (some ⟨rb, off', none⟩) (n - 1) 0) rb l := by
        have hnl : n - 1 = l.length := by have := HNL.out; simp at this; omega
        refine ⟨off', 0, by rw [hnl], by rw [hl0]; simp, by omega, HLO.out, G4.out, fun i hi => ?_⟩
        rw [hl0] at hi
        simp at hi
      have h4 := H3.out.setReads hx
      first | exact h4.drew.drew | exact h4.drew | exact h4
    · exact HF.out.trans ((by rw [← hw2]; exact FrR.setRow (P := P) HH.out.vals _ : FrR P P w1 w2).trans ((FrR.setRow (P := P) (o := d) HH2.out.vals (.int .i64 x)).trans ((FrR.setR P P 2 _ _).trans (by first | exact FrR.refl _ _ _ | exact FrR.drew _ _ _ | exact (FrR.drew _ _ _).trans (FrR.drew _ _ _)))))
  · go_ret
    refine ⟨rfl, ⟨vb, vc, cb, cc, .slice (some ⟨rb, off' + 1, none⟩) (n - 1) (cap' - 1), rb, tb, tc, pb, pc, ?_⟩, ?_⟩
    · have hx : ReadsIn (w2.setCell ⟨vb, d, none⟩ (.int .i64 x)) W0.heap.size (.slice (some ⟨rb, off' + 1, none⟩) (n - 1) (cap' - 1)) rb l := by
        have hnl : n - 1 = l.length := by have := HNL.out; simp at this; omega
        refine ⟨off' + 1, cap' - 1, by rw [hnl], by omega, by omega, HLO.out, G4.out, fun i hi => ?_⟩
        have h5 := G5.out (i + 1) (by rw [HRN.out]; simp; omega)
        have e : off' + (i + 1) = off' + 1 + i := by omega
        rw [e, HRN.out] at h5
        simpa [List.getD] using h5
      have h4 := H3.out.setReads hx
      first | exact h4.drew.drew | exact h4.drew | exact h4
    · exact HF.out.trans ((by rw [← hw2]; exact FrR.setRow (P := P) HH.out.vals _ : FrR P P w1 w2).trans ((FrR.setRow (P := P) (o := d) HH2.out.vals (.int .i64 x)).trans ((FrR.setR P P 2 _ _).trans (by first | exact FrR.refl _ _ _ | exact FrR.drew _ _ _ | exact (FrR.drew _ _ _).trans (FrR.drew _ _ _)))))

set_option maxRecDepth 100000 in
set_option maxHeartbeats 4000000 in
theorem sIns_out (a : Nat) (ha : a < vn) (hl : s.told.length ≤ 5000) (w : World) (h : SIs W0 w P vn s) :
    Calls Try.prog 58 #[.pointer (some ⟨P, 0, none⟩), .agg #[.int .i64 23, .int .i64 0, .int .i64 (a : Int), .int .i64 0, .int .i64 0]] w fun e w' => e = .returned (.int .i64 0) ∧ STo W0 P vn w { s with told := s.told ++ [s.vals a] } w' := by
  obtain ⟨vb, vc, cb, cc, rv, rb, tb, tc, pb, pc, h⟩ := h
  have HH0 : Hid (SAt W0 w P vn s vb vc cb cc rv rb tb tc pb pc) := h
  have ha2 : (a : Int) < (vn : Int) := by omega
  clear h
  have hok : wordOkV 23 = false := rfl
  go_enter Try.func58, Try.ntmps58
  go_wp2_with fail
  refine (spec_wordOk 23 _).mono ?_
  rintro e w1 ⟨rfl, hw1⟩
  subst hw1
  rw [hok]
  have bx := World.alloc_heap_new w (.cells #[.int .i64 23, .int .i64 0, .int .i64 (a : Int), .int .i64 0, .int .i64 0] 91)
  have h := HH0.out.later (Bel.alloc w (.cells #[.int .i64 23, .int .i64 0, .int .i64 (a : Int), .int .i64 0, .int .i64 0] 91))
  have HF : Hid (FrR P P w (w.alloc (.cells #[.int .i64 23, .int .i64 0, .int .i64 (a : Int), .int .i64 0, .int .i64 0] 91))) := FrR.ofBelow (Bel.alloc w _)
  have hPB : P ≠ w.heap.size := by have := HH0.out.lt; omega
  have HBw : Hid (w.heap.size ≤ w.heap.size) := Nat.le_refl _
  generalize w.alloc (.cells #[.int .i64 23, .int .i64 0, .int .i64 (a : Int), .int .i64 0, .int .i64 0] 91) = w1 at bx h HF ⊢
  generalize w.heap.size = B at bx hPB ⊢
  have x0 : w1.cell? ⟨B, 0, none⟩ = some (.int .i64 23) := by simp [World.cell?, bx]
  have x1 : w1.cell? ⟨B, 1, none⟩ = some (.int .i64 0) := by simp [World.cell?, bx]
  have x2 : w1.cell? ⟨B, 2, none⟩ = some (.int .i64 (a : Int)) := by simp [World.cell?, bx]
  have x3 : w1.cell? ⟨B, 3, none⟩ = some (.int .i64 0) := by simp [World.cell?, bx]
  have x4 : w1.cell? ⟨B, 4, none⟩ = some (.int .i64 0) := by simp [World.cell?, bx]
  have HBX : Hid (w1.heap[B]? = some (.cells #[.int .i64 23, .int .i64 0, .int .i64 (a : Int), .int .i64 0, .int .i64 0] 91 (0, 0))) := bx
  have hVB : vb ≠ B := fun e => not_row bx (by decide) h.vals.heapOf e.symm
  have hCB : cb ≠ B := fun e => not_row bx (by decide) h.cells.heapOf e.symm
  have hPV : P ≠ vb := not_row h.box (by decide) h.vals.heapOf
  have hPC : P ≠ cb := not_row h.box (by decide) h.cells.heapOf
  have hVC := h.d1
  obtain ⟨p0, p1, p2, p3, p4, p5⟩ := h.cell
  have HH : Hid (SAt W0 w1 P vn s vb vc cb cc rv rb tb tc pb pc) := h
  have fv : ∀ i, w1.frozen? ⟨vb, i, none⟩ = false := fun i => frozen_of_cells h.vals.heapOf i
  have fc : ∀ i, w1.frozen? ⟨cb, i, none⟩ = false := fun i => frozen_of_cells h.cells.heapOf i
  clear bx
  have ca := h.valAt ha
  obtain ⟨y, Hy⟩ : ∃ y, Hid (s.vals a = y) := ⟨_, rfl⟩
  rw [Hy.out] at ca
  obtain ⟨tn, HTN⟩ : ∃ n, Hid (s.told.length = n) := ⟨_, rfl⟩
  rw [HTN.out] at p3 hl
  have h2 := h.drew
  have F2 : Hid (FrR P P w w1.drew) := HF.out.trans (FrR.drew _ _ _)
  have b2 : w1.drew.heap[B]? = some (.cells #[.int .i64 23, .int .i64 0, .int .i64 (a : Int), .int .i64 0, .int .i64 0] 91 (0, 0)) := HBX.out
  have hS : (fun w' => w'.cell? ⟨P, 0, none⟩ = some (.slice (some ⟨vb, 0, none⟩) vn vc) ∧ w'.cell? ⟨P, 3, none⟩ = some (.slice (some ⟨tb, 0, none⟩) tn tc) ∧ w'.cell? ⟨B, 2, none⟩ = some (.int .i64 (a : Int)) ∧ w'.cell? ⟨vb, a, none⟩ = some (.int .i64 y)) w1.drew := ⟨p0, p3, x2, ca⟩
  obtain ⟨i0, hi, hz0, hz1, hz2⟩ := info_parts info_int
  have hmx : 100000 ≤ maxLen := by decide
  clear h fv fc
  go_wp2_with fail
  refine region_M 17 (fun w' => w'.cell? ⟨P, 0, none⟩ = some (.slice (some ⟨vb, 0, none⟩) vn vc) ∧ w'.cell? ⟨P, 3, none⟩ = some (.slice (some ⟨tb, 0, none⟩) tn tc) ∧ w'.cell? ⟨B, 2, none⟩ = some (.int .i64 (a : Int)) ∧ w'.cell? ⟨vb, a, none⟩ = some (.int .i64 y)) (by kernel_rfl) ?_
  generalize w1.drew = w2 at hS h2 F2 b2 ⊢
  have H2 : Hid (SAt W0 w2 P vn s vb vc cb cc rv rb tb tc pb pc) := h2
  have HB2 : Hid (w2.heap[B]? = some (.cells #[.int .i64 23, .int .i64 0, .int .i64 (a : Int), .int .i64 0, .int .i64 0] 91 (0, 0))) := b2
  have hPl := h2.lt
  have hBl := (Array.getElem?_eq_some_iff.1 b2).1
  have hvl := (World.ownsRow.lt h2.vals _ rfl).2
  have hT9 : OwnInts w2 W0.heap.size (.slice (some ⟨tb, 0, none⟩) tn tc) s.told := by
    have := h2.told
    rw [HTN.out] at this
    exact this
  have HT9 : Hid (OwnInts w2 W0.heap.size (.slice (some ⟨tb, 0, none⟩) tn tc) s.told) := hT9
  clear h2 b2 hT9
  refine wpAnyM_take (i := 0) (oi := { dst := some 141, op := Op.move (Operand.tmp 0), type := 66, pos := "l06_run.go:35", after := #[], guard := none }) (v := .pointer (some ⟨P, 0, none⟩)) rfl (by kernel_rfl) (by kernel_rfl) (by kernel_rfl) (by kernel_rfl) (fun _ _ _ h => h) (Or.inl ⟨by rfl, fun W hW => by obtain ⟨q0, q1, q2, q3⟩ := hW; go_simp⟩) hS ?_
  simp only [Act.put, List.setIfInBounds_toArray, List.set_cons_zero, List.set_cons_succ]
  refine wpAnyM_take (i := 1) (oi := { dst := some 142, op := Op.move (Operand.tmp 0), type := 66, pos := "l06_run.go:35", after := #[], guard := none }) (v := .pointer (some ⟨P, 0, none⟩)) rfl (by kernel_rfl) (by kernel_rfl) (by kernel_rfl) (by kernel_rfl) (fun _ _ _ h => h) (Or.inl ⟨by rfl, fun W hW => by obtain ⟨q0, q1, q2, q3⟩ := hW; go_simp⟩) hS ?_
  simp only [Act.put, List.setIfInBounds_toArray, List.set_cons_zero, List.set_cons_succ]
  refine wpAnyM_take (i := 2) (oi := { dst := some 143, op := Op.nilCheck (Operand.tmp 142), type := 0, pos := "l06_run.go:35", after := #[{ on := 1, ground := Ground.data }], guard := none }) (v := .pointer (some ⟨P, 0, none⟩)) rfl (by kernel_rfl) (by kernel_rfl) (by kernel_rfl) (by kernel_rfl) (fun _ _ _ h => h) (Or.inl ⟨by rfl, fun W hW => by obtain ⟨q0, q1, q2, q3⟩ := hW; go_simp⟩) hS ?_
  simp only [Act.put, List.setIfInBounds_toArray, List.set_cons_zero, List.set_cons_succ]
  refine wpAnyM_take (i := 3) (oi := { dst := some 144, op := Op.fieldAddr 70 (Operand.tmp 143) 3, type := 0, pos := "l06_run.go:35", after := #[{ on := 2, ground := Ground.data }], guard := none }) (v := .pointer (some ⟨P, 3, none⟩)) rfl (by kernel_rfl) (by kernel_rfl) (by kernel_rfl) (by kernel_rfl) (fun _ _ _ h => h) (Or.inl ⟨by rfl, fun W hW => by obtain ⟨q0, q1, q2, q3⟩ := hW; go_simp⟩) hS ?_
  simp only [Act.put, List.setIfInBounds_toArray, List.set_cons_zero, List.set_cons_succ]
  refine wpAnyM_take (i := 4) (oi := { dst := some 145, op := Op.load 27 (Operand.tmp 144), type := 27, pos := "l06_run.go:35", after := #[{ on := 3, ground := Ground.data }], guard := none }) (v := .slice (some ⟨tb, 0, none⟩) tn tc) rfl (by kernel_rfl) (by kernel_rfl) (by kernel_rfl) (by kernel_rfl) (fun _ _ _ h => h) (Or.inl ⟨by rfl, fun W hW => by obtain ⟨q0, q1, q2, q3⟩ := hW; go_simp⟩) hS ?_
  simp only [Act.put, List.setIfInBounds_toArray, List.set_cons_zero, List.set_cons_succ]
  refine wpAnyM_take (i := 5) (oi := { dst := some 146, op := Op.move (Operand.tmp 0), type := 66, pos := "l06_run.go:35", after := #[], guard := none }) (v := .pointer (some ⟨P, 0, none⟩)) rfl (by kernel_rfl) (by kernel_rfl) (by kernel_rfl) (by kernel_rfl) (fun _ _ _ h => h) (Or.inl ⟨by rfl, fun W hW => by obtain ⟨q0, q1, q2, q3⟩ := hW; go_simp⟩) hS ?_
  simp only [Act.put, List.setIfInBounds_toArray, List.set_cons_zero, List.set_cons_succ]
  refine wpAnyM_take (i := 6) (oi := { dst := some 147, op := Op.nilCheck (Operand.tmp 146), type := 0, pos := "l06_run.go:35", after := #[{ on := 5, ground := Ground.data }], guard := none }) (v := .pointer (some ⟨P, 0, none⟩)) rfl (by kernel_rfl) (by kernel_rfl) (by kernel_rfl) (by kernel_rfl) (fun _ _ _ h => h) (Or.inl ⟨by rfl, fun W hW => by obtain ⟨q0, q1, q2, q3⟩ := hW; go_simp⟩) hS ?_
  simp only [Act.put, List.setIfInBounds_toArray, List.set_cons_zero, List.set_cons_succ]
  refine wpAnyM_take (i := 7) (oi := { dst := some 148, op := Op.fieldAddr 70 (Operand.tmp 147) 0, type := 0, pos := "l06_run.go:35", after := #[{ on := 6, ground := Ground.data }], guard := none }) (v := .pointer (some ⟨P, 0, none⟩)) rfl (by kernel_rfl) (by kernel_rfl) (by kernel_rfl) (by kernel_rfl) (fun _ _ _ h => h) (Or.inl ⟨by rfl, fun W hW => by obtain ⟨q0, q1, q2, q3⟩ := hW; go_simp⟩) hS ?_
  simp only [Act.put, List.setIfInBounds_toArray, List.set_cons_zero, List.set_cons_succ]
  refine wpAnyM_take (i := 8) (oi := { dst := some 149, op := Op.load 27 (Operand.tmp 148), type := 27, pos := "l06_run.go:35", after := #[{ on := 7, ground := Ground.data }], guard := none }) (v := .slice (some ⟨vb, 0, none⟩) vn vc) rfl (by kernel_rfl) (by kernel_rfl) (by kernel_rfl) (by kernel_rfl) (fun _ _ _ h => h) (Or.inl ⟨by rfl, fun W hW => by obtain ⟨q0, q1, q2, q3⟩ := hW; go_simp⟩) hS ?_
  simp only [Act.put, List.setIfInBounds_toArray, List.set_cons_zero, List.set_cons_succ]
  refine wpAnyM_take (i := 9) (oi := { dst := some 150, op := Op.fieldAddr 91 (Operand.tmp 3) 2, type := 0, pos := "l06_run.go:35", after := #[], guard := none }) (v := .pointer (some ⟨B, 2, none⟩)) rfl (by kernel_rfl) (by kernel_rfl) (by kernel_rfl) (by kernel_rfl) (fun _ _ _ h => h) (Or.inl ⟨by rfl, fun W hW => by obtain ⟨q0, q1, q2, q3⟩ := hW; go_simp⟩) hS ?_
  simp only [Act.put, List.setIfInBounds_toArray, List.set_cons_zero, List.set_cons_succ]
  refine wpAnyM_take (i := 10) (oi := { dst := some 151, op := Op.load 3 (Operand.tmp 150), type := 3, pos := "l06_run.go:35", after := #[{ on := 9, ground := Ground.data }], guard := none }) (v := .int .i64 (a : Int)) rfl (by kernel_rfl) (by kernel_rfl) (by kernel_rfl) (by kernel_rfl) (fun _ _ _ h => h) (Or.inl ⟨by rfl, fun W hW => by obtain ⟨q0, q1, q2, q3⟩ := hW; go_simp⟩) hS ?_
  simp only [Act.put, List.setIfInBounds_toArray, List.set_cons_zero, List.set_cons_succ]
  refine wpAnyM_take (i := 11) (oi := { dst := some 152, op := Op.indexAddr 27 (Operand.tmp 149) (Operand.tmp 151), type := 0, pos := "l06_run.go:35", after := #[{ on := 8, ground := Ground.data }, { on := 10, ground := Ground.data }], guard := none }) (v := .pointer (some ⟨vb, a, none⟩)) rfl (by kernel_rfl) (by kernel_rfl) (by kernel_rfl) (by kernel_rfl) (fun _ _ _ h => h) (Or.inl ⟨by rfl, fun W hW => by obtain ⟨q0, q1, q2, q3⟩ := hW; go_simp⟩) hS ?_
  simp only [Act.put, List.setIfInBounds_toArray, List.set_cons_zero, List.set_cons_succ]
  refine wpAnyM_take (i := 12) (oi := { dst := some 153, op := Op.load 3 (Operand.tmp 152), type := 3, pos := "l06_run.go:35", after := #[{ on := 11, ground := Ground.data }], guard := none }) (v := .int .i64 y) rfl (by kernel_rfl) (by kernel_rfl) (by kernel_rfl) (by kernel_rfl) (fun _ _ _ h => h) (Or.inl ⟨by rfl, fun W hW => by obtain ⟨q0, q1, q2, q3⟩ := hW; go_simp⟩) hS ?_
  simp only [Act.put, List.setIfInBounds_toArray, List.set_cons_zero, List.set_cons_succ]
  refine wpAnyM_oneK (i := 13) (o := { dst := some 154, op := Op.buildSlice 27 1 #[(0, Operand.tmp 153)], type := 27, pos := "l06_run.go:35", after := #[{ on := 12, ground := Ground.data }], guard := none }) rfl rfl (by kernel_rfl) (fun K hK => ?_)
  go_simp
  have hS3 : (fun w' => w'.cell? ⟨P, 0, none⟩ = some (.slice (some ⟨vb, 0, none⟩) vn vc) ∧ w'.cell? ⟨P, 3, none⟩ = some (.slice (some ⟨tb, 0, none⟩) tn tc) ∧ w'.cell? ⟨B, 2, none⟩ = some (.int .i64 (a : Int)) ∧ w'.cell? ⟨vb, a, none⟩ = some (.int .i64 y)) (w2.alloc (.cells #[.int .i64 y] 3)) := ⟨Bel.keeps (Bel.alloc _ _) hS.1, Bel.keeps (Bel.alloc _ _) hS.2.1, Bel.keeps (Bel.alloc _ _) hS.2.2.1, Bel.keeps (Bel.alloc _ _) hS.2.2.2⟩
  refine hK _ _ ⟨fun _ => hS3, ?_⟩
  clear hK
  refine wpAnyM_oneK (i := 14) (o := { dst := some 155, op := Op.call { callee := Callee.builtin Builtin.append, args := #[Operand.tmp 145, Operand.tmp 154], argTypes := #[27, 27] }, type := 27, pos := "l06_run.go:35", after := #[{ on := 4, ground := Ground.data }, { on := 13, ground := Ground.data }], guard := none }) rfl rfl (by kernel_rfl) (fun K hK => ?_)
  have hown2 : (w2.alloc (.cells #[.int .i64 y] 3)).ownsRow W0.heap.size 3 1 (.slice (some ⟨tb, 0, none⟩) tn tc) tn (s.told.map (fun x => Value.int .i64 x)) := by
    have := World.ownsRow.alloc HT9.out (.cells #[.int .i64 y] 3)
    rw [HTN.out] at this
    exact this
  refine wp_append_loc (.tmp 145) (.tmp 154) 27 rfl W0.heap.size 3 i0 (.int .i64 0) 1 8 Try.underlying27 hi hz0 hz1 hz2 rfl (by decide) (.slice (some ⟨tb, 0, none⟩) tn tc) tn (s.told.map (fun x => Value.int .i64 x)) (by simp [Act.eval]) hown2 ⟨w2.heap.size, 0, none⟩ 1 1 [.int .i64 y] (by simp [Act.eval]) rfl (cell_one_new _ _ _) (by simp [Value.oneCell']) (by omega) (by omega) (by have := H2.out.below.size; simp; omega) ?_
  intro v' wa hown' hgrow hat
  obtain ⟨g', cap', rfl⟩ := ownsRow_succ hown'
  have HO' : OwnInts wa W0.heap.size (.slice (some ⟨g', 0, none⟩) (s.told.length + 1) cap') (s.told ++ [y]) := by
    rw [HTN.out]
    refine OwnInts.next ?_
    rw [HTN.out]
    exact hown'
  have hat2 : g' = tb ∨ g' = w2.heap.size + 1 := by
    rcases hat with e | e
    · exact .inl (by simpa [Value.ownBlock] using e)
    · exact .inr (by simpa [Value.ownBlock] using e)
  obtain ⟨ea, va, fa, sa⟩ := H2.out.told_grown HO' hgrow hat2
  rw [HTN.out] at sa
  have SA : Hid (SAt W0 (wa.setCell ⟨P, 3, none⟩ (.slice (some ⟨g', 0, none⟩) (tn + 1) cap')) P vn { s with told := s.told ++ [y] } vb vc cb cc rv rb g' cap' pb pc) := sa
  have FA : Hid (FrR P P w2 wa) := fa
  have ba := fa.box HB2.out (fun e => hPB e.symm) (fun e => hPB e.symm) (by decide)
  have k0 : wa.cell? ⟨P, 0, none⟩ = some (.slice (some ⟨vb, 0, none⟩) vn vc) := (cell_of_heap ea 0).trans hS.1
  have k3 : wa.cell? ⟨P, 3, none⟩ = some (.slice (some ⟨tb, 0, none⟩) tn tc) := (cell_of_heap ea 3).trans hS.2.1
  have kb : wa.cell? ⟨B, 2, none⟩ = some (.int .i64 (a : Int)) := by simp [World.cell?, ba]
  have ka : wa.cell? ⟨vb, a, none⟩ = some (.int .i64 y) := by
    have := va.cellAt ha
    rw [listN_at _ _ ha, Hy.out] at this
    exact this
  have kf : wa.frozen? ⟨P, 3, none⟩ = false := frozen_of_cells ⟨_, ea.trans H2.out.box⟩ 3
  have hS4 : (fun w' => w'.cell? ⟨P, 0, none⟩ = some (.slice (some ⟨vb, 0, none⟩) vn vc) ∧ w'.cell? ⟨P, 3, none⟩ = some (.slice (some ⟨tb, 0, none⟩) tn tc) ∧ w'.cell? ⟨B, 2, none⟩ = some (.int .i64 (a : Int)) ∧ w'.cell? ⟨vb, a, none⟩ = some (.int .i64 y)) wa := ⟨k0, k3, kb, ka⟩
  refine hK _ _ ⟨fun _ => hS4, ?_⟩
  clear hK hown' hgrow hat HO' va fa sa ba hat2
  simp only [Act.put, List.setIfInBounds_toArray, List.set_cons_zero, List.set_cons_succ]
  refine wpAnyM_oneK (i := 15) (o := { dst := some 156, op := Op.nilCheck (Operand.tmp 141), type := 0, pos := "l06_run.go:35", after := #[{ on := 0, ground := Ground.data }, { on := 0, ground := Ground.phase }, { on := 1, ground := Ground.phase }, { on := 2, ground := Ground.phase }, { on := 3, ground := Ground.phase }, { on := 4, ground := Ground.phase }, { on := 5, ground := Ground.phase }, { on := 6, ground := Ground.phase }, { on := 7, ground := Ground.phase }, { on := 8, ground := Ground.phase }, { on := 9, ground := Ground.phase }, { on := 10, ground := Ground.phase }, { on := 11, ground := Ground.phase }, { on := 12, ground := Ground.phase }, { on := 13, ground := Ground.phase }, { on := 14, ground := Ground.phase }], guard := none }) rfl rfl (by kernel_rfl) (fun K hK => ?_)
  go_simp
  refine hK _ _ ⟨fun _ => hS4, ?_⟩
  clear hK
  refine wpAnyM_take (i := 16) (oi := { dst := some 157, op := Op.fieldAddr 70 (Operand.tmp 156) 3, type := 0, pos := "l06_run.go:35", after := #[{ on := 15, ground := Ground.data }, { on := 0, ground := Ground.phase }, { on := 1, ground := Ground.phase }, { on := 2, ground := Ground.phase }, { on := 3, ground := Ground.phase }, { on := 4, ground := Ground.phase }, { on := 5, ground := Ground.phase }, { on := 6, ground := Ground.phase }, { on := 7, ground := Ground.phase }, { on := 8, ground := Ground.phase }, { on := 9, ground := Ground.phase }, { on := 10, ground := Ground.phase }, { on := 11, ground := Ground.phase }, { on := 12, ground := Ground.phase }, { on := 13, ground := Ground.phase }, { on := 14, ground := Ground.phase }], guard := none }) (v := .pointer (some ⟨P, 3, none⟩)) rfl (by kernel_rfl) (by kernel_rfl) (by kernel_rfl) (by kernel_rfl) (fun _ _ _ h => h) (Or.inl ⟨by rfl, fun W hW => by obtain ⟨q0, q1, q2, q3⟩ := hW; go_simp⟩) hS4 ?_
  simp only [Act.put, List.setIfInBounds_toArray, List.set_cons_zero, List.set_cons_succ]
  refine wpAnyM_oneK (i := 17) (o := { dst := none, op := Op.store 27 (Operand.tmp 157) (Operand.tmp 155), type := 0, pos := "l06_run.go:35", after := #[{ on := 16, ground := Ground.data }, { on := 14, ground := Ground.data }, { on := 14, ground := Ground.chain }, { on := 0, ground := Ground.phase }, { on := 1, ground := Ground.phase }, { on := 2, ground := Ground.phase }, { on := 3, ground := Ground.phase }, { on := 4, ground := Ground.phase }, { on := 5, ground := Ground.phase }, { on := 6, ground := Ground.phase }, { on := 7, ground := Ground.phase }, { on := 8, ground := Ground.phase }, { on := 9, ground := Ground.phase }, { on := 10, ground := Ground.phase }, { on := 11, ground := Ground.phase }, { on := 12, ground := Ground.phase }, { on := 13, ground := Ground.phase }, { on := 14, ground := Ground.phase }], guard := none }) rfl rfl (by kernel_rfl) (fun K hK => ?_)
  go_simp
  refine hK _ _ ⟨fun h => absurd rfl h, wpAnyM_done (by kernel_rfl) ?_ _⟩
  clear hK
  simp only [Exit.inBlock, Exit.then]
  go_at_K
  go_wp2
  go_ret
  rw [Hy.out]
  exact ⟨rfl, ⟨_, _, _, _, _, _, _, _, _, _, SA.out⟩, F2.out.trans (FA.out.trans (FrR.setR P P 3 _ wa))⟩

theorem val_natV {vals v : Int} {vn : Nat} (h : valIn vals v = true) (hv : (vn : Int) = vals) : ∃ n : Nat, v = (n : Int) ∧ n < vn := by
  simp [valIn] at h
  exact ⟨v.toNat, by omega, by omega⟩
theorem sIns_any (vals : Int) (x : InsD) (hv : (vn : Int) = vals) (hx : placeOkV vals x = true) (w : World) (h : SIs W0 w P vn s) (hl : s.told.length ≤ 5000) :
    Calls Try.prog 58 #[.pointer (some ⟨P, 0, none⟩), .agg #[.int .i64 x.op, .int .i64 x.d, .int .i64 x.a, .int .i64 x.b, .int .i64 x.n]] w fun e w' => e = .returned (.int .i64 (insDo wordV x s).1) ∧ STo W0 P vn w (insDo wordV x s).2 w' := by
  obtain ⟨op, d, a, b, n⟩ := x
  dsimp only
  unfold placeOkV at hx
  dsimp only at hx
  rcases op_cases op with h0 | h0 | h0 | h0 | h0 | h0 | ⟨⟨e0, e1, e2, e3, e4, e5⟩, ⟨hq, hq1⟩ | hq | ⟨hq1, hq⟩⟩
  · subst h0
    rw [insOkV_const] at hx
    simp only [Bool.and_eq_true, beq_iff_eq] at hx
    obtain ⟨⟨hd, rfl⟩, rfl⟩ := hx
    obtain ⟨dn, rfl, hdn⟩ := val_natV hd hv
    have ei : insDo wordV ⟨20, (dn : Int), 0, 0, n⟩ s = (0, { s with vals := updN s.vals dn n }) := by simp [insDo, RunS.setV]
    rw [ei]
    exact sIns_const dn n hdn w h
  · subst h0
    rw [insOkV_load] at hx
    simp only [Bool.and_eq_true, beq_iff_eq] at hx
    obtain ⟨⟨⟨hd, ha⟩, rfl⟩, rfl⟩ := hx
    obtain ⟨dn, rfl, hdn⟩ := val_natV hd hv
    obtain ⟨an, rfl, han⟩ := val_natV ha hv
    by_cases hc : cellOk (s.vals an)
    · obtain ⟨cn, hcn, hc8⟩ := cell_nat hc
      have ei : insDo wordV ⟨21, (dn : Int), (an : Int), 0, 0⟩ s = (0, { s with vals := updN s.vals dn (s.cells cn) }) := by
        rw [hcn] at hc
        simp [insDo, RunS.setV, RunS.val, hcn, hc]
      rw [ei]
      exact sIns_load dn an cn hdn han hc8 hcn w h
    · have ei : insDo wordV ⟨21, (dn : Int), (an : Int), 0, 0⟩ s = (2, s) := by simp [insDo, RunS.val, hc]
      rw [ei]
      exact sIns_loadNo dn an han hc w h
  · subst h0
    rw [insOkV_store] at hx
    simp only [Bool.and_eq_true, beq_iff_eq] at hx
    obtain ⟨⟨⟨ha, hb⟩, rfl⟩, rfl⟩ := hx
    obtain ⟨an, rfl, han⟩ := val_natV ha hv
    obtain ⟨bn, rfl, hbn⟩ := val_natV hb hv
    by_cases hc : cellOk (s.vals an)
    · obtain ⟨cn, hcn, hc8⟩ := cell_nat hc
      have ei : insDo wordV ⟨22, 0, (an : Int), (bn : Int), 0⟩ s = (0, { s with cells := updN s.cells cn (s.vals bn) }) := by
        rw [hcn] at hc
        simp [insDo, RunS.val, hcn, hc]
      rw [ei]
      exact sIns_store an bn cn han hbn hc8 hcn w h
    · have ei : insDo wordV ⟨22, 0, (an : Int), (bn : Int), 0⟩ s = (2, s) := by simp [insDo, RunS.val, hc]
      rw [ei]
      exact sIns_storeNo an bn han hc w h
  · subst h0
    rw [insOkV_out] at hx
    simp only [Bool.and_eq_true, beq_iff_eq] at hx
    obtain ⟨⟨⟨ha, rfl⟩, rfl⟩, rfl⟩ := hx
    obtain ⟨an, rfl, han⟩ := val_natV ha hv
    have ei : insDo wordV ⟨23, 0, (an : Int), 0, 0⟩ s = (0, { s with told := s.told ++ [s.vals an] }) := by simp [insDo, RunS.val]
    rw [ei]
    exact sIns_out an han hl w h
  · subst h0
    rw [insOkV_read] at hx
    simp only [Bool.and_eq_true, beq_iff_eq] at hx
    obtain ⟨⟨⟨hd, rfl⟩, rfl⟩, rfl⟩ := hx
    obtain ⟨dn, rfl, hdn⟩ := val_natV hd hv
    cases hrr : s.reads with
    | nil =>
      have ei : insDo wordV ⟨24, (dn : Int), 0, 0, 0⟩ s = (0, { s with vals := updN s.vals dn 0 }) := by
        simp [insDo, RunS.setV, hrr]
      rw [ei]
      exact sIns_readNo dn hdn hrr w h
    | cons y l =>
      have ei : insDo wordV ⟨24, (dn : Int), 0, 0, 0⟩ s = (0, { s with vals := updN s.vals dn y, reads := l }) := by simp [insDo, RunS.setV, hrr]
      rw [ei]
      exact sIns_read dn hdn y l hrr w h
  · subst h0
    rw [insOkV_copy] at hx
    simp only [Bool.and_eq_true, beq_iff_eq] at hx
    obtain ⟨⟨⟨hd, ha⟩, rfl⟩, rfl⟩ := hx
    obtain ⟨dn, rfl, hdn⟩ := val_natV hd hv
    obtain ⟨an, rfl, han⟩ := val_natV ha hv
    have ei : insDo wordV ⟨25, (dn : Int), (an : Int), 0, 0⟩ s = (0, { s with vals := updN s.vals dn (s.vals an) }) := by simp [insDo, RunS.setV, RunS.val]
    rw [ei]
    exact sIns_copy dn an hdn han w h
  · rw [insOkV_word hq hq1] at hx
    simp only [Bool.and_eq_true, beq_iff_eq] at hx
    obtain ⟨⟨⟨hd, ha⟩, hb⟩, rfl⟩ := hx
    obtain ⟨dn, rfl, hdn⟩ := val_natV hd hv
    obtain ⟨an, rfl, han⟩ := val_natV ha hv
    obtain ⟨bn, rfl, hbn⟩ := val_natV hb hv
    have ei : insDo wordV ⟨op, (dn : Int), (an : Int), (bn : Int), 0⟩ s = (0, { s with vals := updN s.vals dn (wordV op (s.vals an) (s.vals bn)) }) := by simp [insDo, RunS.setV, RunS.val, hq, hq1]
    rw [ei]
    exact sIns_word op dn an bn hdn han hbn hq hq1 w h
  · rw [insOkV_none e0 e1 e2 e3 e4 e5 (by omega)] at hx
    cases hx
  · rw [insOkV_none e0 e1 e2 e3 e4 e5 (by omega)] at hx
    cases hx
end
end Go.Proofs.Ytkpddakmcnknjaa
