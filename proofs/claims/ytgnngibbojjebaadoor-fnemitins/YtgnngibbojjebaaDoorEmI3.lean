/- Code from homes, the program's parts: a copy, and each kind of place. -/
import Derived.Test.YtgnngibbojjebaaDoorEmI2
namespace Go.Proofs.YtgnngibbojjebaaDoor
open Go.ChangeShapes Go.WideShapes Go.ChangeAt Go.RowKit
set_option linter.unusedVariables false

/-- A box that was laid behind the emitter's own memory stays. -/
theorem EmTo.box {lo E B : Nat} {w w' : World} {v v' : Value} (h : EmTo lo E w v w' v') (hB : B < w.heap.size) (hE : B ≠ E) (hv : some B ≠ v.ownBlock) : w'.heap[B]? = w.heap[B]? ∧ some B ≠ v'.ownBlock ∧ B < w'.heap.size := by
  refine ⟨h.same B hB hE hv, fun e => ?_, Nat.lt_of_lt_of_le hB h.bel.size⟩
  rcases h.new with e1 | ⟨g, e1, h1⟩
  · rw [e1] at e; exact hv e
  · rw [e1] at e
    cases e
    omega
/-- A box beside an emitter. -/
structure BoxE (lo : Nat) (w : World) (E B : Nat) (v : Value) (l : List InsD) (cs : Array Value) (t : TypeId) : Prop where
  em : EmIs lo w E v l
  box : w.heap[B]? = some (.cells cs t (0, 0))
  ne : B ≠ E
  nv : some B ≠ v.ownBlock
  hi : lo ≤ w.heap.size
theorem BoxE.cell {lo E B : Nat} {w : World} {v : Value} {l : List InsD} {cs : Array Value} {t : TypeId} (h : BoxE lo w E B v l cs t) (j : Nat) : w.cell? ⟨B, j, none⟩ = cs[j]? := by
  have hb := h.box
  simp [World.cell?, hb]
theorem BoxE.to {lo E B : Nat} {w w' : World} {v v' : Value} {l l' : List InsD} {cs : Array Value} {t : TypeId} (h : BoxE lo w E B v l cs t) (he : EmIs lo w' E v' l') (ht : EmTo lo E w v w' v') : BoxE lo w' E B v' l' cs t := by
  obtain ⟨h1, h2, h3⟩ := ht.box (Array.getElem?_eq_some_iff.1 h.box).1 h.ne h.nv
  exact ⟨he, h1.trans h.box, h.ne, h2, Nat.le_trans h.hi ht.bel.size⟩
theorem BoxE.grow {lo E B : Nat} {w w' : World} {v : Value} {l : List InsD} {cs : Array Value} {t : TypeId} (h : BoxE lo w E B v l cs t) (hb : Below w.heap.size w w') : BoxE lo w' E B v l cs t := h.to (h.em.grow hb) (EmTo.grow v hb h.hi)
theorem BoxE.new {lo E : Nat} {w : World} {v : Value} {l : List InsD} (h : EmIs lo w E v l) (hlo : lo ≤ w.heap.size) (cs : Array Value) (t : TypeId) : BoxE lo (w.alloc (.cells cs t)) E w.heap.size v l cs t ∧ EmTo lo E w v (w.alloc (.cells cs t)) v := by
  refine ⟨⟨h.grow (Bel.alloc _ _), World.alloc_heap_new _ _, ?_, fun e => ?_, by simp; omega⟩, EmTo.grow v (Bel.alloc _ _) hlo⟩
  · have := h.cells.2.2.2; omega
  · have := (h.own.lt _ e.symm).2; omega

set_option maxRecDepth 100000 in
set_option maxHeartbeats 2000000 in
theorem copy_any (lo E : Nat) (v : Value) (l : List InsD) (d a : Int) (w : World) (he : EmIs lo w E v l) (hlo : lo ≤ w.heap.size) (hn : l.length ≤ 900000) (hd : homeB d = true) (ha : homeB a = true) :
    Calls Tryd.prog 64 #[.pointer (some ⟨E, 0, none⟩), .agg #[.int .i64 d, .int .i64 a]] w fun e w' => GivesEm lo E w v (fun _ => True) (l ++ copyL d a) e w' := by
  have hdb := homeB_iff.1 hd
  have hab := homeB_iff.1 ha
  obtain ⟨hbx, hto⟩ := BoxE.new he hlo #[.int .i64 d, .int .i64 a] 95
  obtain ⟨w0, hw0⟩ : ∃ W, w.alloc (.cells #[.int .i64 d, .int .i64 a] 95) = W := ⟨_, rfl⟩
  rw [hw0] at hbx hto
  have HBX : Hid (BoxE lo w0 E w.heap.size v l #[.int .i64 d, .int .i64 a] 95) := hbx
  have HTO : Hid (EmTo lo E w v w0 v) := hto
  have p0 : w0.cell? ⟨w.heap.size, 0, none⟩ = some (.int .i64 d) := HBX.out.cell 0
  have p1 : w0.cell? ⟨w.heap.size, 1, none⟩ = some (.int .i64 a) := HBX.out.cell 1
  clear hbx hto he
  by_cases h4 : 4 ≤ d
  · have hq : decide (4 ≤ d) = true := by simpa using h4
    obtain ⟨hs, HHS⟩ : ∃ z, Hid (d - 4 = z) := ⟨_, rfl⟩
    obtain ⟨r, HRR⟩ : ∃ r, Hid (takeR a 4 = r) := ⟨_, rfl⟩
    have HE9 : Hid (l ++ copyL d a = (l ++ takeL a 4) ++ [⟨4, 0, r, 0, hs⟩]) := by show _ = _; unfold copyL; rw [if_pos h4, HHS.out, HRR.out]; simp
    go_enter Tryd.func64, Tryd.ntmps64
    go_wp2_with fail
    try rw [hw0]
    refine (isSlot_any d _).mono ?_
    rw [hq]
    rintro e w1 ⟨rfl, hw1⟩
    subst hw1
    clear hw0
    go_wp2_with fail
    refine (take_any lo E v l a 4 _ HBX.out.em HBX.out.hi (by omega) ha).mono ?_
    rintro e w2 ⟨x, v2, rfl, rfl, h1, h2⟩
    rw [HRR.out]
    have HB2 : Hid (BoxE lo w2 E w.heap.size v2 (l ++ takeL a 4) #[.int .i64 d, .int .i64 a] 95) := HBX.out.to h1 h2
    have HT2 : Hid (EmTo lo E w v w2 v2) := HTO.out.trans h2
    have q0 : w2.cell? ⟨w.heap.size, 0, none⟩ = some (.int .i64 d) := HB2.out.cell 0
    clear h1 h2 p0 p1
    go_wp2_with fail
    refine (slotOf_any d _ hdb).mono ?_
    rw [HHS.out]
    rintro e w3 ⟨rfl, hw3⟩
    subst hw3
    go_wp2_with fail
    refine (put_one lo E v2 (l ++ takeL a 4) 4 0 r 0 hs _ HB2.out.em HB2.out.hi (by have := takeL_len a 4; rw [List.length_append]; omega)).mono ?_
    rintro e w4 ⟨x, v4, rfl, _, h1, h2⟩
    have H1 : Hid (EmIs lo w4 E v4 ((l ++ takeL a 4) ++ [⟨4, 0, r, 0, hs⟩])) := h1
    have HT4 : Hid (EmTo lo E w v w4 v4) := HT2.out.trans h2
    clear h1 h2 q0
    go_wp2
    refine ⟨rfl, _, results_none rfl _ _ _, _, v4, rfl, trivial, by rw [HE9.out]; exact H1.out, HT4.out⟩
  · have hq : decide (4 ≤ d) = false := by simpa using h4
    by_cases h5 : 4 ≤ a
    · have hq5 : decide (4 ≤ a) = true := by simpa using h5
      obtain ⟨hs, HHS⟩ : ∃ z, Hid (a - 4 = z) := ⟨_, rfl⟩
      have HE9 : Hid (l ++ copyL d a = l ++ [⟨3, d, 0, 0, hs⟩]) := by show _ = _; unfold copyL; rw [if_neg h4, if_pos h5, HHS.out]
      go_enter Tryd.func64, Tryd.ntmps64
      go_wp2_with fail
      try rw [hw0]
      refine (isSlot_any d _).mono ?_
      rw [hq]
      rintro e w1 ⟨rfl, hw1⟩
      subst hw1
      clear hw0
      go_wp2_with fail
      refine (isSlot_any a _).mono ?_
      rw [hq5]
      rintro e w2 ⟨rfl, hw2⟩
      subst hw2
      go_wp2_with fail
      refine wp_region_held_drew (S := fun w' => w'.cell? ⟨w.heap.size, 0, none⟩ = some (.int .i64 d) ∧ w'.cell? ⟨w.heap.size, 1, none⟩ = some (.int .i64 a)) (by kernel_rfl) ⟨p0, p1⟩ (fun hHeld => ?_)
      refine wpAnyH_take (i := 0) (oi := { dst := some 33, op := Go.Op.move (Go.Operand.tmp 0), type := 50, pos := "l15_emit.go:119", after := #[], guard := none }) (v := ?_) rfl (by kernel_rfl) (by kernel_rfl) (by kernel_rfl) (fun _ _ _ h => h) (Or.inl ⟨by rfl, ?_⟩) (by assumption) ?_
      rotate_left
      · intro w hSw
        (try dsimp only at hSw)
        go_simp
        (try with_reducible rfl)
      try simp only [Act.put, List.setIfInBounds_toArray, List.set_cons_zero, List.set_cons_succ]
      refine wpAnyH_take (i := 1) (oi := { dst := some 34, op := Go.Op.fieldAddr 95 (Go.Operand.tmp 3) 0, type := 0, pos := "l15_emit.go:119", after := #[], guard := none }) (v := ?_) rfl (by kernel_rfl) (by kernel_rfl) (by kernel_rfl) (fun _ _ _ h => h) (Or.inl ⟨by rfl, ?_⟩) (by assumption) ?_
      rotate_left
      · intro w hSw
        (try dsimp only at hSw)
        go_simp
        (try with_reducible rfl)
      try simp only [Act.put, List.setIfInBounds_toArray, List.set_cons_zero, List.set_cons_succ]
      refine wpAnyH_take (i := 2) (oi := { dst := some 35, op := Go.Op.load 3 (Go.Operand.tmp 34), type := 3, pos := "l15_emit.go:119", after := #[{ on := 1, ground := Go.Ground.data }], guard := none }) (v := ?_) rfl (by kernel_rfl) (by kernel_rfl) (by kernel_rfl) (fun _ _ _ h => h) (Or.inl ⟨by rfl, ?_⟩) (by assumption) ?_
      rotate_left
      · intro w hSw
        (try dsimp only at hSw)
        go_simp
        (try with_reducible rfl)
      try simp only [Act.put, List.setIfInBounds_toArray, List.set_cons_zero, List.set_cons_succ]
      refine wpAnyH_take (i := 3) (oi := { dst := some 36, op := Go.Op.fieldAddr 95 (Go.Operand.tmp 3) 1, type := 0, pos := "l15_emit.go:119", after := #[], guard := none }) (v := ?_) rfl (by kernel_rfl) (by kernel_rfl) (by kernel_rfl) (fun _ _ _ h => h) (Or.inl ⟨by rfl, ?_⟩) (by assumption) ?_
      rotate_left
      · intro w hSw
        (try dsimp only at hSw)
        go_simp
        (try with_reducible rfl)
      try simp only [Act.put, List.setIfInBounds_toArray, List.set_cons_zero, List.set_cons_succ]
      refine wpAnyH_take (i := 4) (oi := { dst := some 37, op := Go.Op.load 3 (Go.Operand.tmp 36), type := 3, pos := "l15_emit.go:119", after := #[{ on := 3, ground := Go.Ground.data }], guard := none }) (v := ?_) rfl (by kernel_rfl) (by kernel_rfl) (by kernel_rfl) (fun _ _ _ h => h) (Or.inl ⟨by rfl, ?_⟩) (by assumption) ?_
      rotate_left
      · intro w hSw
        (try dsimp only at hSw)
        go_simp
        (try with_reducible rfl)
      try simp only [Act.put, List.setIfInBounds_toArray, List.set_cons_zero, List.set_cons_succ]
      refine ckAnyH_oneK (i := 5) (o := { dst := some 38, op := Go.Op.call { callee := Go.Callee.value (Go.Operand.func 72), args := #[Go.Operand.tmp 37], argTypes := #[3] }, type := 3, pos := "l15_emit.go:119", after := #[{ on := 4, ground := Go.Ground.data }], guard := none }) rfl rfl (by kernel_rfl) (fun K9 hK9 => ?_)
      refine wp_call_of (f := 72) (args := #[.int .i64 a]) (by go_simp) (slotOf_any a _ hab) ?_
      rintro e w5 ⟨rfl, hw5⟩
      subst hw5
      rw [HHS.out]
      refine ⟨_, rfl, hK9 _ _ ⟨hHeld, ?_⟩⟩
      try simp only [Act.put, List.setIfInBounds_toArray, List.set_cons_zero, List.set_cons_succ]
      clear hK9
      refine wpAnyH_take (i := 6) (oi := { dst := some 39, op := Go.Op.build 32 #[(0, Go.Operand.const (Go.Value.int Go.IntKind.i64 3)), (1, Go.Operand.tmp 35), (4, Go.Operand.tmp 38)], type := 32, pos := "l15_emit.go:119", after := #[{ on := 2, ground := Go.Ground.data }, { on := 5, ground := Go.Ground.data }], guard := none }) (v := ?_) rfl (by kernel_rfl) (by kernel_rfl) (by kernel_rfl) (fun _ _ _ h => h) (Or.inl ⟨by rfl, ?_⟩) (by assumption) ?_
      rotate_left
      · intro w hSw
        (try dsimp only at hSw)
        go_simp
        (try with_reducible rfl)
      try simp only [Act.put, List.setIfInBounds_toArray, List.set_cons_zero, List.set_cons_succ]
      refine ckAnyH_oneK (i := 7) (o := { dst := some 40, op := Go.Op.buildSlice 27 1 #[(0, Go.Operand.tmp 39)], type := 27, pos := "l15_emit.go:119", after := #[{ on := 6, ground := Go.Ground.data }], guard := none }) rfl rfl (by kernel_rfl) (fun K9 hK9 => ?_)
      have hdr : Below w2.heap.size w2 w2.drew := (Below.refl _ w2).drew
      have hS6 : (w2.drew.alloc (.cells #[.int .i64 3, .int .i64 d, .int .i64 0, .int .i64 0, .int .i64 hs] 32)).cell? ⟨w.heap.size, 0, none⟩ = some (.int .i64 d) ∧ (w2.drew.alloc (.cells #[.int .i64 3, .int .i64 d, .int .i64 0, .int .i64 0, .int .i64 hs] 32)).cell? ⟨w.heap.size, 1, none⟩ = some (.int .i64 a) := ⟨Bel.keeps (Bel.alloc _ _) hHeld.1, Bel.keeps (Bel.alloc _ _) hHeld.2⟩
      refine wp_value (v := .slice (some ⟨w2.drew.heap.size, 0, none⟩) 1 1) (w' := w2.drew.alloc (.cells #[.int .i64 3, .int .i64 d, .int .i64 0, .int .i64 0, .int .i64 hs] 32)) (by simp [execOp, Instr.buildSlice, go_sem]) (hK9 _ _ ⟨hS6, ?_⟩)
      try simp only [Act.put, List.setIfInBounds_toArray, List.set_cons_zero, List.set_cons_succ]
      clear hK9
      refine ckAnyH_oneK (i := 8) (o := { dst := some 41, op := Go.Op.call { callee := Go.Callee.value (Go.Operand.func 63), args := #[Go.Operand.tmp 33, Go.Operand.tmp 40], argTypes := #[50, 27] }, type := 0, pos := "l15_emit.go:119", after := #[{ on := 0, ground := Go.Ground.data }, { on := 7, ground := Go.Ground.data }, { on := 5, ground := Go.Ground.chain }], guard := none }) rfl rfl (by kernel_rfl) (fun K9 hK9 => ?_)
      have HBD := HBX.out.grow hdr
      refine wp_call_of (f := 63) (args := #[.pointer (some ⟨E, 0, none⟩), .slice (some ⟨w2.drew.heap.size, 0, none⟩) 1 1]) (by go_simp) (put_one lo E v l 3 d 0 0 hs w2.drew HBD.em HBD.hi (by omega)) ?_
      rintro e w6 ⟨x, v6, rfl, _, h1, h2⟩
      have HB6 := HBD.to h1 h2
      refine ⟨_, rfl, hK9 _ _ ⟨⟨HB6.cell 0, HB6.cell 1⟩, ?_⟩⟩
      refine wpAnyH_done (by kernel_rfl) ?_ _
      simp only [Exit.inBlock]
      exact ⟨rfl, _, results_none rfl _ _ _, _, v6, rfl, trivial, by rw [HE9.out]; exact h1, HTO.out.trans ((EmTo.grow v hdr HBX.out.hi).trans h2)⟩
    · have hq5 : decide (4 ≤ a) = false := by simpa using h5
      have HE9 : Hid (l ++ copyL d a = l ++ [⟨2, d, a, 0, 0⟩]) := by show _ = _; unfold copyL; rw [if_neg h4, if_neg h5]
      go_enter Tryd.func64, Tryd.ntmps64
      go_wp2_with fail
      try rw [hw0]
      refine (isSlot_any d _).mono ?_
      rw [hq]
      rintro e w1 ⟨rfl, hw1⟩
      subst hw1
      clear hw0
      go_wp2_with fail
      refine (isSlot_any a _).mono ?_
      rw [hq5]
      rintro e w2 ⟨rfl, hw2⟩
      subst hw2
      go_wp2_with fail
      refine (put_one lo E v l 2 d a 0 0 _ HBX.out.em HBX.out.hi (by omega)).mono ?_
      rintro e w4 ⟨x, v4, rfl, _, h1, h2⟩
      have H1 : Hid (EmIs lo w4 E v4 (l ++ [⟨2, d, a, 0, 0⟩])) := h1
      have HT4 : Hid (EmTo lo E w v w4 v4) := HTO.out.trans h2
      clear h1 h2 p0 p1
      go_wp2
      refine ⟨rfl, _, results_none rfl _ _ _, _, v4, rfl, trivial, by rw [HE9.out]; exact H1.out, HT4.out⟩
end Go.Proofs.YtgnngibbojjebaaDoor
