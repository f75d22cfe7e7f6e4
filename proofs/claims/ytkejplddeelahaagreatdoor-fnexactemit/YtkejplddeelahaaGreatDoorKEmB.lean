/- Code from homes, the program's parts: a copy, and each kind of place. Code from homes, the program's parts: each kind of place; EmitIns. Code from homes: the program's EmitIns. -/
import Derived.Test.YtkejplddeelahaaGreatDoorKEmA
namespace Go.Proofs.YtkejplddeelahaaGreatDoor
open Go.ChangeShapes Go.WideShapes Go.ChangeAt Go.RowKit
set_option linter.unusedVariables false

/-- A box that was laid behind the emitter's own memory stays. -/
theorem EmTo.box {lo E B : Nat} {w w' : World} {v v' : Value} (h : EmTo lo E w v w' v') (hB : B < w.heap.size) (hE : B ≠ E) (hv : some B ≠ v.ownBlock) : w'.heap[B]? = w.heap[B]? ∧ some B ≠ v'.ownBlock ∧ B < w'.heap.size := by
  refine ⟨h.same B hB hE hv, fun e => ?_, Nat.lt_of_lt_of_le hB h.bel.size⟩
  rcases h.new with e1 | ⟨g, e1, h1⟩
  · rw [e1] at e; exact hv e
  · rw [e1] at e
    cases e
    omega
/-- A box beside an emitter. -/
structure BoxE (lo : Nat) (w : World) (E B : Nat) (v : Value) (l : List InsD) (cs : Array Value) (t : TypeId) : Prop where
  em : EmIs lo w E v l
  box : w.heap[B]? = some (.cells cs t (0, 0))
  ne : B ≠ E
  nv : some B ≠ v.ownBlock
  hi : lo ≤ w.heap.size
theorem BoxE.cell {lo E B : Nat} {w : World} {v : Value} {l : List InsD} {cs : Array Value} {t : TypeId} (h : BoxE lo w E B v l cs t) (j : Nat) : w.cell? ⟨B, j, none⟩ = cs[j]? := by
  have hb := h.box
  simp [World.cell?, hb]
theorem BoxE.to {lo E B : Nat} {w w' : World} {v v' : Value} {l l' : List InsD} {cs : Array Value} {t : TypeId} (h : BoxE lo w E B v l cs t) (he : EmIs lo w' E v' l') (ht : EmTo lo E w v w' v') : BoxE lo w' E B v' l' cs t := by
  obtain ⟨h1, h2, h3⟩ := ht.box (Array.getElem?_eq_some_iff.1 h.box).1 h.ne h.nv
  exact ⟨he, h1.trans h.box, h.ne, h2, Nat.le_trans h.hi ht.bel.size⟩
theorem BoxE.grow {lo E B : Nat} {w w' : World} {v : Value} {l : List InsD} {cs : Array Value} {t : TypeId} (h : BoxE lo w E B v l cs t) (hb : Below w.heap.size w w') : BoxE lo w' E B v l cs t := h.to (h.em.grow hb) (EmTo.grow v hb h.hi)
theorem BoxE.new {lo E : Nat} {w : World} {v : Value} {l : List InsD} (h : EmIs lo w E v l) (hlo : lo ≤ w.heap.size) (cs : Array Value) (t : TypeId) : BoxE lo (w.alloc (.cells cs t)) E w.heap.size v l cs t ∧ EmTo lo E w v (w.alloc (.cells cs t)) v := by
  refine ⟨⟨h.grow (Bel.alloc _ _), World.alloc_heap_new _ _, ?_, fun e => ?_, by simp; omega⟩, EmTo.grow v (Bel.alloc _ _) hlo⟩
  · have := h.cells.2.2.2; omega
  · have := (h.own.lt _ e.symm).2; omega

set_option maxRecDepth 100000 in
set_option maxHeartbeats 2000000 in
theorem copy_any (lo E : Nat) (v : Value) (l : List InsD) (d a : Int) (w : World) (he : EmIs lo w E v l) (hlo : lo ≤ w.heap.size) (hn : l.length ≤ 900000) (hd : homeB d = true) (ha : homeB a = true) :
    Calls Tryz.prog 142 #[.pointer (some ⟨E, 0, none⟩), .agg #[.int .i64 d, .int .i64 a]] w fun e w' => GivesEm lo E w v (fun _ => True) (l ++ copyL d a) e w' := by
  have hdb := homeB_iff.1 hd
  have hab := homeB_iff.1 ha
  obtain ⟨hbx, hto⟩ := BoxE.new he hlo #[.int .i64 d, .int .i64 a] 202
  obtain ⟨w0, hw0⟩ : ∃ W, w.alloc (.cells #[.int .i64 d, .int .i64 a] 202) = W := ⟨_, rfl⟩
  rw [hw0] at hbx hto
  have HBX : Hid (BoxE lo w0 E w.heap.size v l #[.int .i64 d, .int .i64 a] 202) := hbx
  have HTO : Hid (EmTo lo E w v w0 v) := hto
  have p0 : w0.cell? ⟨w.heap.size, 0, none⟩ = some (.int .i64 d) := HBX.out.cell 0
  have p1 : w0.cell? ⟨w.heap.size, 1, none⟩ = some (.int .i64 a) := HBX.out.cell 1
  clear hbx hto he
  by_cases h4 : 4 ≤ d
  · have hq : decide (4 ≤ d) = true := by simpa using h4
    obtain ⟨hs, HHS⟩ : ∃ z, Hid (d - 4 = z) := ⟨_, rfl⟩
    obtain ⟨r, HRR⟩ : ∃ r, Hid (takeR a 4 = r) := ⟨_, rfl⟩
    have HE9 : Hid (l ++ copyL d a = (l ++ takeL a 4) ++ [⟨4, 0, r, 0, hs⟩]) := by show _ = _; unfold copyL; rw [if_pos h4, HHS.out, HRR.out]; simp
    go_enter Tryz.func142, Tryz.ntmps142
    go_wp2_with fail
    try rw [hw0]
    refine (isSlot_any d _).mono ?_
    rw [hq]
    rintro e w1 ⟨rfl, hw1⟩
    subst hw1
    clear hw0
    go_wp2_with fail
    refine (take_any lo E v l a 4 _ HBX.out.em HBX.out.hi (by omega) ha).mono ?_
    rintro e w2 ⟨x, v2, rfl, rfl, h1, h2⟩
    rw [HRR.out]
    have HB2 : Hid (BoxE lo w2 E w.heap.size v2 (l ++ takeL a 4) #[.int .i64 d, .int .i64 a] 202) := HBX.out.to h1 h2
    have HT2 : Hid (EmTo lo E w v w2 v2) := HTO.out.trans h2
    have q0 : w2.cell? ⟨w.heap.size, 0, none⟩ = some (.int .i64 d) := HB2.out.cell 0
    clear h1 h2 p0 p1
    go_wp2_with fail
    refine (slotOf_any d _ hdb).mono ?_
    rw [HHS.out]
    rintro e w3 ⟨rfl, hw3⟩
    subst hw3
    go_wp2_with fail
    refine (put_one lo E v2 (l ++ takeL a 4) 4 0 r 0 hs _ HB2.out.em HB2.out.hi (by have := takeL_len a 4; rw [List.length_append]; omega)).mono ?_
    rintro e w4 ⟨x, v4, rfl, _, h1, h2⟩
    have H1 : Hid (EmIs lo w4 E v4 ((l ++ takeL a 4) ++ [⟨4, 0, r, 0, hs⟩])) := h1
    have HT4 : Hid (EmTo lo E w v w4 v4) := HT2.out.trans h2
    clear h1 h2 q0
    go_wp2
    refine ⟨rfl, _, results_none rfl _ _ _, _, v4, rfl, trivial, by rw [HE9.out]; exact H1.out, HT4.out⟩
  · have hq : decide (4 ≤ d) = false := by simpa using h4
    by_cases h5 : 4 ≤ a
    · have hq5 : decide (4 ≤ a) = true := by simpa using h5
      obtain ⟨hs, HHS⟩ : ∃ z, Hid (a - 4 = z) := ⟨_, rfl⟩
      have HE9 : Hid (l ++ copyL d a = l ++ [⟨3, d, 0, 0, hs⟩]) := by show _ = _; unfold copyL; rw [if_neg h4, if_pos h5, HHS.out]
      go_enter Tryz.func142, Tryz.ntmps142
      go_wp2_with fail
      try rw [hw0]
      refine (isSlot_any d _).mono ?_
      rw [hq]
      rintro e w1 ⟨rfl, hw1⟩
      subst hw1
      clear hw0
      go_wp2_with fail
      refine (isSlot_any a _).mono ?_
      rw [hq5]
      rintro e w2 ⟨rfl, hw2⟩
      subst hw2
      go_wp2_with fail
      refine wp_region_held_drew (S := fun w' => w'.cell? ⟨w.heap.size, 0, none⟩ = some (.int .i64 d) ∧ w'.cell? ⟨w.heap.size, 1, none⟩ = some (.int .i64 a)) (by kernel_rfl) ⟨p0, p1⟩ (fun hHeld => ?_)
      refine wpAnyH_take (i := 0) (oi := { dst := some 33, op := Go.Op.move (Go.Operand.tmp 0), type := 65, pos := "l15_emit.go:119", after := #[], guard := none }) (v := ?_) rfl (by kernel_rfl) (by kernel_rfl) (by kernel_rfl) (fun _ _ _ h => h) (Or.inl ⟨by rfl, ?_⟩) (by assumption) ?_
      rotate_left
      · intro w hSw
        (try dsimp only at hSw)
        go_simp
        (try with_reducible rfl)
      try simp only [Act.put, List.setIfInBounds_toArray, List.set_cons_zero, List.set_cons_succ]
      refine wpAnyH_take (i := 1) (oi := { dst := some 34, op := Go.Op.fieldAddr 202 (Go.Operand.tmp 3) 0, type := 0, pos := "l15_emit.go:119", after := #[], guard := none }) (v := ?_) rfl (by kernel_rfl) (by kernel_rfl) (by kernel_rfl) (fun _ _ _ h => h) (Or.inl ⟨by rfl, ?_⟩) (by assumption) ?_
      rotate_left
      · intro w hSw
        (try dsimp only at hSw)
        go_simp
        (try with_reducible rfl)
      try simp only [Act.put, List.setIfInBounds_toArray, List.set_cons_zero, List.set_cons_succ]
      refine wpAnyH_take (i := 2) (oi := { dst := some 35, op := Go.Op.load 3 (Go.Operand.tmp 34), type := 3, pos := "l15_emit.go:119", after := #[{ on := 1, ground := Go.Ground.data }], guard := none }) (v := ?_) rfl (by kernel_rfl) (by kernel_rfl) (by kernel_rfl) (fun _ _ _ h => h) (Or.inl ⟨by rfl, ?_⟩) (by assumption) ?_
      rotate_left
      · intro w hSw
        (try dsimp only at hSw)
        go_simp
        (try with_reducible rfl)
      try simp only [Act.put, List.setIfInBounds_toArray, List.set_cons_zero, List.set_cons_succ]
      refine wpAnyH_take (i := 3) (oi := { dst := some 36, op := Go.Op.fieldAddr 202 (Go.Operand.tmp 3) 1, type := 0, pos := "l15_emit.go:119", after := #[], guard := none }) (v := ?_) rfl (by kernel_rfl) (by kernel_rfl) (by kernel_rfl) (fun _ _ _ h => h) (Or.inl ⟨by rfl, ?_⟩) (by assumption) ?_
      rotate_left
      · intro w hSw
        (try dsimp only at hSw)
        go_simp
        (try with_reducible rfl)
      try simp only [Act.put, List.setIfInBounds_toArray, List.set_cons_zero, List.set_cons_succ]
      refine wpAnyH_take (i := 4) (oi := { dst := some 37, op := Go.Op.load 3 (Go.Operand.tmp 36), type := 3, pos := "l15_emit.go:119", after := #[{ on := 3, ground := Go.Ground.data }], guard := none }) (v := ?_) rfl (by kernel_rfl) (by kernel_rfl) (by kernel_rfl) (fun _ _ _ h => h) (Or.inl ⟨by rfl, ?_⟩) (by assumption) ?_
      rotate_left
      · intro w hSw
        (try dsimp only at hSw)
        go_simp
        (try with_reducible rfl)
      try simp only [Act.put, List.setIfInBounds_toArray, List.set_cons_zero, List.set_cons_succ]
      refine ckAnyH_oneK (i := 5) (o := { dst := some 38, op := Go.Op.call { callee := Go.Callee.value (Go.Operand.func 143), args := #[Go.Operand.tmp 37], argTypes := #[3] }, type := 3, pos := "l15_emit.go:119", after := #[{ on := 4, ground := Go.Ground.data }], guard := none }) rfl rfl (by kernel_rfl) (fun K9 hK9 => ?_)
      refine wp_call_of (f := 143) (args := #[.int .i64 a]) (by go_simp) (slotOf_any a _ hab) ?_
      rintro e w5 ⟨rfl, hw5⟩
      subst hw5
      rw [HHS.out]
      refine ⟨_, rfl, hK9 _ _ ⟨hHeld, ?_⟩⟩
      try simp only [Act.put, List.setIfInBounds_toArray, List.set_cons_zero, List.set_cons_succ]
      clear hK9
      refine wpAnyH_take (i := 6) (oi := { dst := some 39, op := Go.Op.build 46 #[(0, Go.Operand.const (Go.Value.int Go.IntKind.i64 3)), (1, Go.Operand.tmp 35), (4, Go.Operand.tmp 38)], type := 46, pos := "l15_emit.go:119", after := #[{ on := 2, ground := Go.Ground.data }, { on := 5, ground := Go.Ground.data }], guard := none }) (v := ?_) rfl (by kernel_rfl) (by kernel_rfl) (by kernel_rfl) (fun _ _ _ h => h) (Or.inl ⟨by rfl, ?_⟩) (by assumption) ?_
      rotate_left
      · intro w hSw
        (try dsimp only at hSw)
        go_simp
        (try with_reducible rfl)
      try simp only [Act.put, List.setIfInBounds_toArray, List.set_cons_zero, List.set_cons_succ]
      refine ckAnyH_oneK (i := 7) (o := { dst := some 40, op := Go.Op.buildSlice 28 1 #[(0, Go.Operand.tmp 39)], type := 28, pos := "l15_emit.go:119", after := #[{ on := 6, ground := Go.Ground.data }], guard := none }) rfl rfl (by kernel_rfl) (fun K9 hK9 => ?_)
      have hdr : Below w2.heap.size w2 w2.drew := (Below.refl _ w2).drew
      have hS6 : (w2.drew.alloc (.cells #[.int .i64 3, .int .i64 d, .int .i64 0, .int .i64 0, .int .i64 hs] 46)).cell? ⟨w.heap.size, 0, none⟩ = some (.int .i64 d) ∧ (w2.drew.alloc (.cells #[.int .i64 3, .int .i64 d, .int .i64 0, .int .i64 0, .int .i64 hs] 46)).cell? ⟨w.heap.size, 1, none⟩ = some (.int .i64 a) := ⟨Bel.keeps (Bel.alloc _ _) hHeld.1, Bel.keeps (Bel.alloc _ _) hHeld.2⟩
      refine wp_value (v := .slice (some ⟨w2.drew.heap.size, 0, none⟩) 1 1) (w' := w2.drew.alloc (.cells #[.int .i64 3, .int .i64 d, .int .i64 0, .int .i64 0, .int .i64 hs] 46)) (by simp [execOp, Instr.buildSlice, go_sem]) (hK9 _ _ ⟨hS6, ?_⟩)
      try simp only [Act.put, List.setIfInBounds_toArray, List.set_cons_zero, List.set_cons_succ]
      clear hK9
      refine ckAnyH_oneK (i := 8) (o := { dst := some 41, op := Go.Op.call { callee := Go.Callee.value (Go.Operand.func 45), args := #[Go.Operand.tmp 33, Go.Operand.tmp 40], argTypes := #[65, 28] }, type := 0, pos := "l15_emit.go:119", after := #[{ on := 0, ground := Go.Ground.data }, { on := 7, ground := Go.Ground.data }, { on := 5, ground := Go.Ground.chain }], guard := none }) rfl rfl (by kernel_rfl) (fun K9 hK9 => ?_)
      have HBD := HBX.out.grow hdr
      refine wp_call_of (f := 45) (args := #[.pointer (some ⟨E, 0, none⟩), .slice (some ⟨w2.drew.heap.size, 0, none⟩) 1 1]) (by go_simp) (put_one lo E v l 3 d 0 0 hs w2.drew HBD.em HBD.hi (by omega)) ?_
      rintro e w6 ⟨x, v6, rfl, _, h1, h2⟩
      have HB6 := HBD.to h1 h2
      refine ⟨_, rfl, hK9 _ _ ⟨⟨HB6.cell 0, HB6.cell 1⟩, ?_⟩⟩
      refine wpAnyH_done (by kernel_rfl) ?_ _
      simp only [Exit.inBlock]
      exact ⟨rfl, _, results_none rfl _ _ _, _, v6, rfl, trivial, by rw [HE9.out]; exact h1, HTO.out.trans ((EmTo.grow v hdr HBX.out.hi).trans h2)⟩
    · have hq5 : decide (4 ≤ a) = false := by simpa using h5
      have HE9 : Hid (l ++ copyL d a = l ++ [⟨2, d, a, 0, 0⟩]) := by show _ = _; unfold copyL; rw [if_neg h4, if_neg h5]
      go_enter Tryz.func142, Tryz.ntmps142
      go_wp2_with fail
      try rw [hw0]
      refine (isSlot_any d _).mono ?_
      rw [hq]
      rintro e w1 ⟨rfl, hw1⟩
      subst hw1
      clear hw0
      go_wp2_with fail
      refine (isSlot_any a _).mono ?_
      rw [hq5]
      rintro e w2 ⟨rfl, hw2⟩
      subst hw2
      go_wp2_with fail
      refine (put_one lo E v l 2 d a 0 0 _ HBX.out.em HBX.out.hi (by omega)).mono ?_
      rintro e w4 ⟨x, v4, rfl, _, h1, h2⟩
      have H1 : Hid (EmIs lo w4 E v4 (l ++ [⟨2, d, a, 0, 0⟩])) := h1
      have HT4 : Hid (EmTo lo E w v w4 v4) := HTO.out.trans h2
      clear h1 h2 p0 p1
      go_wp2
      refine ⟨rfl, _, results_none rfl _ _ _, _, v4, rfl, trivial, by rw [HE9.out]; exact H1.out, HT4.out⟩
end Go.Proofs.YtkejplddeelahaaGreatDoor

namespace Go.Proofs.YtkejplddeelahaaGreatDoor
open Go.ChangeShapes Go.WideShapes Go.ChangeAt Go.RowKit
set_option linter.unusedVariables false

set_option maxRecDepth 100000 in
set_option maxHeartbeats 4000000 in
theorem em_const (lo E : Nat) (v : Value) (l : List InsD) (d n : Int) (w : World) (he : EmIs lo w E v l) (hlo : lo ≤ w.heap.size) (hn : l.length ≤ 800000) (hd : homeB d = true) :
    Calls Tryz.prog 95 #[.pointer (some ⟨E, 0, none⟩), .iface 193 (.agg #[.int .i64 d, .int .i64 n])] w fun e w' => GivesEm lo E w v (fun _ => True) (l ++ giveL d 1 0 0 n) e w' := by
  obtain ⟨hbx, hto⟩ := BoxE.new he hlo #[.int .i64 d, .int .i64 n] 193
  obtain ⟨w0, hw0⟩ : ∃ W, w.alloc (.cells #[.int .i64 d, .int .i64 n] 193) = W := ⟨_, rfl⟩
  rw [hw0] at hbx hto
  have HBX : Hid (BoxE lo w0 E w.heap.size v l #[.int .i64 d, .int .i64 n] 193) := hbx
  have HTO : Hid (EmTo lo E w v w0 v) := hto
  have p0 : w0.cell? ⟨w.heap.size, 0, none⟩ = some (.int .i64 d) := HBX.out.cell 0
  have p1 : w0.cell? ⟨w.heap.size, 1, none⟩ = some (.int .i64 n) := HBX.out.cell 1
  clear hbx hto he
  have y0 := wordPlace_yes
  have n0 := wordPlace_no
  have y1 := constPlace_yes
  have n1 := constPlace_no
  have y2 := loadPlace_yes
  have n2 := loadPlace_no
  have y3 := storePlace_yes
  have n3 := storePlace_no
  have y4 := outPlace_yes
  have n4 := outPlace_no
  have y5 := readPlace_yes
  have n5 := readPlace_no
  have y6 := copyPlace_yes
  have n6 := copyPlace_no
  go_enter Tryz.func95, Tryz.ntmps95
  go_wp2_with fail
  try rw [hw0]
  clear y0 n0 y1 n1 y2 n2 y3 n3 y4 n4 y5 n5 y6 n6
  clear hw0
  refine (give_any lo E v l d 1 0 0 0 n _ HBX.out.em HBX.out.hi (by omega) hd).mono ?_
  rintro e w9 ⟨x, v9, rfl, _, h1, h2⟩
  have H1 : Hid (EmIs lo w9 E v9 (l ++ giveL d 1 0 0 n)) := h1
  have HT9 : Hid (EmTo lo E w v w9 v9) := HTO.out.trans h2
  clear h1 h2
  go_wp2
  refine ⟨rfl, _, results_none rfl _ _ _, _, v9, rfl, trivial, H1.out, HT9.out⟩

set_option maxRecDepth 100000 in
set_option maxHeartbeats 4000000 in
theorem em_read (lo E : Nat) (v : Value) (l : List InsD) (d : Int) (w : World) (he : EmIs lo w E v l) (hlo : lo ≤ w.heap.size) (hn : l.length ≤ 800000) (hd : homeB d = true) :
    Calls Tryz.prog 95 #[.pointer (some ⟨E, 0, none⟩), .iface 201 (.agg #[.int .i64 d])] w fun e w' => GivesEm lo E w v (fun _ => True) (l ++ giveL d 8 0 0 0) e w' := by
  obtain ⟨hbx, hto⟩ := BoxE.new he hlo #[.int .i64 d] 201
  obtain ⟨w0, hw0⟩ : ∃ W, w.alloc (.cells #[.int .i64 d] 201) = W := ⟨_, rfl⟩
  rw [hw0] at hbx hto
  have HBX : Hid (BoxE lo w0 E w.heap.size v l #[.int .i64 d] 201) := hbx
  have HTO : Hid (EmTo lo E w v w0 v) := hto
  have p0 : w0.cell? ⟨w.heap.size, 0, none⟩ = some (.int .i64 d) := HBX.out.cell 0
  clear hbx hto he
  have y0 := wordPlace_yes
  have n0 := wordPlace_no
  have y1 := constPlace_yes
  have n1 := constPlace_no
  have y2 := loadPlace_yes
  have n2 := loadPlace_no
  have y3 := storePlace_yes
  have n3 := storePlace_no
  have y4 := outPlace_yes
  have n4 := outPlace_no
  have y5 := readPlace_yes
  have n5 := readPlace_no
  have y6 := copyPlace_yes
  have n6 := copyPlace_no
  go_enter Tryz.func95, Tryz.ntmps95
  go_wp2_with fail
  try rw [hw0]
  clear y0 n0 y1 n1 y2 n2 y3 n3 y4 n4 y5 n5 y6 n6
  clear hw0
  refine (give_any lo E v l d 8 0 0 0 0 _ HBX.out.em HBX.out.hi (by omega) hd).mono ?_
  rintro e w9 ⟨x, v9, rfl, _, h1, h2⟩
  have H1 : Hid (EmIs lo w9 E v9 (l ++ giveL d 8 0 0 0)) := h1
  have HT9 : Hid (EmTo lo E w v w9 v9) := HTO.out.trans h2
  clear h1 h2
  go_wp2
  refine ⟨rfl, _, results_none rfl _ _ _, _, v9, rfl, trivial, H1.out, HT9.out⟩

set_option maxRecDepth 100000 in
set_option maxHeartbeats 4000000 in
theorem em_copy (lo E : Nat) (v : Value) (l : List InsD) (d a : Int) (w : World) (he : EmIs lo w E v l) (hlo : lo ≤ w.heap.size) (hn : l.length ≤ 800000) (hd : homeB d = true) (ha : homeB a = true) :
    Calls Tryz.prog 95 #[.pointer (some ⟨E, 0, none⟩), .iface 202 (.agg #[.int .i64 d, .int .i64 a])] w fun e w' => GivesEm lo E w v (fun _ => True) (l ++ copyL d a) e w' := by
  obtain ⟨hbx, hto⟩ := BoxE.new he hlo #[.int .i64 d, .int .i64 a] 202
  obtain ⟨w0, hw0⟩ : ∃ W, w.alloc (.cells #[.int .i64 d, .int .i64 a] 202) = W := ⟨_, rfl⟩
  rw [hw0] at hbx hto
  have HBX : Hid (BoxE lo w0 E w.heap.size v l #[.int .i64 d, .int .i64 a] 202) := hbx
  have HTO : Hid (EmTo lo E w v w0 v) := hto
  have p0 : w0.cell? ⟨w.heap.size, 0, none⟩ = some (.int .i64 d) := HBX.out.cell 0
  have p1 : w0.cell? ⟨w.heap.size, 1, none⟩ = some (.int .i64 a) := HBX.out.cell 1
  clear hbx hto he
  have y0 := wordPlace_yes
  have n0 := wordPlace_no
  have y1 := constPlace_yes
  have n1 := constPlace_no
  have y2 := loadPlace_yes
  have n2 := loadPlace_no
  have y3 := storePlace_yes
  have n3 := storePlace_no
  have y4 := outPlace_yes
  have n4 := outPlace_no
  have y5 := readPlace_yes
  have n5 := readPlace_no
  have y6 := copyPlace_yes
  have n6 := copyPlace_no
  go_enter Tryz.func95, Tryz.ntmps95
  go_wp2_with fail
  try rw [hw0]
  clear y0 n0 y1 n1 y2 n2 y3 n3 y4 n4 y5 n5 y6 n6
  clear hw0
  refine (copy_any lo E v l d a _ HBX.out.em HBX.out.hi (by omega) hd ha).mono ?_
  rintro e w9 ⟨x, v9, rfl, _, h1, h2⟩
  have H1 : Hid (EmIs lo w9 E v9 (l ++ copyL d a)) := h1
  have HT9 : Hid (EmTo lo E w v w9 v9) := HTO.out.trans h2
  clear h1 h2
  go_wp2
  refine ⟨rfl, _, results_none rfl _ _ _, _, v9, rfl, trivial, H1.out, HT9.out⟩

set_option maxRecDepth 100000 in
set_option maxHeartbeats 4000000 in
theorem em_load (lo E : Nat) (v : Value) (l : List InsD) (d a : Int) (w : World) (he : EmIs lo w E v l) (hlo : lo ≤ w.heap.size) (hn : l.length ≤ 800000) (hd : homeB d = true) (ha : homeB a = true) :
    Calls Tryz.prog 95 #[.pointer (some ⟨E, 0, none⟩), .iface 195 (.agg #[.int .i64 d, .int .i64 a])] w fun e w' => GivesEm lo E w v (fun _ => True) (l ++ (takeL a 4 ++ giveL d 5 (takeR a 4) 0 0)) e w' := by
  obtain ⟨hbx, hto⟩ := BoxE.new he hlo #[.int .i64 d, .int .i64 a] 195
  obtain ⟨w0, hw0⟩ : ∃ W, w.alloc (.cells #[.int .i64 d, .int .i64 a] 195) = W := ⟨_, rfl⟩
  rw [hw0] at hbx hto
  have HBX : Hid (BoxE lo w0 E w.heap.size v l #[.int .i64 d, .int .i64 a] 195) := hbx
  have HTO : Hid (EmTo lo E w v w0 v) := hto
  have p0 : w0.cell? ⟨w.heap.size, 0, none⟩ = some (.int .i64 d) := HBX.out.cell 0
  have p1 : w0.cell? ⟨w.heap.size, 1, none⟩ = some (.int .i64 a) := HBX.out.cell 1
  clear hbx hto he
  have y0 := wordPlace_yes
  have n0 := wordPlace_no
  have y1 := constPlace_yes
  have n1 := constPlace_no
  have y2 := loadPlace_yes
  have n2 := loadPlace_no
  have y3 := storePlace_yes
  have n3 := storePlace_no
  have y4 := outPlace_yes
  have n4 := outPlace_no
  have y5 := readPlace_yes
  have n5 := readPlace_no
  have y6 := copyPlace_yes
  have n6 := copyPlace_no
  go_enter Tryz.func95, Tryz.ntmps95
  go_wp2_with fail
  try rw [hw0]
  clear y0 n0 y1 n1 y2 n2 y3 n3 y4 n4 y5 n5 y6 n6
  clear hw0
  obtain ⟨r, HRR⟩ : ∃ r, Hid (takeR a 4 = r) := ⟨_, rfl⟩
  refine (take_any lo E v l a 4 _ HBX.out.em HBX.out.hi (by omega) ha).mono ?_
  rintro e w2 ⟨x, v2, rfl, rfl, h1, h2⟩
  rw [HRR.out]
  have HB2 : Hid (BoxE lo w2 E w.heap.size v2 (l ++ takeL a 4) #[.int .i64 d, .int .i64 a] 195) := HBX.out.to h1 h2
  have HT2 : Hid (EmTo lo E w v w2 v2) := HTO.out.trans h2
  have hl2 : (l ++ takeL a 4).length ≤ 900000 := by have := takeL_len a 4; rw [List.length_append]; omega
  have q0 : w2.cell? ⟨w.heap.size, 0, none⟩ = some (.int .i64 d) := HB2.out.cell 0
  clear h1 h2 p0 p1
  go_wp2_with fail
  refine (give_any lo E v2 (l ++ takeL a 4) d 5 0 r 0 0 _ HB2.out.em HB2.out.hi (by omega) hd).mono ?_
  rintro e w9 ⟨x, v9, rfl, _, h1, h2⟩
  have H1 : Hid (EmIs lo w9 E v9 ((l ++ takeL a 4) ++ giveL d 5 r 0 0)) := h1
  have HT9 : Hid (EmTo lo E w v w9 v9) := HT2.out.trans h2
  clear h1 h2
  go_wp2
  refine ⟨rfl, _, results_none rfl _ _ _, _, v9, rfl, trivial, by rw [HRR.out, ← List.append_assoc]; exact H1.out, HT9.out⟩

set_option maxRecDepth 100000 in
set_option maxHeartbeats 4000000 in
theorem em_out (lo E : Nat) (v : Value) (l : List InsD) (a : Int) (w : World) (he : EmIs lo w E v l) (hlo : lo ≤ w.heap.size) (hn : l.length ≤ 800000) (ha : homeB a = true) :
    Calls Tryz.prog 95 #[.pointer (some ⟨E, 0, none⟩), .iface 199 (.agg #[.int .i64 a])] w fun e w' => GivesEm lo E w v (fun _ => True) (l ++ (takeL a 4 ++ [⟨7, 0, takeR a 4, 0, 0⟩])) e w' := by
  obtain ⟨hbx, hto⟩ := BoxE.new he hlo #[.int .i64 a] 199
  obtain ⟨w0, hw0⟩ : ∃ W, w.alloc (.cells #[.int .i64 a] 199) = W := ⟨_, rfl⟩
  rw [hw0] at hbx hto
  have HBX : Hid (BoxE lo w0 E w.heap.size v l #[.int .i64 a] 199) := hbx
  have HTO : Hid (EmTo lo E w v w0 v) := hto
  have p0 : w0.cell? ⟨w.heap.size, 0, none⟩ = some (.int .i64 a) := HBX.out.cell 0
  clear hbx hto he
  have y0 := wordPlace_yes
  have n0 := wordPlace_no
  have y1 := constPlace_yes
  have n1 := constPlace_no
  have y2 := loadPlace_yes
  have n2 := loadPlace_no
  have y3 := storePlace_yes
  have n3 := storePlace_no
  have y4 := outPlace_yes
  have n4 := outPlace_no
  have y5 := readPlace_yes
  have n5 := readPlace_no
  have y6 := copyPlace_yes
  have n6 := copyPlace_no
  go_enter Tryz.func95, Tryz.ntmps95
  go_wp2_with fail
  try rw [hw0]
  clear y0 n0 y1 n1 y2 n2 y3 n3 y4 n4 y5 n5 y6 n6
  clear hw0
  obtain ⟨r, HRR⟩ : ∃ r, Hid (takeR a 4 = r) := ⟨_, rfl⟩
  refine (take_any lo E v l a 4 _ HBX.out.em HBX.out.hi (by omega) ha).mono ?_
  rintro e w2 ⟨x, v2, rfl, rfl, h1, h2⟩
  rw [HRR.out]
  have HB2 : Hid (BoxE lo w2 E w.heap.size v2 (l ++ takeL a 4) #[.int .i64 a] 199) := HBX.out.to h1 h2
  have HT2 : Hid (EmTo lo E w v w2 v2) := HTO.out.trans h2
  have hl2 : (l ++ takeL a 4).length ≤ 900000 := by have := takeL_len a 4; rw [List.length_append]; omega
  clear h1 h2 p0
  go_wp2_with fail
  refine (put_one lo E v2 (l ++ takeL a 4) 7 0 r 0 0 _ HB2.out.em HB2.out.hi (by omega)).mono ?_
  rintro e w9 ⟨x, v9, rfl, _, h1, h2⟩
  have H1 : Hid (EmIs lo w9 E v9 ((l ++ takeL a 4) ++ [⟨7, 0, r, 0, 0⟩])) := h1
  have HT9 : Hid (EmTo lo E w v w9 v9) := HT2.out.trans h2
  clear h1 h2
  go_wp2
  refine ⟨rfl, _, results_none rfl _ _ _, _, v9, rfl, trivial, by rw [HRR.out, ← List.append_assoc]; exact H1.out, HT9.out⟩

set_option maxRecDepth 100000 in
set_option maxHeartbeats 4000000 in
theorem em_store (lo E : Nat) (v : Value) (l : List InsD) (a b : Int) (w : World) (he : EmIs lo w E v l) (hlo : lo ≤ w.heap.size) (hn : l.length ≤ 800000) (ha : homeB a = true) (hb : homeB b = true) :
    Calls Tryz.prog 95 #[.pointer (some ⟨E, 0, none⟩), .iface 197 (.agg #[.int .i64 a, .int .i64 b])] w fun e w' => GivesEm lo E w v (fun _ => True) (l ++ (takeL a 4 ++ (takeL b 5 ++ [⟨6, 0, takeR a 4, takeR b 5, 0⟩]))) e w' := by
  obtain ⟨hbx, hto⟩ := BoxE.new he hlo #[.int .i64 a, .int .i64 b] 197
  obtain ⟨w0, hw0⟩ : ∃ W, w.alloc (.cells #[.int .i64 a, .int .i64 b] 197) = W := ⟨_, rfl⟩
  rw [hw0] at hbx hto
  have HBX : Hid (BoxE lo w0 E w.heap.size v l #[.int .i64 a, .int .i64 b] 197) := hbx
  have HTO : Hid (EmTo lo E w v w0 v) := hto
  have p0 : w0.cell? ⟨w.heap.size, 0, none⟩ = some (.int .i64 a) := HBX.out.cell 0
  have p1 : w0.cell? ⟨w.heap.size, 1, none⟩ = some (.int .i64 b) := HBX.out.cell 1
  clear hbx hto he
  have y0 := wordPlace_yes
  have n0 := wordPlace_no
  have y1 := constPlace_yes
  have n1 := constPlace_no
  have y2 := loadPlace_yes
  have n2 := loadPlace_no
  have y3 := storePlace_yes
  have n3 := storePlace_no
  have y4 := outPlace_yes
  have n4 := outPlace_no
  have y5 := readPlace_yes
  have n5 := readPlace_no
  have y6 := copyPlace_yes
  have n6 := copyPlace_no
  go_enter Tryz.func95, Tryz.ntmps95
  go_wp2_with fail
  try rw [hw0]
  clear y0 n0 y1 n1 y2 n2 y3 n3 y4 n4 y5 n5 y6 n6
  clear hw0
  obtain ⟨r, HRR⟩ : ∃ r, Hid (takeR a 4 = r) := ⟨_, rfl⟩
  obtain ⟨q, HQQ⟩ : ∃ q, Hid (takeR b 5 = q) := ⟨_, rfl⟩
  have hl2 : (l ++ takeL a 4).length ≤ 900000 := by have := takeL_len a 4; rw [List.length_append]; omega
  have hl3 : ((l ++ takeL a 4) ++ takeL b 5).length ≤ 900000 := by have := takeL_len a 4; have := takeL_len b 5; rw [List.length_append, List.length_append]; omega
  refine wp_region_held_drew (S := fun w' => w'.cell? ⟨w.heap.size, 0, none⟩ = some (.int .i64 a) ∧ w'.cell? ⟨w.heap.size, 1, none⟩ = some (.int .i64 b)) (by kernel_rfl) ⟨p0, p1⟩ (fun hHeld => ?_)
  refine wpAnyH_take (i := 0) (oi := { dst := some 65, op := Go.Op.move (Go.Operand.tmp 0), type := 65, pos := "l15_emit.go:82", after := #[], guard := none }) (v := ?_) rfl (by kernel_rfl) (by kernel_rfl) (by kernel_rfl) (fun _ _ _ h => h) (Or.inl ⟨by rfl, ?_⟩) (by assumption) ?_
  rotate_left
  · intro w hSw
    (try dsimp only at hSw)
    go_simp
    (try with_reducible rfl)
  try simp only [Act.put, List.setIfInBounds_toArray, List.set_cons_zero, List.set_cons_succ]
  refine wpAnyH_take (i := 1) (oi := { dst := some 66, op := Go.Op.fieldAddr 197 (Go.Operand.tmp 10) 0, type := 0, pos := "l15_emit.go:82", after := #[], guard := none }) (v := ?_) rfl (by kernel_rfl) (by kernel_rfl) (by kernel_rfl) (fun _ _ _ h => h) (Or.inl ⟨by rfl, ?_⟩) (by assumption) ?_
  rotate_left
  · intro w hSw
    (try dsimp only at hSw)
    go_simp
    (try with_reducible rfl)
  try simp only [Act.put, List.setIfInBounds_toArray, List.set_cons_zero, List.set_cons_succ]
  refine wpAnyH_take (i := 2) (oi := { dst := some 67, op := Go.Op.load 3 (Go.Operand.tmp 66), type := 3, pos := "l15_emit.go:82", after := #[{ on := 1, ground := Go.Ground.data }], guard := none }) (v := ?_) rfl (by kernel_rfl) (by kernel_rfl) (by kernel_rfl) (fun _ _ _ h => h) (Or.inl ⟨by rfl, ?_⟩) (by assumption) ?_
  rotate_left
  · intro w hSw
    (try dsimp only at hSw)
    go_simp
    (try with_reducible rfl)
  try simp only [Act.put, List.setIfInBounds_toArray, List.set_cons_zero, List.set_cons_succ]
  refine wpAnyH_take (i := 4) (oi := { dst := some 69, op := Go.Op.move (Go.Operand.tmp 0), type := 65, pos := "l15_emit.go:82", after := #[], guard := none }) (v := ?_) rfl (by kernel_rfl) (by kernel_rfl) (by kernel_rfl) (fun _ _ _ h => h) (Or.inl ⟨by rfl, ?_⟩) (by assumption) ?_
  rotate_left
  · intro w hSw
    (try dsimp only at hSw)
    go_simp
    (try with_reducible rfl)
  try simp only [Act.put, List.setIfInBounds_toArray, List.set_cons_zero, List.set_cons_succ]
  refine wpAnyH_take (i := 5) (oi := { dst := some 70, op := Go.Op.fieldAddr 197 (Go.Operand.tmp 10) 1, type := 0, pos := "l15_emit.go:82", after := #[], guard := none }) (v := ?_) rfl (by kernel_rfl) (by kernel_rfl) (by kernel_rfl) (fun _ _ _ h => h) (Or.inl ⟨by rfl, ?_⟩) (by assumption) ?_
  rotate_left
  · intro w hSw
    (try dsimp only at hSw)
    go_simp
    (try with_reducible rfl)
  try simp only [Act.put, List.setIfInBounds_toArray, List.set_cons_zero, List.set_cons_succ]
  refine wpAnyH_take (i := 6) (oi := { dst := some 71, op := Go.Op.load 3 (Go.Operand.tmp 70), type := 3, pos := "l15_emit.go:82", after := #[{ on := 5, ground := Go.Ground.data }], guard := none }) (v := ?_) rfl (by kernel_rfl) (by kernel_rfl) (by kernel_rfl) (fun _ _ _ h => h) (Or.inl ⟨by rfl, ?_⟩) (by assumption) ?_
  rotate_left
  · intro w hSw
    (try dsimp only at hSw)
    go_simp
    (try with_reducible rfl)
  try simp only [Act.put, List.setIfInBounds_toArray, List.set_cons_zero, List.set_cons_succ]
  refine ckAnyH_oneK (i := 3) (o := { dst := some 68, op := Go.Op.call { callee := Go.Callee.value (Go.Operand.func 96), args := #[Go.Operand.tmp 65, Go.Operand.tmp 67, Go.Operand.const (Go.Value.int Go.IntKind.i64 4)], argTypes := #[65, 3, 3] }, type := 3, pos := "l15_emit.go:82", after := #[{ on := 0, ground := Go.Ground.data }, { on := 2, ground := Go.Ground.data }], guard := none }) rfl rfl (by kernel_rfl) (fun K9 hK9 => ?_)
  have hdr : Below w0.heap.size w0 w0.drew := (Below.refl _ w0).drew
  have HBD := HBX.out.grow hdr
  refine wp_call_of (f := 96) (args := #[.pointer (some ⟨E, 0, none⟩), .int .i64 a, .int .i64 4]) (by go_simp) (take_any lo E v l a 4 w0.drew HBD.em HBD.hi (by omega) ha) ?_
  rintro e w2 ⟨x, v2, rfl, rfl, h1, h2⟩
  rw [HRR.out]
  have HB2 : Hid (BoxE lo w2 E w.heap.size v2 (l ++ takeL a 4) #[.int .i64 a, .int .i64 b] 197) := HBD.to h1 h2
  have HT2 : Hid (EmTo lo E w v w2 v2) := HTO.out.trans ((EmTo.grow v hdr HBX.out.hi).trans h2)
  clear h1 h2
  have hH2 : w2.cell? ⟨w.heap.size, 0, none⟩ = some (.int .i64 a) ∧ w2.cell? ⟨w.heap.size, 1, none⟩ = some (.int .i64 b) := ⟨HB2.out.cell 0, HB2.out.cell 1⟩
  refine ⟨_, rfl, hK9 _ _ ⟨hH2, ?_⟩⟩
  try simp only [Act.put, List.setIfInBounds_toArray, List.set_cons_zero, List.set_cons_succ]
  clear hK9 hHeld HBD hdr
  refine ckAnyH_oneK (i := 7) (o := { dst := some 72, op := Go.Op.call { callee := Go.Callee.value (Go.Operand.func 96), args := #[Go.Operand.tmp 69, Go.Operand.tmp 71, Go.Operand.const (Go.Value.int Go.IntKind.i64 5)], argTypes := #[65, 3, 3] }, type := 3, pos := "l15_emit.go:82", after := #[{ on := 4, ground := Go.Ground.data }, { on := 6, ground := Go.Ground.data }, { on := 3, ground := Go.Ground.chain }], guard := none }) rfl rfl (by kernel_rfl) (fun K9 hK9 => ?_)
  refine wp_call_of (f := 96) (args := #[.pointer (some ⟨E, 0, none⟩), .int .i64 b, .int .i64 5]) (by go_simp) (take_any lo E v2 (l ++ takeL a 4) b 5 w2 HB2.out.em HB2.out.hi (by omega) hb) ?_
  rintro e w3 ⟨x, v3, rfl, rfl, h1, h2⟩
  rw [HQQ.out]
  have HB3 : Hid (BoxE lo w3 E w.heap.size v3 ((l ++ takeL a 4) ++ takeL b 5) #[.int .i64 a, .int .i64 b] 197) := HB2.out.to h1 h2
  have HT3 : Hid (EmTo lo E w v w3 v3) := HT2.out.trans h2
  clear h1 h2
  have hH3 : w3.cell? ⟨w.heap.size, 0, none⟩ = some (.int .i64 a) ∧ w3.cell? ⟨w.heap.size, 1, none⟩ = some (.int .i64 b) := ⟨HB3.out.cell 0, HB3.out.cell 1⟩
  refine ⟨_, rfl, hK9 _ _ ⟨hH3, ?_⟩⟩
  try simp only [Act.put, List.setIfInBounds_toArray, List.set_cons_zero, List.set_cons_succ]
  clear hK9 hH2
  refine wpAnyH_take (i := 8) (oi := { dst := some 11, op := Go.Op.assign (Go.Operand.tmp 68), type := 3, pos := "l15_emit.go:82", after := #[{ on := 3, ground := Go.Ground.data }, { on := 7, ground := Go.Ground.chain }, { on := 0, ground := Go.Ground.phase }, { on := 1, ground := Go.Ground.phase }, { on := 2, ground := Go.Ground.phase }, { on := 3, ground := Go.Ground.phase }, { on := 4, ground := Go.Ground.textOnly Go.Departure.lateStores }, { on := 5, ground := Go.Ground.textOnly Go.Departure.lateStores }, { on := 6, ground := Go.Ground.textOnly Go.Departure.lateStores }, { on := 7, ground := Go.Ground.textOnly Go.Departure.lateStoresUnsure }], guard := none }) (v := ?_) rfl (by kernel_rfl) (by kernel_rfl) (by kernel_rfl) (fun _ _ _ h => h) (Or.inl ⟨by rfl, ?_⟩) (by assumption) ?_
  rotate_left
  · intro w hSw
    (try dsimp only at hSw)
    go_simp
    (try with_reducible rfl)
  try simp only [Act.put, List.setIfInBounds_toArray, List.set_cons_zero, List.set_cons_succ]
  refine wpAnyH_take (i := 9) (oi := { dst := some 12, op := Go.Op.assign (Go.Operand.tmp 72), type := 3, pos := "l15_emit.go:82", after := #[{ on := 7, ground := Go.Ground.data }, { on := 8, ground := Go.Ground.chain }, { on := 0, ground := Go.Ground.phase }, { on := 1, ground := Go.Ground.phase }, { on := 2, ground := Go.Ground.phase }, { on := 3, ground := Go.Ground.phase }, { on := 4, ground := Go.Ground.phase }, { on := 5, ground := Go.Ground.phase }, { on := 6, ground := Go.Ground.phase }, { on := 7, ground := Go.Ground.phase }, { on := 8, ground := Go.Ground.phase }], guard := none }) (v := ?_) rfl (by kernel_rfl) (by kernel_rfl) (by kernel_rfl) (fun _ _ _ h => h) (Or.inl ⟨by rfl, ?_⟩) (by assumption) ?_
  rotate_left
  · intro w hSw
    (try dsimp only at hSw)
    go_simp
    (try with_reducible rfl)
  try simp only [Act.put, List.setIfInBounds_toArray, List.set_cons_zero, List.set_cons_succ]
  refine wpAnyH_done (by kernel_rfl) ?_ _
  simp only [Exit.then]
  go_at_K
  clear hH3 p0 p1
  go_wp2_with fail
  refine (put_one lo E v3 ((l ++ takeL a 4) ++ takeL b 5) 6 0 r q 0 _ HB3.out.em HB3.out.hi (by omega)).mono ?_
  rintro e w9 ⟨x, v9, rfl, _, h1, h2⟩
  have H1 : Hid (EmIs lo w9 E v9 (((l ++ takeL a 4) ++ takeL b 5) ++ [⟨6, 0, r, q, 0⟩])) := h1
  have HT9 : Hid (EmTo lo E w v w9 v9) := HT3.out.trans h2
  clear h1 h2
  go_wp2
  refine ⟨rfl, _, results_none rfl _ _ _, _, v9, rfl, trivial, by rw [HRR.out, HQQ.out, ← List.append_assoc, ← List.append_assoc]; exact H1.out, HT9.out⟩

set_option maxRecDepth 100000 in
set_option maxHeartbeats 4000000 in
theorem em_word (lo E : Nat) (v : Value) (l : List InsD) (op d a b : Int) (w : World) (he : EmIs lo w E v l) (hlo : lo ≤ w.heap.size) (hn : l.length ≤ 800000) (hd : homeB d = true) (ha : homeB a = true) (hb : homeB b = true) (hop : 1 ≤ op ∧ op ≤ 10) :
    Calls Tryz.prog 95 #[.pointer (some ⟨E, 0, none⟩), .iface 204 (.agg #[.int .i64 op, .int .i64 d, .int .i64 a, .int .i64 b])] w fun e w' => GivesEm lo E w v (fun _ => True) (l ++ (takeL a 4 ++ (takeL b 5 ++ giveL d (11 + op) (takeR a 4) (takeR b 5) 0))) e w' := by
  obtain ⟨hbx, hto⟩ := BoxE.new he hlo #[.int .i64 op, .int .i64 d, .int .i64 a, .int .i64 b] 204
  obtain ⟨w0, hw0⟩ : ∃ W, w.alloc (.cells #[.int .i64 op, .int .i64 d, .int .i64 a, .int .i64 b] 204) = W := ⟨_, rfl⟩
  rw [hw0] at hbx hto
  have HBX : Hid (BoxE lo w0 E w.heap.size v l #[.int .i64 op, .int .i64 d, .int .i64 a, .int .i64 b] 204) := hbx
  have HTO : Hid (EmTo lo E w v w0 v) := hto
  have p0 : w0.cell? ⟨w.heap.size, 0, none⟩ = some (.int .i64 op) := HBX.out.cell 0
  have p1 : w0.cell? ⟨w.heap.size, 1, none⟩ = some (.int .i64 d) := HBX.out.cell 1
  have p2 : w0.cell? ⟨w.heap.size, 2, none⟩ = some (.int .i64 a) := HBX.out.cell 2
  have p3 : w0.cell? ⟨w.heap.size, 3, none⟩ = some (.int .i64 b) := HBX.out.cell 3
  clear hbx hto he
  have y0 := wordPlace_yes
  have n0 := wordPlace_no
  have y1 := constPlace_yes
  have n1 := constPlace_no
  have y2 := loadPlace_yes
  have n2 := loadPlace_no
  have y3 := storePlace_yes
  have n3 := storePlace_no
  have y4 := outPlace_yes
  have n4 := outPlace_no
  have y5 := readPlace_yes
  have n5 := readPlace_no
  have y6 := copyPlace_yes
  have n6 := copyPlace_no
  go_enter Tryz.func95, Tryz.ntmps95
  go_wp2_with fail
  try rw [hw0]
  clear y0 n0 y1 n1 y2 n2 y3 n3 y4 n4 y5 n5 y6 n6
  clear hw0
  obtain ⟨r, HRR⟩ : ∃ r, Hid (takeR a 4 = r) := ⟨_, rfl⟩
  obtain ⟨q, HQQ⟩ : ∃ q, Hid (takeR b 5 = q) := ⟨_, rfl⟩
  have hl2 : (l ++ takeL a 4).length ≤ 900000 := by have := takeL_len a 4; rw [List.length_append]; omega
  have hl3 : ((l ++ takeL a 4) ++ takeL b 5).length ≤ 900000 := by have := takeL_len a 4; have := takeL_len b 5; rw [List.length_append, List.length_append]; omega
  refine wp_region_held_drew (S := fun w' => w'.cell? ⟨w.heap.size, 0, none⟩ = some (.int .i64 op) ∧ w'.cell? ⟨w.heap.size, 1, none⟩ = some (.int .i64 d) ∧ w'.cell? ⟨w.heap.size, 2, none⟩ = some (.int .i64 a) ∧ w'.cell? ⟨w.heap.size, 3, none⟩ = some (.int .i64 b)) (by kernel_rfl) ⟨p0, p1, p2, p3⟩ (fun hHeld => ?_)
  refine wpAnyH_take (i := 0) (oi := { dst := some 21, op := Go.Op.move (Go.Operand.tmp 0), type := 65, pos := "l15_emit.go:74", after := #[], guard := none }) (v := ?_) rfl (by kernel_rfl) (by kernel_rfl) (by kernel_rfl) (fun _ _ _ h => h) (Or.inl ⟨by rfl, ?_⟩) (by assumption) ?_
  rotate_left
  · intro w hSw
    (try dsimp only at hSw)
    go_simp
    (try with_reducible rfl)
  try simp only [Act.put, List.setIfInBounds_toArray, List.set_cons_zero, List.set_cons_succ]
  refine wpAnyH_take (i := 1) (oi := { dst := some 22, op := Go.Op.fieldAddr 204 (Go.Operand.tmp 4) 2, type := 0, pos := "l15_emit.go:74", after := #[], guard := none }) (v := ?_) rfl (by kernel_rfl) (by kernel_rfl) (by kernel_rfl) (fun _ _ _ h => h) (Or.inl ⟨by rfl, ?_⟩) (by assumption) ?_
  rotate_left
  · intro w hSw
    (try dsimp only at hSw)
    go_simp
    (try with_reducible rfl)
  try simp only [Act.put, List.setIfInBounds_toArray, List.set_cons_zero, List.set_cons_succ]
  refine wpAnyH_take (i := 2) (oi := { dst := some 23, op := Go.Op.load 3 (Go.Operand.tmp 22), type := 3, pos := "l15_emit.go:74", after := #[{ on := 1, ground := Go.Ground.data }], guard := none }) (v := ?_) rfl (by kernel_rfl) (by kernel_rfl) (by kernel_rfl) (fun _ _ _ h => h) (Or.inl ⟨by rfl, ?_⟩) (by assumption) ?_
  rotate_left
  · intro w hSw
    (try dsimp only at hSw)
    go_simp
    (try with_reducible rfl)
  try simp only [Act.put, List.setIfInBounds_toArray, List.set_cons_zero, List.set_cons_succ]
  refine wpAnyH_take (i := 4) (oi := { dst := some 25, op := Go.Op.move (Go.Operand.tmp 0), type := 65, pos := "l15_emit.go:74", after := #[], guard := none }) (v := ?_) rfl (by kernel_rfl) (by kernel_rfl) (by kernel_rfl) (fun _ _ _ h => h) (Or.inl ⟨by rfl, ?_⟩) (by assumption) ?_
  rotate_left
  · intro w hSw
    (try dsimp only at hSw)
    go_simp
    (try with_reducible rfl)
  try simp only [Act.put, List.setIfInBounds_toArray, List.set_cons_zero, List.set_cons_succ]
  refine wpAnyH_take (i := 5) (oi := { dst := some 26, op := Go.Op.fieldAddr 204 (Go.Operand.tmp 4) 3, type := 0, pos := "l15_emit.go:74", after := #[], guard := none }) (v := ?_) rfl (by kernel_rfl) (by kernel_rfl) (by kernel_rfl) (fun _ _ _ h => h) (Or.inl ⟨by rfl, ?_⟩) (by assumption) ?_
  rotate_left
  · intro w hSw
    (try dsimp only at hSw)
    go_simp
    (try with_reducible rfl)
  try simp only [Act.put, List.setIfInBounds_toArray, List.set_cons_zero, List.set_cons_succ]
  refine wpAnyH_take (i := 6) (oi := { dst := some 27, op := Go.Op.load 3 (Go.Operand.tmp 26), type := 3, pos := "l15_emit.go:74", after := #[{ on := 5, ground := Go.Ground.data }], guard := none }) (v := ?_) rfl (by kernel_rfl) (by kernel_rfl) (by kernel_rfl) (fun _ _ _ h => h) (Or.inl ⟨by rfl, ?_⟩) (by assumption) ?_
  rotate_left
  · intro w hSw
    (try dsimp only at hSw)
    go_simp
    (try with_reducible rfl)
  try simp only [Act.put, List.setIfInBounds_toArray, List.set_cons_zero, List.set_cons_succ]
  refine ckAnyH_oneK (i := 3) (o := { dst := some 24, op := Go.Op.call { callee := Go.Callee.value (Go.Operand.func 96), args := #[Go.Operand.tmp 21, Go.Operand.tmp 23, Go.Operand.const (Go.Value.int Go.IntKind.i64 4)], argTypes := #[65, 3, 3] }, type := 3, pos := "l15_emit.go:74", after := #[{ on := 0, ground := Go.Ground.data }, { on := 2, ground := Go.Ground.data }], guard := none }) rfl rfl (by kernel_rfl) (fun K9 hK9 => ?_)
  have hdr : Below w0.heap.size w0 w0.drew := (Below.refl _ w0).drew
  have HBD := HBX.out.grow hdr
  refine wp_call_of (f := 96) (args := #[.pointer (some ⟨E, 0, none⟩), .int .i64 a, .int .i64 4]) (by go_simp) (take_any lo E v l a 4 w0.drew HBD.em HBD.hi (by omega) ha) ?_
  rintro e w2 ⟨x, v2, rfl, rfl, h1, h2⟩
  rw [HRR.out]
  have HB2 : Hid (BoxE lo w2 E w.heap.size v2 (l ++ takeL a 4) #[.int .i64 op, .int .i64 d, .int .i64 a, .int .i64 b] 204) := HBD.to h1 h2
  have HT2 : Hid (EmTo lo E w v w2 v2) := HTO.out.trans ((EmTo.grow v hdr HBX.out.hi).trans h2)
  clear h1 h2
  have hH2 : w2.cell? ⟨w.heap.size, 0, none⟩ = some (.int .i64 op) ∧ w2.cell? ⟨w.heap.size, 1, none⟩ = some (.int .i64 d) ∧ w2.cell? ⟨w.heap.size, 2, none⟩ = some (.int .i64 a) ∧ w2.cell? ⟨w.heap.size, 3, none⟩ = some (.int .i64 b) := ⟨HB2.out.cell 0, HB2.out.cell 1, HB2.out.cell 2, HB2.out.cell 3⟩
  refine ⟨_, rfl, hK9 _ _ ⟨hH2, ?_⟩⟩
  try simp only [Act.put, List.setIfInBounds_toArray, List.set_cons_zero, List.set_cons_succ]
  clear hK9 hHeld HBD hdr
  refine ckAnyH_oneK (i := 7) (o := { dst := some 28, op := Go.Op.call { callee := Go.Callee.value (Go.Operand.func 96), args := #[Go.Operand.tmp 25, Go.Operand.tmp 27, Go.Operand.const (Go.Value.int Go.IntKind.i64 5)], argTypes := #[65, 3, 3] }, type := 3, pos := "l15_emit.go:74", after := #[{ on := 4, ground := Go.Ground.data }, { on := 6, ground := Go.Ground.data }, { on := 3, ground := Go.Ground.chain }], guard := none }) rfl rfl (by kernel_rfl) (fun K9 hK9 => ?_)
  refine wp_call_of (f := 96) (args := #[.pointer (some ⟨E, 0, none⟩), .int .i64 b, .int .i64 5]) (by go_simp) (take_any lo E v2 (l ++ takeL a 4) b 5 w2 HB2.out.em HB2.out.hi (by omega) hb) ?_
  rintro e w3 ⟨x, v3, rfl, rfl, h1, h2⟩
  rw [HQQ.out]
  have HB3 : Hid (BoxE lo w3 E w.heap.size v3 ((l ++ takeL a 4) ++ takeL b 5) #[.int .i64 op, .int .i64 d, .int .i64 a, .int .i64 b] 204) := HB2.out.to h1 h2
  have HT3 : Hid (EmTo lo E w v w3 v3) := HT2.out.trans h2
  clear h1 h2
  have hH3 : w3.cell? ⟨w.heap.size, 0, none⟩ = some (.int .i64 op) ∧ w3.cell? ⟨w.heap.size, 1, none⟩ = some (.int .i64 d) ∧ w3.cell? ⟨w.heap.size, 2, none⟩ = some (.int .i64 a) ∧ w3.cell? ⟨w.heap.size, 3, none⟩ = some (.int .i64 b) := ⟨HB3.out.cell 0, HB3.out.cell 1, HB3.out.cell 2, HB3.out.cell 3⟩
  refine ⟨_, rfl, hK9 _ _ ⟨hH3, ?_⟩⟩
  try simp only [Act.put, List.setIfInBounds_toArray, List.set_cons_zero, List.set_cons_succ]
  clear hK9 hH2
  refine wpAnyH_take (i := 8) (oi := { dst := some 5, op := Go.Op.assign (Go.Operand.tmp 24), type := 3, pos := "l15_emit.go:74", after := #[{ on := 3, ground := Go.Ground.data }, { on := 7, ground := Go.Ground.chain }, { on := 0, ground := Go.Ground.phase }, { on := 1, ground := Go.Ground.phase }, { on := 2, ground := Go.Ground.phase }, { on := 3, ground := Go.Ground.phase }, { on := 4, ground := Go.Ground.textOnly Go.Departure.lateStores }, { on := 5, ground := Go.Ground.textOnly Go.Departure.lateStores }, { on := 6, ground := Go.Ground.textOnly Go.Departure.lateStores }, { on := 7, ground := Go.Ground.textOnly Go.Departure.lateStoresUnsure }], guard := none }) (v := ?_) rfl (by kernel_rfl) (by kernel_rfl) (by kernel_rfl) (fun _ _ _ h => h) (Or.inl ⟨by rfl, ?_⟩) (by assumption) ?_
  rotate_left
  · intro w hSw
    (try dsimp only at hSw)
    go_simp
    (try with_reducible rfl)
  try simp only [Act.put, List.setIfInBounds_toArray, List.set_cons_zero, List.set_cons_succ]
  refine wpAnyH_take (i := 9) (oi := { dst := some 6, op := Go.Op.assign (Go.Operand.tmp 28), type := 3, pos := "l15_emit.go:74", after := #[{ on := 7, ground := Go.Ground.data }, { on := 8, ground := Go.Ground.chain }, { on := 0, ground := Go.Ground.phase }, { on := 1, ground := Go.Ground.phase }, { on := 2, ground := Go.Ground.phase }, { on := 3, ground := Go.Ground.phase }, { on := 4, ground := Go.Ground.phase }, { on := 5, ground := Go.Ground.phase }, { on := 6, ground := Go.Ground.phase }, { on := 7, ground := Go.Ground.phase }, { on := 8, ground := Go.Ground.phase }], guard := none }) (v := ?_) rfl (by kernel_rfl) (by kernel_rfl) (by kernel_rfl) (fun _ _ _ h => h) (Or.inl ⟨by rfl, ?_⟩) (by assumption) ?_
  rotate_left
  · intro w hSw
    (try dsimp only at hSw)
    go_simp
    (try with_reducible rfl)
  try simp only [Act.put, List.setIfInBounds_toArray, List.set_cons_zero, List.set_cons_succ]
  refine wpAnyH_done (by kernel_rfl) ?_ _
  simp only [Exit.then]
  go_at_K
  clear hH3 p0 p1 p2 p3
  have q0 : w3.cell? ⟨w.heap.size, 0, none⟩ = some (.int .i64 op) := HB3.out.cell 0
  have q1 : w3.cell? ⟨w.heap.size, 1, none⟩ = some (.int .i64 d) := HB3.out.cell 1
  go_wp2_with fail
  refine (give_any lo E v3 ((l ++ takeL a 4) ++ takeL b 5) d (11 + op) 0 r q 0 _ HB3.out.em HB3.out.hi (by omega) hd).mono ?_
  rintro e w9 ⟨x, v9, rfl, _, h1, h2⟩
  have H1 : Hid (EmIs lo w9 E v9 (((l ++ takeL a 4) ++ takeL b 5) ++ giveL d (11 + op) r q 0)) := h1
  have HT9 : Hid (EmTo lo E w v w9 v9) := HT3.out.trans h2
  clear h1 h2
  go_wp2
  refine ⟨rfl, _, results_none rfl _ _ _, _, v9, rfl, trivial, by rw [HRR.out, HQQ.out, ← List.append_assoc, ← List.append_assoc]; exact H1.out, HT9.out⟩

end Go.Proofs.YtkejplddeelahaaGreatDoor

namespace Go.Proofs.YtkejplddeelahaaGreatDoor
open Go.ChangeShapes Go.WideShapes Go.ChangeAt Go.RowKit
set_option linter.unusedVariables false

theorem homesX_iff (op d a b n : Int) : homesX ⟨op, d, a, b, n⟩ = ((!makesV op || homeB d) && (usesV op a b).all homeB) := rfl
theorem all_homes (L : List Int) : L.all homeB = true ↔ HomesIn L := by
  rw [List.all_eq_true]
  exact ⟨fun h z hz => homeB_iff.1 (h z hz), fun h z hz => homeB_iff.2 (h z hz)⟩
theorem hX_d {op d a b n : Int} (h : homesX ⟨op, d, a, b, n⟩ = true) (hm : makesV op = true) : homeB d = true := by
  rw [homesX_iff, hm] at h
  simp at h
  exact h.1
theorem hX_u {op d a b n : Int} (h : homesX ⟨op, d, a, b, n⟩ = true) : ∀ z ∈ usesV op a b, homeB z = true := by
  rw [homesX_iff, Bool.and_eq_true, List.all_eq_true] at h
  exact h.2

theorem placeAtHome_any (op d a b n : Int) (w : World) :
    Calls Tryz.prog 94 #[placeV op d a b n] w fun e w' => e = .returned (.bool (homesX ⟨op, d, a, b, n⟩)) ∧ Below w.heap.size w w' := by
  obtain ⟨P, HP⟩ : ∃ P, Hid (placeV op d a b n = P) := ⟨_, rfl⟩
  have HD : Hid (∀ w, Calls Tryz.prog 137 #[P] w fun e w' => e = .returned (.tuple #[.int .i64 (madeV op d), .bool (makesV op)]) ∧ Below w.heap.size w w') := fun w => by rw [← HP.out]; exact placeDef_any op d a b n w
  have HU : Hid (∀ w, Calls Tryz.prog 140 #[P] w fun e w' => GivesInts w (usesV op a b) e w') := fun w => by rw [← HP.out]; exact placeUses_any op d a b n w
  rw [HP.out, homesX_iff]
  obtain ⟨mk, HM⟩ : ∃ m, Hid (makesV op = m) := ⟨_, rfl⟩
  obtain ⟨hd, HH⟩ : ∃ m, Hid (homeB d = m) := ⟨_, rfl⟩
  obtain ⟨L, HL⟩ : ∃ L, Hid (usesV op a b = L) := ⟨_, rfl⟩
  rw [HM.out, HH.out, HL.out]
  go_enter Tryz.func94, Tryz.ntmps94
  go_wp2_with fail
  refine (HD.out _).mono ?_
  rintro e w1 ⟨rfl, b1⟩
  have B1 : Hid (Below w.heap.size w w1) := b1
  clear b1
  rw [HM.out]
  cases mk with
  | false =>
    go_wp2_with fail
    refine (HU.out _).mono ?_
    rw [HL.out]
    rintro e w2 ⟨u, k, rfl, _, hr, b2⟩
    have B2 : Hid (Below w.heap.size w w2) := Bel.after B1.out b2
    obtain ⟨ua, uc, hua⟩ := intsAt_form hr.at
    have HI : Hid (IntsAt w2 u L) := hr.at
    subst hua
    clear hr b2
    go_wp2_with fail
    refine (allHomes_any _ _ _ L _ HI.out).mono ?_
    rintro e w3 ⟨r, rfl, hri, hw3⟩
    subst hw3
    have HR : Hid (r = L.all homeB) := by show _ = _; rw [Bool.eq_iff_iff, all_homes]; exact hri
    clear hri
    go_wp2
    go_ret
    exact ⟨by rw [← HR.out]; rfl, B2.out⟩
  | true =>
    have e1 : madeV op d = d := by unfold madeV; rw [HM.out]; rfl
    rw [e1]
    clear e1
    go_wp2_with fail
    refine (homeOk_any d _).mono ?_
    rw [HH.out]
    rintro e w2 ⟨rfl, hw2⟩
    subst hw2
    cases hd with
    | false =>
      go_wp2
      go_ret
      exact ⟨rfl, B1.out⟩
    | true =>
      go_wp2_with fail
      refine (HU.out _).mono ?_
      rw [HL.out]
      rintro e w3 ⟨u, k, rfl, _, hr, b2⟩
      have B2 : Hid (Below w.heap.size w w3) := Bel.after B1.out b2
      obtain ⟨ua, uc, hua⟩ := intsAt_form hr.at
      have HI : Hid (IntsAt w3 u L) := hr.at
      subst hua
      clear hr b2
      go_wp2_with fail
      refine (allHomes_any _ _ _ L _ HI.out).mono ?_
      rintro e w4 ⟨r, rfl, hri, hw4⟩
      subst hw4
      have HR : Hid (r = L.all homeB) := by show _ = _; rw [Bool.eq_iff_iff, all_homes]; exact hri
      clear hri
      go_wp2
      go_ret
      exact ⟨by rw [← HR.out]; rfl, B2.out⟩

/-- A new emitter. -/
theorem newEmitter_any (w : World) :
    Calls Tryz.prog 43 #[] w fun e w' => ∃ E v, e = .returned (.pointer (some ⟨E, 0, none⟩)) ∧ EmIs w.heap.size w' E v [] ∧ Below w.heap.size w w' := by
  go_enter Tryz.func43, Tryz.ntmps43
  go_wp2
  go_ret
  refine ⟨w.heap.size + 1, .slice (some ⟨w.heap.size, 0, none⟩) 0 0, rfl, ⟨?_, ?_, by omega⟩, by repeat (first | exact Below.refl _ _ | apply Below.drew | refine Below.alloc ?_ (by simp <;> omega) _ | refine Below.setCell ?_ (by simp <;> omega) _)⟩
  · have h := World.alloc_heap_new (w.alloc (.cells #[] 46)) (.cells #[.slice (some ⟨w.heap.size, 0, none⟩) 0 0, .func (.func 90) #[] #[]] 70)
    rw [World.size_alloc] at h
    exact h
  · refine ownSteps_new ?_ (Nat.le_refl _)
    rw [Below.heap_alloc _ _ _ (by simp)]
    exact World.alloc_heap_new w _

/-- Each kind of place. -/
theorem place_any (lo E : Nat) (v : Value) (l : List InsD) (op d a b n : Int) (w : World) (he : EmIs lo w E v l) (hlo : lo ≤ w.heap.size) (hn : l.length ≤ 800000) (hh : homesX ⟨op, d, a, b, n⟩ = true) (hnn : makesV op = true ∨ op = 22 ∨ op = 23) :
    Calls Tryz.prog 95 #[.pointer (some ⟨E, 0, none⟩), placeV op d a b n] w fun e w' => GivesEm lo E w v (fun _ => True) (l ++ stepsX ⟨op, d, a, b, n⟩) e w' := by
  have hu := hX_u hh
  by_cases e0 : op = 20
  · subst e0
    exact em_const lo E v l d n w he hlo hn (hX_d hh rfl)
  by_cases e1 : op = 21
  · subst e1
    exact em_load lo E v l d a w he hlo hn (hX_d hh rfl) (hu a (by simp [usesV]))
  by_cases e2 : op = 22
  · subst e2
    exact em_store lo E v l a b w he hlo hn (hu a (by simp [usesV])) (hu b (by simp [usesV]))
  by_cases e3 : op = 23
  · subst e3
    exact em_out lo E v l a w he hlo hn (hu a (by simp [usesV]))
  by_cases e4 : op = 24
  · subst e4
    exact em_read lo E v l d w he hlo hn (hX_d hh rfl)
  by_cases e5 : op = 25
  · subst e5
    exact em_copy lo E v l d a w he hlo hn (hX_d hh rfl) (hu a (by simp [usesV]))
  have ew : 1 ≤ op ∧ op ≤ 10 := by
    rcases hnn with h | h | h
    · simp [makesV] at h; omega
    · exact absurd h e2
    · exact absurd h e3
  have ep : placeV op d a b n = .iface 204 (.agg #[.int .i64 op, .int .i64 d, .int .i64 a, .int .i64 b]) := by simp [placeV, e0, e1, e2, e3, e4, e5, ew.1, ew.2]
  have es : stepsX ⟨op, d, a, b, n⟩ = takeL a 4 ++ (takeL b 5 ++ giveL d (11 + op) (takeR a 4) (takeR b 5) 0) := by simp [stepsX, e0, e1, e2, e3, e4, e5, ew.1, ew.2]
  rw [ep, es]
  rw [usesV_word ew.1 ew.2] at hu
  exact em_word lo E v l op d a b w he hlo hn (hX_d hh (makesV_word ew.1 ew.2)) (hu a (by simp)) (hu b (by simp)) ew

set_option maxRecDepth 100000 in
set_option maxHeartbeats 2000000 in
theorem impl_emitIns (op d a b n : Int) (w : World) :
    Calls Tryz.prog 46 #[.agg #[.int .i64 op, .int .i64 d, .int .i64 a, .int .i64 b, .int .i64 n]] w fun e w' => GivesSteps w (emitX ⟨op, d, a, b, n⟩) e w' := by
  obtain ⟨w0, hw0⟩ : ∃ W, w.alloc (.cells #[.int .i64 op, .int .i64 d, .int .i64 a, .int .i64 b, .int .i64 n] 78) = W := ⟨_, rfl⟩
  have HB0 : Hid (Below w.heap.size w w0) := by show Below _ _ _; rw [← hw0]; exact Bel.alloc _ _
  have HX0 : Hid (w0.heap[w.heap.size]? = some (.cells #[.int .i64 op, .int .i64 d, .int .i64 a, .int .i64 b, .int .i64 n] 78 (0, 0))) := by show _ = _; rw [← hw0]; exact World.alloc_heap_new _ _
  obtain ⟨P, HP⟩ : ∃ P, Hid (placeV op d a b n = P) := ⟨_, rfl⟩
  obtain ⟨L, HL⟩ : ∃ L, Hid (emitX ⟨op, d, a, b, n⟩ = L) := ⟨_, rfl⟩
  rw [HL.out]
  go_enter Tryz.func46, Tryz.ntmps46
  go_wp2_with fail
  try rw [hw0]
  clear hw0
  refine (newEmitter_any _).mono ?_
  rintro e w1 ⟨E, v1, rfl, he1, b1⟩
  have HE1 : Hid (EmIs w.heap.size w1 E v1 []) := ⟨he1.box, he1.own.low HB0.out.size, Nat.le_trans HB0.out.size he1.lo⟩
  have HB1 : Hid (Below w.heap.size w w1) := Bel.after HB0.out b1
  have hX1 := (b1.block _ (Array.getElem?_eq_some_iff.1 HX0.out).1).trans HX0.out
  have c0 : w1.cell? ⟨w.heap.size, 0, none⟩ = some (.int .i64 op) := by simp [World.cell?, hX1]
  have c1 : w1.cell? ⟨w.heap.size, 1, none⟩ = some (.int .i64 d) := by simp [World.cell?, hX1]
  have c2 : w1.cell? ⟨w.heap.size, 2, none⟩ = some (.int .i64 a) := by simp [World.cell?, hX1]
  have c3 : w1.cell? ⟨w.heap.size, 3, none⟩ = some (.int .i64 b) := by simp [World.cell?, hX1]
  have c4 : w1.cell? ⟨w.heap.size, 4, none⟩ = some (.int .i64 n) := by simp [World.cell?, hX1]
  clear he1 b1 hX1
  go_wp2_with fail
  refine (placeOf_any op d a b n _).mono ?_
  rw [HP.out]
  rintro e w2 ⟨rfl, b2⟩
  have HE2 : Hid (EmIs w.heap.size w2 E v1 []) := HE1.out.grow b2
  have HB2 : Hid (Below w.heap.size w w2) := Bel.after HB1.out b2
  clear b2 c0 c1 c2 c3 c4
  by_cases hk : makesV op = true ∨ op = 22 ∨ op = 23
  · obtain ⟨t, pv, hpv⟩ : ∃ t pv, P = .iface t pv := by
      rw [← HP.out]
      unfold placeV
      repeat' split
      all_goals first | exact ⟨_, _, rfl⟩ | skip
      exfalso
      simp [makesV] at hk
      omega
    have HPV : Hid (placeV op d a b n = .iface t pv) := HP.out.trans hpv
    subst hpv
    obtain ⟨hh, HH⟩ : ∃ h, Hid (homesX ⟨op, d, a, b, n⟩ = h) := ⟨_, rfl⟩
    have HPA : Hid (∀ w, Calls Tryz.prog 94 #[.iface t pv] w fun e w' => e = .returned (.bool hh) ∧ Below w.heap.size w w') := fun w => by have h9 := placeAtHome_any op d a b n w; rw [HPV.out, HH.out] at h9; exact h9
    go_wp2_with fail
    refine (HPA.out _).mono ?_
    rintro e w3 ⟨rfl, b3⟩
    have HE3 : Hid (EmIs w.heap.size w3 E v1 []) := HE2.out.grow b3
    have HB3 : Hid (Below w.heap.size w w3) := Bel.after HB2.out b3
    clear b3
    cases hh with
    | false =>
      have hL : ([] : List InsD) = L := by rw [← HL.out]; unfold emitX; rw [HH.out]; rfl
      obtain ⟨c0, c1, f0, hE⟩ := HE3.out.cells
      go_wp2
      go_ret
      exact ⟨_, rfl, by rw [← hL]; exact HE3.out.own, HB3.out⟩
    | true =>
      have hL : stepsX ⟨op, d, a, b, n⟩ = L := by rw [← HL.out]; unfold emitX; rw [HH.out]; rfl
      have HPL : Hid (∀ w4, EmIs w.heap.size w4 E v1 [] → w.heap.size ≤ w4.heap.size → Calls Tryz.prog 95 #[.pointer (some ⟨E, 0, none⟩), .iface t pv] w4 fun e w' => GivesEm w.heap.size E w4 v1 (fun _ => True) L e w') := fun w4 h4 h5 => by
        have h9 := place_any w.heap.size E v1 [] op d a b n w4 h4 h5 (by simp) HH.out hk
        rw [HPV.out, hL, List.nil_append] at h9
        exact h9
      clear hL
      go_wp2_with fail
      refine (HPL.out _ HE3.out HB3.out.size).mono ?_
      rintro e w5 ⟨x, v5, rfl, _, h1, h2⟩
      have HE5 : Hid (EmIs w.heap.size w5 E v5 L) := h1
      have HB5 : Hid (Below w.heap.size w w5) := HB3.out.trans h2.bel
      obtain ⟨c0, c1, f0, hE⟩ := h1.cells
      clear h1 h2
      go_wp2
      go_ret
      exact ⟨_, rfl, HE5.out.own, HB5.out⟩
  · have hpn : P = .nilIface := by
      rw [← HP.out]
      unfold placeV
      have hk2 : ¬ op = 20 ∧ ¬ op = 21 ∧ ¬ op = 22 ∧ ¬ op = 23 ∧ ¬ op = 24 ∧ ¬ op = 25 ∧ ¬ (1 ≤ op ∧ op ≤ 10) := by simp [makesV] at hk; omega
      obtain ⟨k0, k1, k2, k3, k4, k5, k6⟩ := hk2
      rw [if_neg k0, if_neg k1, if_neg k2, if_neg k3, if_neg k4, if_neg k5, if_neg k6]
    subst hpn
    have hL : ([] : List InsD) = L := by
      rw [← HL.out]
      unfold emitX stepsX
      have hk2 : ¬ op = 20 ∧ ¬ op = 21 ∧ ¬ op = 22 ∧ ¬ op = 23 ∧ ¬ op = 24 ∧ ¬ op = 25 ∧ ¬ (1 ≤ op ∧ op ≤ 10) := by simp [makesV] at hk; omega
      obtain ⟨k0, k1, k2, k3, k4, k5, k6⟩ := hk2
      dsimp only
      rw [if_neg k0, if_neg k1, if_neg k2, if_neg k3, if_neg k4, if_neg k5, if_neg k6]
      split <;> rfl
    obtain ⟨c0, c1, f0, hE⟩ := HE2.out.cells
    clear hk
    go_wp2
    go_ret
    exact ⟨_, rfl, by rw [← hL]; exact HE2.out.own, HB2.out⟩
end Go.Proofs.YtkejplddeelahaaGreatDoor
