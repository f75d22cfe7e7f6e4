/- Code from homes: the program aims its jumps. -/
import Derived.Test.YtkejplddeelahaaGreatDoorEmT1K
import Derived.Test.YtkejplddeelahaaGreatDoorNmPlK
import Derived.Test.YtkejplddeelahaaGreatDoorKMake
namespace Go.Proofs.YtkejplddeelahaaGreatDoor
open Go.ChangeShapes Go.WideShapes Go.ChangeAt Go.RowKit
set_option linter.unusedVariables false

/-- The cells of an array of numbers. -/
def numC (n : Nat) (f : Nat → Int) : Array Value := ((List.range n).map (fun i => Value.int .i64 (f i))).toArray
theorem numC_at {n : Nat} {f : Nat → Int} {i : Nat} (h : i < n) : (numC n f)[i]? = some (.int .i64 (f i)) := by simp [numC, h]
theorem numC_size (n : Nat) (f : Nat → Int) : (numC n f).size = n := by simp [numC]
theorem wp_skipsE {P : Program} {Q : Exit → Act → World → Prop} {o : Oper} {a : Act} {w w' : World} {K : Act → World → Prop} (h : (execOp a.eval o).run P w = .ok .skip w') (hk : K (a.put o.dst undef) w') : o.wp P a w K Q := by
  unfold Oper.wp
  simp only [h]
  exact hk
/-- So many jumps are aimed. -/
structure AimE (lo : Nat) (w : World) (E g m cap B k : Nat) (l : List InsD) (bg : Nat → Int) : Prop where
  box : w.heap[E]? = some (.cells #[.slice (some ⟨g, 0, none⟩) m cap, .func (.func 90) #[] #[]] 70 (0, 0))
  beg : w.heap[B]? = some (.cells (numC 16 bg) 67 (0, 0))
  blk : StBlk w g (cap * 5)
  each : ∀ j x, l[j]? = some x → InsAt w g (j * 5) (if j < k then aimE bg x else x)
theorem AimE.keep {lo : Nat} {w w' : World} {E g m cap B k : Nat} {l : List InsD} {bg : Nat → Int} (h : AimE lo w E g m cap B k l bg) (hb : Below w.heap.size w w') : AimE lo w' E g m cap B k l bg :=
  ⟨(hb.block _ (Array.getElem?_eq_some_iff.1 h.box).1).trans h.box, (hb.block _ (Array.getElem?_eq_some_iff.1 h.beg).1).trans h.beg, h.blk.keep hb, fun j x hx => (h.each j x hx).keep (Keeps.of_below hb 0) (Nat.zero_le _)⟩
theorem AimE.plain {lo : Nat} {w : World} {E g m cap B k : Nat} {l : List InsD} {bg : Nat → Int} {x : InsD} (h : AimE lo w E g m cap B k l bg) (hx : l[k]? = some x) (hj : jumpE x = false) : AimE lo w E g m cap B (k + 1) l bg := by
  refine ⟨h.box, h.beg, h.blk, fun j z hz => ?_⟩
  have h9 := h.each j z hz
  by_cases e : j = k
  · subst e
    rw [hx] at hz
    cases hz
    rw [if_neg (by omega)] at h9
    rw [if_pos (by omega)]
    unfold aimE
    rw [hj]
    exact h9
  · by_cases e2 : j < k
    · rw [if_pos e2] at h9; rw [if_pos (by omega)]; exact h9
    · rw [if_neg e2] at h9; rw [if_neg (by omega)]; exact h9
theorem AimE.jump {lo : Nat} {w : World} {E g m cap B k q : Nat} {l : List InsD} {bg : Nat → Int} {x0 x1 x2 x3 : Int} (h : AimE lo w E g m cap B k l bg) (hE : E ≠ g) (hB : B ≠ g) (hx : l[k]? = some ⟨x0, x1, x2, x3, (q : Int)⟩) (hj : jumpE ⟨x0, x1, x2, x3, (q : Int)⟩ = true) : AimE lo (w.setCell ⟨g, k * 5 + 4, none⟩ (.int .i64 (bg q))) E g m cap B (k + 1) l bg := by
  refine ⟨(Below.heap_setCell _ _ _ E hE).trans h.box, (Below.heap_setCell _ _ _ B hB).trans h.beg, h.blk.set _ _, fun j z hz => ?_⟩
  have h9 := h.each j z hz
  by_cases e : j = k
  · subst e
    rw [hx] at hz
    cases hz
    rw [if_neg (by omega)] at h9
    rw [if_pos (by omega)]
    have e9 : aimE bg ⟨x0, x1, x2, x3, (q : Int)⟩ = ⟨x0, x1, x2, x3, bg q⟩ := by unfold aimE; rw [hj]; simp
    rw [e9]
    obtain ⟨c0, c1, c2, c3, c4⟩ := h9
    exact ⟨cell_aside c0 (by omega), cell_aside c1 (by omega), cell_aside c2 (by omega), cell_aside c3 (by omega), cell_there c4⟩
  · by_cases e2 : j < k
    · rw [if_pos e2] at h9; rw [if_pos (by omega)]; exact h9.store _ _ (by omega)
    · rw [if_neg e2] at h9; rw [if_neg (by omega)]; exact h9.store _ _ (by omega)

def GivesAim (lo E : Nat) (w : World) (v : Value) (l : List InsD) (e : Ending) (w' : World) : Prop := ∃ r, e = .returned r ∧ EmIs lo w' E v l ∧ Below lo w w'

set_option maxRecDepth 100000 in
set_option maxHeartbeats 8000000 in
theorem aim_any (lo E : Nat) (v : Value) (l : List InsD) (bg : Nat → Int) (w : World) (he : EmIs lo w E v l) (hlo : lo ≤ w.heap.size) (h0 : 0 < lo) (hT : FTab w) (ho : OpsIn l) (hj : ∀ x ∈ l, jumpE x = true → 0 ≤ x.n ∧ x.n < 16) (hp : 0 < l.length) (hn : l.length ≤ 100000) :
    Calls Tryz.prog 48 #[.pointer (some ⟨E, 0, none⟩), .agg (numC 16 bg)] w fun e w' => GivesAim lo E w v (l.map (aimE bg)) e w' := by
  obtain ⟨m, HM⟩ : ∃ m, Hid (l.length = m) := ⟨_, rfl⟩
  obtain ⟨g, cap, hvv⟩ : ∃ g cap, v = .slice (some ⟨g, 0, none⟩) m cap := by
    rcases he.own.2 with ⟨_, h9⟩ | ⟨g, cap, cur, h9, _⟩
    · omega
    · exact ⟨g, cap, by rw [h9, HM.out]⟩
  subst hvv
  obtain ⟨hblk, hglo, hglt, hmc, hcm, _⟩ := he.own.blk
  have hEg : E ≠ g := fun e => he.sep (by rw [e]; rfl)
  have HE : Hid (EmIs lo w E (.slice (some ⟨g, 0, none⟩) m cap) l) := he
  have hElt := he.cells.2.2.2
  obtain ⟨w0, hw0⟩ : ∃ W, w.alloc (.cells (numC 16 bg) 67) = W := ⟨_, rfl⟩
  have HB0 : Hid (Below w.heap.size w w0) := by show Below _ _ _; rw [← hw0]; exact Bel.alloc _ _
  have HA0 : Hid (AimE lo w0 E g m cap w.heap.size 0 l bg) := by
    have hb0 := HB0.out
    refine ⟨(hb0.block E hElt).trans he.box, by rw [← hw0]; exact World.alloc_heap_new _ _, hblk.keep hb0, fun j x hx => ?_⟩
    rw [if_neg (by omega)]
    obtain ⟨a9, c9, e9, h9⟩ := he.own.row
    obtain ⟨g9, e10, _, _, h11, _⟩ := h9 hp
    rw [e10] at e9
    simp at e9
    rw [e9.1]
    exact (h11 j x hx).keep (Keeps.of_below hb0 0) (Nat.zero_le _)
  have HT : Hid (FTab w) := hT
  have HO : Hid (OpsIn l) := ho
  have HJ : Hid (∀ x ∈ l, jumpE x = true → 0 ≤ x.n ∧ x.n < 16) := hj
  have hBg : w.heap.size ≠ g := by omega
  have e0 : w0.cell? ⟨E, 0, none⟩ = some (.slice (some ⟨g, 0, none⟩) m cap) := by have h9 := HA0.out.box; simp [World.cell?, h9]
  rw [HM.out] at hp hn
  clear he hT ho hj hblk
  go_enter Tryz.func48, Tryz.ntmps48
  go_wp2_with fail
  try rw [hw0]
  clear hw0 e0
  go_loopw [11] (fun i wr => ∃ k : Nat, k ≤ m ∧ i = .int .i64 k ∧ AimE lo wr E g m cap w.heap.size k l bg ∧ Below lo w wr) (fun i _ => m - (intOf i).toNat)
  case atStart => exact ⟨0, Nat.zero_le _, rfl, HA0.out, HB0.out.mono hlo⟩
  case round =>
    obtain ⟨k, hk, rfl, ha, hb⟩ := hrel
    have HA : Hid (AimE lo wr E g m cap w.heap.size k l bg) := ha
    have HB : Hid (Below lo w wr) := hb
    clear hb
    by_cases hlt : (k : Int) < (m : Int)
    · obtain ⟨x, HX⟩ : ∃ x, Hid (l[k]? = some x) := ⟨l[k]'(by have := HM.out; omega), List.getElem?_eq_getElem _⟩
      have hcx := ha.each k x HX.out
      rw [if_neg (by omega)] at hcx
      have HXO : Hid (-9223372036854775808 ≤ x.op ∧ x.op ≤ 9223372036854775807) := HO.out.at HX.out
      have HXJ : Hid (jumpE x = true → 0 ≤ x.n ∧ x.n < 16) := HJ.out x (List.mem_of_getElem? HX.out)
      obtain ⟨x0, x1, x2, x3, x4⟩ := x
      obtain ⟨c0, c1, c2, c3, c4⟩ := hcx
      dsimp only at c0 c1 c2 c3 c4 HXO HXJ
      clear ha
      go_wp2_with fail
      obtain ⟨w1, hw1⟩ : ∃ W, wr.alloc (.cells #[.int .i64 x0, .int .i64 x1, .int .i64 x2, .int .i64 x3, .int .i64 x4] 46) = W := ⟨_, rfl⟩
      have HB1 : Hid (Below wr.heap.size wr w1) := by show Below _ _ _; rw [← hw1]; exact Bel.alloc _ _
      have HX1 : Hid (w1.heap[wr.heap.size]? = some (.cells #[.int .i64 x0, .int .i64 x1, .int .i64 x2, .int .i64 x3, .int .i64 x4] 46 (0, 0))) := by show _ = _; rw [← hw1]; exact World.alloc_heap_new _ _
      try rw [hw1]
      clear hw1 c0 c1 c2 c3 c4
      obtain ⟨q, HQ⟩ : ∃ q, Hid (decide (x0 = 9 ∨ x0 = 10) = q) := ⟨_, rfl⟩
      have hlo1 : lo ≤ wr.heap.size := Nat.le_trans hlo HB.out.size
      refine (namesPlace_any x0 _ HXO.out ((HT.out.under HB.out h0).keep HB1.out)).mono ?_
      rw [HQ.out]
      rintro e w2 ⟨rfl, b2⟩
      have HA2 : Hid (AimE lo w2 E g m cap w.heap.size k l bg) := (HA.out.keep HB1.out).keep b2
      have HB2 : Hid (Below lo w w2) := HB.out.trans ((Bel.after HB1.out b2).mono hlo1)
      have hX2 := (b2.block _ (Array.getElem?_eq_some_iff.1 HX1.out).1).trans HX1.out
      have d4 : w2.cell? ⟨wr.heap.size, 4, none⟩ = some (.int .i64 x4) := by simp [World.cell?, hX2]
      clear b2 hX2
      cases q with
      | false =>
        have HN : Hid (AimE lo w2 E g m cap w.heap.size (k + 1) l bg) := HA2.out.plain HX.out HQ.out
        clear d4
        go_wp2
        go_roundw
        case rel => exact ⟨k + 1, by omega, by go_num, HN.out, HB2.out⟩
        case measure => simp [intOf]; omega
      | true =>
        obtain ⟨q, hq⟩ : ∃ q : Nat, x4 = (q : Int) := ⟨x4.toNat, by have := HXJ.out HQ.out; omega⟩
        subst hq
        have hq16 : q < 16 := by have := HXJ.out HQ.out; omega
        have hq17 : (q : Int) < 16 := by omega
        have f0 : w2.cell? ⟨E, 0, none⟩ = some (.slice (some ⟨g, 0, none⟩) m cap) := by have h9 := HA2.out.box; simp [World.cell?, h9]
        have f1 : w2.cell? ⟨w.heap.size, q, none⟩ = some (.int .i64 (bg q)) := by
          have h9 := HA2.out.beg
          simp only [World.cell?, h9]
          simpa using numC_at (f := bg) hq16
        have HN : Hid (AimE lo (w2.drew.setCell ⟨g, k * 5 + 4, none⟩ (.int .i64 (bg q))) E g m cap w.heap.size (k + 1) l bg) := (HA2.out.keep ((Below.refl _ w2).drew)).jump hEg hBg HX.out HQ.out
        obtain ⟨⟨u9, g9⟩, z9⟩ := HA2.out.blk.cell (j := k * 5 + 4) (by omega)
        go_wp2_with fail
        refine wp_region_held_drew (S := fun w' => w'.cell? ⟨E, 0, none⟩ = some (.slice (some ⟨g, 0, none⟩) m cap) ∧ w'.cell? ⟨wr.heap.size, 4, none⟩ = some (.int .i64 (q : Int)) ∧ w'.cell? ⟨w.heap.size, q, none⟩ = some (.int .i64 (bg q))) (by kernel_rfl) ⟨f0, d4, f1⟩ (fun hHeld => ?_)
        refine wpAnyH_take (i := 0) (oi := { dst := some 19, op := Go.Op.move (Go.Operand.tmp 0), type := 65, pos := "l15_emit.go:143", after := #[], guard := none }) (v := ?_) rfl (by kernel_rfl) (by kernel_rfl) (by kernel_rfl) (fun _ _ _ h => h) (Or.inl ⟨by rfl, ?_⟩) (by assumption) ?_
        rotate_left
        · intro w hSw
          (try dsimp only at hSw)
          go_simp
          (try with_reducible rfl)
        try simp only [Act.put, List.setIfInBounds_toArray, List.set_cons_zero, List.set_cons_succ]
        refine wpAnyH_take (i := 1) (oi := { dst := some 20, op := Go.Op.nilCheck (Go.Operand.tmp 19), type := 0, pos := "l15_emit.go:143", after := #[{ on := 0, ground := Go.Ground.data }], guard := none }) (v := ?_) rfl (by kernel_rfl) (by kernel_rfl) (by kernel_rfl) (fun _ _ _ h => h) (Or.inl ⟨by rfl, ?_⟩) (by assumption) ?_
        rotate_left
        · intro w hSw
          (try dsimp only at hSw)
          go_simp
          (try with_reducible rfl)
        try simp only [Act.put, List.setIfInBounds_toArray, List.set_cons_zero, List.set_cons_succ]
        refine wpAnyH_take (i := 2) (oi := { dst := some 21, op := Go.Op.fieldAddr 70 (Go.Operand.tmp 20) 0, type := 0, pos := "l15_emit.go:143", after := #[{ on := 1, ground := Go.Ground.data }], guard := none }) (v := ?_) rfl (by kernel_rfl) (by kernel_rfl) (by kernel_rfl) (fun _ _ _ h => h) (Or.inl ⟨by rfl, ?_⟩) (by assumption) ?_
        rotate_left
        · intro w hSw
          (try dsimp only at hSw)
          go_simp
          (try with_reducible rfl)
        try simp only [Act.put, List.setIfInBounds_toArray, List.set_cons_zero, List.set_cons_succ]
        refine wpAnyH_take (i := 3) (oi := { dst := some 22, op := Go.Op.load 28 (Go.Operand.tmp 21), type := 28, pos := "l15_emit.go:143", after := #[{ on := 2, ground := Go.Ground.data }], guard := none }) (v := ?_) rfl (by kernel_rfl) (by kernel_rfl) (by kernel_rfl) (fun _ _ _ h => h) (Or.inl ⟨by rfl, ?_⟩) (by assumption) ?_
        rotate_left
        · intro w hSw
          (try dsimp only at hSw)
          go_simp
          (try with_reducible rfl)
        try simp only [Act.put, List.setIfInBounds_toArray, List.set_cons_zero, List.set_cons_succ]
        refine wpAnyH_take (i := 4) (oi := { dst := some 23, op := Go.Op.move (Go.Operand.tmp 4), type := 3, pos := "l15_emit.go:143", after := #[], guard := none }) (v := ?_) rfl (by kernel_rfl) (by kernel_rfl) (by kernel_rfl) (fun _ _ _ h => h) (Or.inl ⟨by rfl, ?_⟩) (by assumption) ?_
        rotate_left
        · intro w hSw
          (try dsimp only at hSw)
          go_simp
          (try with_reducible rfl)
        try simp only [Act.put, List.setIfInBounds_toArray, List.set_cons_zero, List.set_cons_succ]
        refine wpAnyH_take (i := 5) (oi := { dst := some 24, op := Go.Op.fieldAddr 46 (Go.Operand.tmp 5) 4, type := 0, pos := "l15_emit.go:143", after := #[], guard := none }) (v := ?_) rfl (by kernel_rfl) (by kernel_rfl) (by kernel_rfl) (fun _ _ _ h => h) (Or.inl ⟨by rfl, ?_⟩) (by assumption) ?_
        rotate_left
        · intro w hSw
          (try dsimp only at hSw)
          go_simp
          (try with_reducible rfl)
        try simp only [Act.put, List.setIfInBounds_toArray, List.set_cons_zero, List.set_cons_succ]
        refine wpAnyH_take (i := 6) (oi := { dst := some 25, op := Go.Op.load 3 (Go.Operand.tmp 24), type := 3, pos := "l15_emit.go:143", after := #[{ on := 5, ground := Go.Ground.data }], guard := none }) (v := ?_) rfl (by kernel_rfl) (by kernel_rfl) (by kernel_rfl) (fun _ _ _ h => h) (Or.inl ⟨by rfl, ?_⟩) (by assumption) ?_
        rotate_left
        · intro w hSw
          (try dsimp only at hSw)
          go_simp
          (try with_reducible rfl)
        try simp only [Act.put, List.setIfInBounds_toArray, List.set_cons_zero, List.set_cons_succ]
        refine wpAnyH_take (i := 7) (oi := { dst := some 26, op := Go.Op.indexAddr 67 (Go.Operand.tmp 3) (Go.Operand.tmp 25), type := 0, pos := "l15_emit.go:143", after := #[{ on := 6, ground := Go.Ground.data }], guard := none }) (v := ?_) rfl (by kernel_rfl) (by kernel_rfl) (by kernel_rfl) (fun _ _ _ h => h) (Or.inl ⟨by rfl, ?_⟩) (by assumption) ?_
        rotate_left
        · intro w hSw
          (try dsimp only at hSw)
          go_simp
          (try with_reducible rfl)
        try simp only [Act.put, List.setIfInBounds_toArray, List.set_cons_zero, List.set_cons_succ]
        refine wpAnyH_take (i := 8) (oi := { dst := some 27, op := Go.Op.load 3 (Go.Operand.tmp 26), type := 3, pos := "l15_emit.go:143", after := #[{ on := 7, ground := Go.Ground.data }], guard := none }) (v := ?_) rfl (by kernel_rfl) (by kernel_rfl) (by kernel_rfl) (fun _ _ _ h => h) (Or.inl ⟨by rfl, ?_⟩) (by assumption) ?_
        rotate_left
        · intro w hSw
          (try dsimp only at hSw)
          go_simp
          (try with_reducible rfl)
        try simp only [Act.put, List.setIfInBounds_toArray, List.set_cons_zero, List.set_cons_succ]
        refine wpAnyH_take (i := 9) (oi := { dst := some 28, op := Go.Op.indexAddr 28 (Go.Operand.tmp 22) (Go.Operand.tmp 23), type := 0, pos := "l15_emit.go:143", after := #[{ on := 3, ground := Go.Ground.data }, { on := 4, ground := Go.Ground.data }, { on := 0, ground := Go.Ground.phase }, { on := 1, ground := Go.Ground.phase }, { on := 2, ground := Go.Ground.phase }, { on := 3, ground := Go.Ground.phase }, { on := 4, ground := Go.Ground.phase }, { on := 5, ground := Go.Ground.phase }, { on := 6, ground := Go.Ground.phase }, { on := 7, ground := Go.Ground.phase }, { on := 8, ground := Go.Ground.phase }], guard := none }) (v := ?_) rfl (by kernel_rfl) (by kernel_rfl) (by kernel_rfl) (fun _ _ _ h => h) (Or.inl ⟨by rfl, ?_⟩) (by assumption) ?_
        rotate_left
        · intro w hSw
          (try dsimp only at hSw)
          go_simp
          (try with_reducible rfl)
        try simp only [Act.put, List.setIfInBounds_toArray, List.set_cons_zero, List.set_cons_succ]
        refine wpAnyH_take (i := 10) (oi := { dst := some 29, op := Go.Op.fieldAddr 46 (Go.Operand.tmp 28) 4, type := 0, pos := "l15_emit.go:143", after := #[{ on := 9, ground := Go.Ground.data }, { on := 0, ground := Go.Ground.phase }, { on := 1, ground := Go.Ground.phase }, { on := 2, ground := Go.Ground.phase }, { on := 3, ground := Go.Ground.phase }, { on := 4, ground := Go.Ground.phase }, { on := 5, ground := Go.Ground.phase }, { on := 6, ground := Go.Ground.phase }, { on := 7, ground := Go.Ground.phase }, { on := 8, ground := Go.Ground.phase }], guard := none }) (v := ?_) rfl (by kernel_rfl) (by kernel_rfl) (by kernel_rfl) (fun _ _ _ h => h) (Or.inl ⟨by rfl, ?_⟩) (by assumption) ?_
        rotate_left
        · intro w hSw
          (try dsimp only at hSw)
          go_simp
          (try with_reducible rfl)
        try simp only [Act.put, List.setIfInBounds_toArray, List.set_cons_zero, List.set_cons_succ]
        refine ckAnyH_oneK (i := 11) (o := { dst := none, op := Go.Op.store 3 (Go.Operand.tmp 29) (Go.Operand.tmp 27), type := 0, pos := "l15_emit.go:143", after := #[{ on := 10, ground := Go.Ground.data }, { on := 8, ground := Go.Ground.data }, { on := 0, ground := Go.Ground.phase }, { on := 1, ground := Go.Ground.phase }, { on := 2, ground := Go.Ground.phase }, { on := 3, ground := Go.Ground.phase }, { on := 4, ground := Go.Ground.phase }, { on := 5, ground := Go.Ground.phase }, { on := 6, ground := Go.Ground.phase }, { on := 7, ground := Go.Ground.phase }, { on := 8, ground := Go.Ground.phase }], guard := none }) rfl rfl (by kernel_rfl) (fun K9 hK9 => ?_)
        have g9d : w2.drew.cell? ⟨g, k * 5 + 4, none⟩ = some u9 := g9
        have z9d : w2.drew.frozen? ⟨g, k * 5 + 4, none⟩ = false := z9
        have hS9 : (w2.drew.setCell ⟨g, k * 5 + 4, none⟩ (.int .i64 (bg q))).cell? ⟨E, 0, none⟩ = some (.slice (some ⟨g, 0, none⟩) m cap) ∧ (w2.drew.setCell ⟨g, k * 5 + 4, none⟩ (.int .i64 (bg q))).cell? ⟨wr.heap.size, 4, none⟩ = some (.int .i64 (q : Int)) ∧ (w2.drew.setCell ⟨g, k * 5 + 4, none⟩ (.int .i64 (bg q))).cell? ⟨w.heap.size, q, none⟩ = some (.int .i64 (bg q)) := ⟨(World.cell?_of_block (a := ⟨E, 0, none⟩) (Below.heap_setCell _ _ _ E hEg)).trans hHeld.1, (World.cell?_of_block (a := ⟨wr.heap.size, 4, none⟩) (Below.heap_setCell _ _ _ wr.heap.size (by have := HB.out.size; show wr.heap.size ≠ g; omega))).trans hHeld.2.1, (World.cell?_of_block (a := ⟨w.heap.size, q, none⟩) (Below.heap_setCell _ _ _ w.heap.size hBg)).trans hHeld.2.2⟩
        refine wp_skipsE (w' := w2.drew.setCell ⟨g, k * 5 + 4, none⟩ (.int .i64 (bg q))) (by simp [execOp, go_sem, g9d, z9d]) (hK9 _ _ ⟨hS9, ?_⟩)
        clear hK9 hHeld hS9
        refine wpAnyH_done (by kernel_rfl) ?_ _
        simp only [Exit.inBlock, Exit.then]
        go_at_K
        have HB9 : Hid (Below lo w (w2.drew.setCell ⟨g, k * 5 + 4, none⟩ (.int .i64 (bg q)))) := HB2.out.drew.setCell (p := ⟨g, k * 5 + 4, none⟩) hglo _
        obtain ⟨w9, hw9⟩ : ∃ W, w2.drew.setCell ⟨g, k * 5 + 4, none⟩ (.int .i64 (bg q)) = W := ⟨_, rfl⟩
        rw [hw9] at HN HB9 ⊢
        clear hw9 g9 z9 g9d z9d f0 f1 d4
        go_wp2
        go_roundw
        case rel => exact ⟨k + 1, by omega, by go_num, HN.out, HB9.out⟩
        case measure => simp [intOf]; omega
    · have hkm : k = m := by omega
      subst hkm
      clear ha
      go_wp2
      refine ⟨rfl, _, results_none rfl _ _ _, _, rfl, ⟨HA.out.box, ?_, HE.out.lo⟩, HB.out⟩
      refine ownSteps_of HA.out.blk (by rw [List.length_map]; exact HM.out) hmc hcm hglo (fun i x hx => ?_)
      rw [List.getElem?_map] at hx
      cases e9 : l[i]? with
      | none => rw [e9] at hx; simp at hx
      | some z =>
        rw [e9] at hx
        simp at hx
        subst hx
        have h9 := HA.out.each i z e9
        rw [if_pos (by have h8 := (List.getElem?_eq_some_iff.1 e9).1; have := HM.out; omega)] at h9
        exact h9
end Go.Proofs.YtkejplddeelahaaGreatDoor
