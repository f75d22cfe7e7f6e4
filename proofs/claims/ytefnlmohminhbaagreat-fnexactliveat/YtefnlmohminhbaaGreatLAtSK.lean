/- What is needed at a place: the answer, and the model's LiveAt. -/
import Derived.Test.YtefnlmohminhbaaGreatLFaceK
import Derived.Test.YtefnlmohminhbaaGreatKLast
import Derived.Test.YtefnlmohminhbaaGreatCmOneK
namespace Go.Proofs.YtefnlmohminhbaaGreat
open Go.ChangeShapes Go.WideShapes Go.ChangeAt Go.RowKit Go.Shelf
set_option linter.unusedVariables false

theorem runCallL1 {P : Program} {o : Oper} {a : Act} {f : FuncId} {x : Operand} {ts : Array TypeId} (ho : o.op = Op.call { callee := Callee.value (Operand.func f), args := #[x], argTypes := ts }) {u : Value} (hx : a.eval x = u) (he : ∀ args w, (callFunc f args).run P w = .ok (.enter f args) w) (w : World) : (execOp a.eval o).run P w = .ok (.enter f #[u]) w := by
  simp [execOp, ho, resolve, invoke, Act.eval, go_sem, he]
  simp [Act.eval] at hx
  simp [hx]
theorem runCallL4 {P : Program} {o : Oper} {a : Act} {f : FuncId} {x y z t : Operand} {ts : Array TypeId} (ho : o.op = Op.call { callee := Callee.value (Operand.func f), args := #[x, y, z, t], argTypes := ts }) {u v r q : Value} (hx : a.eval x = u) (hy : a.eval y = v) (hz : a.eval z = r) (ht : a.eval t = q) (he : ∀ args w, (callFunc f args).run P w = .ok (.enter f args) w) (w : World) : (execOp a.eval o).run P w = .ok (.enter f #[u, v, r, q]) w := by
  simp [execOp, ho, resolve, invoke, Act.eval, go_sem, he]
  simp [Act.eval] at hx hy hz ht
  simp [hx, hy, hz, ht]
/-- There is such a place in a plain program. -/
def PlaceIn (F : FnD) (b i : Int) (x : BlockD) : Prop := FnPlain F ∧ 0 ≤ b ∧ F.blocks[b.toNat]? = some x ∧ 0 ≤ i ∧ i ≤ (x.list.length : Int)
open Classical in
noncomputable def liveAtOf (F : FnD) (b i : Int) : List Int := if h : ∃ x, PlaceIn F b i x then atS h.choose (outF F (liveL F) b.toNat) i.toNat else []
theorem liveAtOf_yes {F : FnD} {b i : Int} {x : BlockD} (h : PlaceIn F b i x) : liveAtOf F b i = atS x (outF F (liveL F) b.toNat) i.toNat := by
  have he : ∃ x, PlaceIn F b i x := ⟨x, h⟩
  unfold liveAtOf
  rw [dif_pos he]
  have e : he.choose = x := by
    have h1 := he.choose_spec.2.2.1
    rw [h.2.2.1] at h1
    exact (Option.some.inj h1).symm
  rw [e]
theorem liveAtOf_no {F : FnD} {b i : Int} (h : ¬ ∃ x, PlaceIn F b i x) : liveAtOf F b i = [] := by
  unfold liveAtOf
  rw [dif_neg h]
theorem liveAt_len (F : FnD) (b i : Int) : (liveAtOf F b i).length ≤ 100 := by
  by_cases h : ∃ x, PlaceIn F b i x
  · obtain ⟨x, h⟩ := h
    rw [liveAtOf_yes h]
    have := atS_len x (outF F (liveL F) b.toNat) i.toNat
    omega
  · rw [liveAtOf_no h]; simp

set_option maxRecDepth 100000 in
set_option maxHeartbeats 8000000 in
theorem spec_liveAt (v : Value) (F : FnD) (b i : Int) (w : World) (hF : FnAt w v F) :
    Calls Tryz.prog 21 #[v, .int .i64 b, .int .i64 i] w fun e w' => GivesOwn w (liveAtOf F b i) e w' := by
  have HF : Hid (FnAt w v F) := hF
  obtain ⟨n, HN⟩ : ∃ n, Hid (F.blocks.length = n) := ⟨_, rfl⟩
  obtain ⟨vals, HV⟩ : ∃ x, Hid (F.values = x) := ⟨_, rfl⟩
  obtain ⟨ba, bcap, rfl⟩ := hF.out HN.out HV.out
  have hmost : n ≤ 9223372036854775807 := by rw [← HN.out]; exact hF.most
  clear hF
  obtain ⟨wA, hwA⟩ : ∃ wA, w.alloc (.cells #[.slice ba n bcap, .int .i64 vals] 26) = wA := ⟨_, rfl⟩
  have BA : Hid (Below w.heap.size w wA) := by rw [← hwA]; exact Bel.alloc _ _
  have a0 : wA.cell? ⟨w.heap.size, 0, none⟩ = some (.slice ba n bcap) := by rw [← hwA]; simp [go_sem]
  have a1 : wA.cell? ⟨w.heap.size, 1, none⟩ = some (.int .i64 vals) := by rw [← hwA]; simp [go_sem]
  go_enter Tryz.func21, Tryz.ntmps21
  go_wp2_with fail
  refine (spec_plainOk _ F _ (HF.out.later BA.out)).mono ?_
  rintro e w2 ⟨s, rfl, hs, b2⟩
  have HS : Hid (s = true ↔ FnPlain F) := hs
  have B2 : Hid (Below w.heap.size w w2) := Bel.after BA.out b2
  have c0 := Bel.keeps b2 a0
  have c1 := Bel.keeps b2 a1
  clear hs b2 a0 a1 hwA BA
  cases s
  · have HE : Hid (liveAtOf F b i = []) := liveAtOf_no (fun ⟨x, h⟩ => by have := HS.out.2 h.1; cases this)
    go_wp2_with fail
    go_ret
    rw [HE.out]
    exact ⟨_, rfl, (ownInts_new w2).low B2.out.size, B2.out.trans (Bel.alloc' _ _ B2.out.size)⟩
  · have hp : FnPlain F := HS.out.1 rfl
    have HP : Hid (FnPlain F) := hp
    obtain ⟨n', V, hv⟩ := plainV_of hp
    have en : n' = n := hv.len.symm.trans HN.out
    subst en
    have HPV : Hid (PlainV F n' V) := hv
    have h1 := hv.n1
    have h16 := hv.n16
    have hV8 := hv.v80
    clear hp hv
    go_wp2_with fail
    refine (l1In_block b n' w2).mono ?_
    rintro e w3 ⟨rfl, rfl⟩
    obtain ⟨t, HT⟩ : ∃ t, Hid (valIn (n' : Int) b = t) := ⟨_, rfl⟩
    rw [HT.out]
    cases t
    · have HE : Hid (liveAtOf F b i = []) := liveAtOf_no (fun ⟨x, h⟩ => by
        have h2 : b.toNat < F.blocks.length := (List.getElem?_eq_some_iff.1 h.2.2.1).1
        have h3 : valIn (n' : Int) b = true := valIn_iff.2 ⟨h.2.1, by have := HN.out; have := h.2.1; omega⟩
        rw [HT.out] at h3
        cases h3)
      go_wp2_with fail
      go_ret
      rw [HE.out]
      exact ⟨_, rfl, (ownInts_new w3).low B2.out.size, B2.out.trans (Bel.alloc' _ _ B2.out.size)⟩
    · obtain ⟨hb0, hbn⟩ := valIn_iff.1 HT.out
      obtain ⟨c, rfl⟩ : ∃ c : Nat, b = (c : Int) := ⟨b.toNat, by omega⟩
      have hcn : c < n' := by omega
      have hcl : c < F.blocks.length := by rw [HN.out]; exact hcn
      obtain ⟨x, HX⟩ : ∃ x, Hid (F.blocks[c]? = some x) := ⟨F.blocks[c], List.getElem?_eq_getElem hcl⟩
      have hF3 : FnAt w3 (.agg #[.slice ba n' bcap, .int .i64 vals]) F := HF.out.later B2.out
      have HF3 : Hid (FnAt w3 (.agg #[.slice ba n' bcap, .int .i64 vals]) F) := hF3
      obtain ⟨bb, off, hba, pv, lv, t0, t1, t2, t3, t4, t5, hpv, hlv⟩ := FnAt.blockC hF3 HN.out hcn HX.out
      subst hba
      obtain ⟨la, lcap, rfl, hlm, -⟩ := hlv
      obtain ⟨ln, HLN⟩ : ∃ z, Hid (x.list.length = z) := ⟨_, rfl⟩
      rw [HLN.out] at t1 hlm
      clear hF3 hcl hpv t0 t2 t3 t4 t5
      go_wp2_with fail
      refine (l1In_any i 0 ln w3).mono ?_
      rintro e w4 ⟨rfl, rfl⟩
      obtain ⟨t, HTI⟩ : ∃ t, Hid ((decide (0 ≤ i) && decide (i ≤ (ln : Int))) = t) := ⟨_, rfl⟩
      rw [HTI.out]
      cases t
      · have HE : Hid (liveAtOf F c i = []) := liveAtOf_no (fun ⟨y, h⟩ => by
          have e : y = x := by have h9 := h.2.2.1; simp at h9; rw [HX.out] at h9; exact (Option.some.inj h9).symm
          subst e
          have h3 : (decide (0 ≤ i) && decide (i ≤ (ln : Int))) = true := by have h4 := h.2.2.2; rw [HLN.out] at h4; simpa using h4
          rw [HTI.out] at h3
          cases h3)
        go_wp2_with fail
        go_ret
        rw [HE.out]
        exact ⟨_, rfl, (ownInts_new w4).low B2.out.size, B2.out.trans (Bel.alloc' _ _ B2.out.size)⟩
      · have h3 := HTI.out
        simp only [Bool.and_eq_true, decide_eq_true_eq] at h3
        obtain ⟨j, rfl⟩ : ∃ j : Nat, i = (j : Int) := ⟨i.toNat, by omega⟩
        have hjl : j ≤ x.list.length := by have := HLN.out; omega
        have HE : Hid (liveAtOf F c j = atS x (outF F (liveL F) c) j) := by
          have := @liveAtOf_yes F c j x ⟨HP.out, by omega, by simpa using HX.out, by omega, by omega⟩
          have h9 : liveAtOf F c j = atS x (outF F (liveL F) c) j := by simpa using this
          exact h9
        clear h3
        go_wp2_with fail
        refine wp_region_held_drew (S := (fun w' => w'.cell? ⟨w.heap.size, 0, none⟩ = some (.slice (some ⟨bb, off, none⟩) n' bcap) ∧ w'.cell? ⟨w.heap.size, 1, none⟩ = some (.int .i64 vals))) (by kernel_rfl) ⟨c0, c1⟩ (fun hHeld => ?_)
        refine wpAnyH_take (i := 0) (oi := { dst := some 32, op := Go.Op.load 26 (Go.Operand.tmp 3), type := 26, pos := "l11_live.go:108", after := #[], guard := none }) (v := ?_) rfl (by kernel_rfl) (by kernel_rfl) (by kernel_rfl) (fun _ _ _ h => h) (Or.inl ⟨by rfl, ?_⟩) (by assumption) ?_
        rotate_left
        · intro w hSw
          (try dsimp only at hSw)
          go_simp
          (try with_reducible rfl)
        try simp only [Act.put, List.setIfInBounds_toArray, List.set_cons_zero, List.set_cons_succ]
        refine wpAnyH_take (i := 1) (oi := { dst := some 33, op := Go.Op.move (Go.Operand.tmp 1), type := 3, pos := "l11_live.go:108", after := #[], guard := none }) (v := ?_) rfl (by kernel_rfl) (by kernel_rfl) (by kernel_rfl) (fun _ _ _ h => h) (Or.inl ⟨by rfl, ?_⟩) (by assumption) ?_
        rotate_left
        · intro w hSw
          (try dsimp only at hSw)
          go_simp
          (try with_reducible rfl)
        try simp only [Act.put, List.setIfInBounds_toArray, List.set_cons_zero, List.set_cons_succ]
        refine wpAnyH_take (i := 2) (oi := { dst := some 34, op := Go.Op.move (Go.Operand.tmp 2), type := 3, pos := "l11_live.go:108", after := #[], guard := none }) (v := ?_) rfl (by kernel_rfl) (by kernel_rfl) (by kernel_rfl) (fun _ _ _ h => h) (Or.inl ⟨by rfl, ?_⟩) (by assumption) ?_
        rotate_left
        · intro w hSw
          (try dsimp only at hSw)
          go_simp
          (try with_reducible rfl)
        try simp only [Act.put, List.setIfInBounds_toArray, List.set_cons_zero, List.set_cons_succ]
        refine wpAnyH_take (i := 3) (oi := { dst := some 35, op := Go.Op.load 26 (Go.Operand.tmp 3), type := 26, pos := "l11_live.go:108", after := #[], guard := none }) (v := ?_) rfl (by kernel_rfl) (by kernel_rfl) (by kernel_rfl) (fun _ _ _ h => h) (Or.inl ⟨by rfl, ?_⟩) (by assumption) ?_
        rotate_left
        · intro w hSw
          (try dsimp only at hSw)
          go_simp
          (try with_reducible rfl)
        try simp only [Act.put, List.setIfInBounds_toArray, List.set_cons_zero, List.set_cons_succ]
        refine ckAnyH_oneK (i := 4) (o := { dst := some 36, op := Go.Op.call { callee := Go.Callee.value (Go.Operand.func 43), args := #[Go.Operand.tmp 35], argTypes := #[26] }, type := 70, pos := "l11_live.go:108", after := #[{ on := 3, ground := Go.Ground.data }], guard := none }) rfl rfl (by kernel_rfl) (fun K9 hK9 => ?_)
        refine wp_call_of (f := 43) (args := #[.agg #[.slice (some ⟨bb, off, none⟩) n' bcap, .int .i64 vals]]) (runCallL1 rfl (by kernel_rfl) (enters_of Tryz.func43 (by kernel_rfl) rfl) _) (l11In_any _ F n' V w4.drew (HF3.out.later (Below.refl _ _).drew) HPV.out) ?_
        rintro e w5 ⟨mg, mc, rfl, hm, b5⟩
        have B5 : Hid (Below w4.heap.size w4 w5) := ((Below.refl _ w4).drew).trans b5
        have HM : Hid (MatO w5 w4.heap.size mg n' V (liveL F)) := hm
        refine ⟨_, rfl, hK9 _ _ ⟨⟨Bel.keeps B5.out c0, Bel.keeps B5.out c1⟩, ?_⟩⟩
        clear hm b5 hK9
        refine ckAnyH_oneK (i := 5) (o := { dst := some 37, op := Go.Op.call { callee := Go.Callee.value (Go.Operand.func 53), args := #[Go.Operand.tmp 32, Go.Operand.tmp 33, Go.Operand.tmp 34, Go.Operand.tmp 36], argTypes := #[26, 3, 3, 70] }, type := 73, pos := "l11_live.go:108", after := #[{ on := 0, ground := Go.Ground.data }, { on := 1, ground := Go.Ground.data }, { on := 2, ground := Go.Ground.data }, { on := 4, ground := Go.Ground.data }, { on := 4, ground := Go.Ground.chain }], guard := none }) rfl rfl (by kernel_rfl) (fun K9 hK9 => ?_)
        refine wp_call_of (f := 53) (args := #[.agg #[.slice (some ⟨bb, off, none⟩) n' bcap, .int .i64 vals], .int .i64 c, .int .i64 j, .slice (some ⟨mg, 0, none⟩) n' mc]) (runCallL4 rfl (by kernel_rfl) (by kernel_rfl) (by kernel_rfl) (by kernel_rfl) (enters_of Tryz.func53 (by kernel_rfl) rfl) _) (l11Before_any _ F c n' V mg mc j (liveL F) w5 (HF3.out.later B5.out) HN.out HPV.out.vals hV8 hcn (HPV.out.su c) HM.out.at x HX.out (HPV.out.ends c x HX.out) (HPV.out.uses c x HX.out) hjl) ?_
        rintro e w6 ⟨g6, cap6, rfl, ho6, b6⟩
        have B6 : Hid (Below w4.heap.size w4 w6) := Bel.after B5.out b6
        have O6 : Hid (OwnBools w6 w5.heap.size (.slice (some ⟨g6, 0, none⟩) V cap6) (bitsOf V (atS x (outF F (liveL F) c) j))) := ho6
        refine ⟨_, rfl, hK9 _ _ ⟨⟨Bel.keeps B6.out c0, Bel.keeps B6.out c1⟩, ?_⟩⟩
        clear ho6 b6 hK9
        refine ckAnyH_oneK (i := 6) (o := { dst := some 38, op := Go.Op.call { callee := Go.Callee.value (Go.Operand.func 44), args := #[Go.Operand.tmp 37], argTypes := #[73] }, type := 30, pos := "l11_live.go:108", after := #[{ on := 5, ground := Go.Ground.data }, { on := 5, ground := Go.Ground.chain }], guard := none }) rfl rfl (by kernel_rfl) (fun K9 hK9 => ?_)
        refine wp_call_of (f := 44) (args := #[.slice (some ⟨g6, 0, none⟩) V cap6]) (runCallL1 rfl (by kernel_rfl) (enters_of Tryz.func44 (by kernel_rfl) rfl) _) (l11List_any _ V cap6 _ w6 O6.out.at hV8) ?_
        rintro e w7 ⟨r, rfl, hr, b7⟩
        have B7 : Hid (Below w4.heap.size w4 w7) := Bel.after B6.out b7
        rw [upL_eq (V := V) (l := atS x (outF F (liveL F) c) j) (atS_ok _ _ _).1 (atS_ok _ _ _).2 (HPV.out.atV HX.out (outV (F := F) (liveV HPV.out) c) j)] at hr
        have O7 : Hid (OwnInts w7 w6.heap.size r (atS x (outF F (liveL F) c) j)) := hr
        refine ⟨_, rfl, hK9 _ _ ⟨⟨Bel.keeps B7.out c0, Bel.keeps B7.out c1⟩, ?_⟩⟩
        clear hr b7 hK9
        have hS7 : w7.cell? ⟨w.heap.size, 0, none⟩ = some (.slice (some ⟨bb, off, none⟩) n' bcap) ∧ w7.cell? ⟨w.heap.size, 1, none⟩ = some (.int .i64 vals) := ⟨Bel.keeps B7.out c0, Bel.keeps B7.out c1⟩
        refine wpAnyH_take (i := 7) (oi := { dst := some 6, op := Go.Op.assign (Go.Operand.tmp 38), type := 30, pos := "l11_live.go:108", after := #[{ on := 6, ground := Go.Ground.data }, { on := 6, ground := Go.Ground.chain }, { on := 0, ground := Go.Ground.phase }, { on := 1, ground := Go.Ground.phase }, { on := 2, ground := Go.Ground.phase }, { on := 3, ground := Go.Ground.phase }, { on := 4, ground := Go.Ground.phase }, { on := 5, ground := Go.Ground.phase }, { on := 6, ground := Go.Ground.phase }], guard := none }) (v := ?_) rfl (by kernel_rfl) (by kernel_rfl) (by kernel_rfl) (fun _ _ _ h => h) (Or.inl ⟨by rfl, ?_⟩) (by assumption) ?_
        rotate_left
        · intro w hSw
          (try dsimp only at hSw)
          go_simp
          (try with_reducible rfl)
        try simp only [Act.put, List.setIfInBounds_toArray, List.set_cons_zero, List.set_cons_succ]
        refine wpAnyH_done (by kernel_rfl) ?_ _
        clear hHeld
        simp only [Exit.then]
        go_at_K
        go_wp2_with fail
        go_ret
        rw [HE.out]
        exact ⟨_, rfl, O7.out.low (by have := B6.out.size; have := B2.out.size; omega), B2.out.trans (B7.out.mono B2.out.size)⟩
end Go.Proofs.YtefnlmohminhbaaGreat
