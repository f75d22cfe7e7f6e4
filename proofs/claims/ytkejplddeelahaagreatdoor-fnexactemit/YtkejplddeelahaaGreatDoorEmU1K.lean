/- Code from homes: the model's end of a block, and its rows while code is made. -/
import Derived.Test.YtkejplddeelahaaGreatDoorKEmS
import Derived.Test.YtkejplddeelahaaGreatDoorEmtMatK
import Derived.Test.YtkejplddeelahaaGreatDoorKMake
import Derived.Test.YtkejplddeelahaaGreatDoorKLast
namespace Go.Proofs.YtkejplddeelahaaGreatDoor
open Go.ChangeShapes Go.WideShapes Go.ChangeAt Go.RowKit
set_option linter.unusedVariables false

set_option maxRecDepth 100000 in
set_option maxHeartbeats 2000000 in
theorem l15Term_any (k a t e : Int) (w : World) (hk : k = 1 ∨ k = 2 ∨ k = 3) (ha : k ≠ 1 → homeB a = true) :
    Calls Tryz.prog 52 #[.agg #[.int .i64 k, .int .i64 a, .int .i64 t, .int .i64 e]] w fun ee w' => GivesSteps w (termL ⟨k, a, t, e⟩) ee w' := by
  obtain ⟨w0, hw0⟩ : ∃ W, w.alloc (.cells #[.int .i64 k, .int .i64 a, .int .i64 t, .int .i64 e] 74) = W := ⟨_, rfl⟩
  have HB0 : Hid (Below w.heap.size w w0) := by show Below _ _ _; rw [← hw0]; exact Bel.alloc _ _
  have HX0 : Hid (w0.heap[w.heap.size]? = some (.cells #[.int .i64 k, .int .i64 a, .int .i64 t, .int .i64 e] 74 (0, 0))) := by show _ = _; rw [← hw0]; exact World.alloc_heap_new _ _
  have p0 : w0.cell? ⟨w.heap.size, 0, none⟩ = some (.int .i64 k) := by simp [World.cell?, HX0.out]
  have p1 : w0.cell? ⟨w.heap.size, 1, none⟩ = some (.int .i64 a) := by simp [World.cell?, HX0.out]
  have p2 : w0.cell? ⟨w.heap.size, 2, none⟩ = some (.int .i64 t) := by simp [World.cell?, HX0.out]
  have p3 : w0.cell? ⟨w.heap.size, 3, none⟩ = some (.int .i64 e) := by simp [World.cell?, HX0.out]
  have hs0 : w.heap.size ≤ w0.heap.size := HB0.out.size
  have HS0 : Hid (w.heap.size ≤ w0.heap.size) := hs0
  clear hs0
  rcases hk with rfl | rfl | rfl
  · go_enter Tryz.func52, Tryz.ntmps52
    go_wp2
    try rw [hw0]
    go_ret
    exact ⟨_, rfl, (ownSteps_one w0 9 0 0 0 t).low HS0.out, Bel.after HB0.out (Bel.alloc _ _)⟩
  · obtain ⟨r, HRR⟩ : ∃ r, Hid (takeR a 4 = r) := ⟨_, rfl⟩
    obtain ⟨T, HTT⟩ : ∃ T, Hid (takeL a 4 = T) := ⟨_, rfl⟩
    have HE9 : Hid (termL ⟨2, a, t, e⟩ = T ++ [⟨10, 0, r, 0, e⟩, ⟨9, 0, 0, 0, t⟩]) := by show _ = _; unfold termL; simp [HRR.out, HTT.out]
    have hTl : T.length ≤ 1 := by rw [← HTT.out]; exact takeL_len a 4
    go_enter Tryz.func52, Tryz.ntmps52
    go_wp2_with fail
    try rw [hw0]
    refine (l15Take_any a 4 _ (ha (by omega))).mono ?_
    rw [HRR.out, HTT.out]
    rintro ee w1 ⟨ta, tc, rfl, ot, b1⟩
    have HO1 : Hid (OwnSteps w1 w0.heap.size (.slice ta T.length tc) T) := ot
    have HB1 : Hid (Below w.heap.size w w1) := Bel.after HB0.out b1
    have d2 := Bel.keeps b1 p2
    have d3 := Bel.keeps b1 p3
    have HS1 : Hid (w0.heap.size ≤ w1.heap.size) := b1.size
    clear ot b1 p0 p1 p2 p3 hw0
    obtain ⟨tl, HTL⟩ : ∃ tl, Hid (T.length = tl) := ⟨_, rfl⟩
    rw [HTL.out] at HO1 hTl ⊢
    obtain ⟨v', w2, hrun, ho2, hg2, _⟩ := add_steps w0.heap.size (.slice ta tl tc) (.slice (some ⟨w1.heap.size, 0, none⟩) 2 2) T [⟨10, 0, r, 0, e⟩, ⟨9, 0, 0, 0, t⟩] (w1.alloc (.cells #[.int .i64 10, .int .i64 0, .int .i64 r, .int .i64 0, .int .i64 e, .int .i64 9, .int .i64 0, .int .i64 0, .int .i64 0, .int .i64 t] 46)) (HO1.out.keep (Bel.alloc _ _)) (by have := HS1.out; simp; omega) (ownSteps_two w1 10 0 r 0 e 9 0 0 0 t).at (by have := HTL.out; simp; omega) 28
    have HRUN : Hid (∀ ty, (Builtin.append_ #[28, 28] ty #[.slice ta tl tc, .slice (some ⟨w1.heap.size, 0, none⟩) 2 2]).run Tryz.prog (w1.alloc (.cells #[.int .i64 10, .int .i64 0, .int .i64 r, .int .i64 0, .int .i64 e, .int .i64 9, .int .i64 0, .int .i64 0, .int .i64 0, .int .i64 t] 46)) = .ok v' w2) := fun ty => hrun
    have HO2 : Hid (OwnSteps w2 w.heap.size v' (T ++ [⟨10, 0, r, 0, e⟩, ⟨9, 0, 0, 0, t⟩])) := ho2.low HS0.out
    have HB2 : Hid (Below w.heap.size w w2) := (HB1.out.alloc (by have := HS1.out; have := HS0.out; omega) _).trans (((HO1.out.keep (Bel.alloc _ _)).under (by have := HS1.out; simp; omega) hg2).mono HS0.out)
    clear hrun ho2 hg2
    go_wp2_with (at_builtin; refine wpList_appendS _ rfl _ _ 28 28 rfl _ _ _ _ rfl rfl (HRUN.out _) ?_)
    go_ret
    exact ⟨_, rfl, by rw [HE9.out]; exact HO2.out, HB2.out⟩
  · obtain ⟨r, HRR⟩ : ∃ r, Hid (takeR a 4 = r) := ⟨_, rfl⟩
    obtain ⟨T, HTT⟩ : ∃ T, Hid (takeL a 4 = T) := ⟨_, rfl⟩
    have HE9 : Hid (termL ⟨3, a, t, e⟩ = T ++ [⟨11, 0, r, 0, 0⟩]) := by show _ = _; unfold termL; simp [HRR.out, HTT.out]
    have hTl : T.length ≤ 1 := by rw [← HTT.out]; exact takeL_len a 4
    go_enter Tryz.func52, Tryz.ntmps52
    go_wp2_with fail
    try rw [hw0]
    refine (l15Take_any a 4 _ (ha (by omega))).mono ?_
    rw [HRR.out, HTT.out]
    rintro ee w1 ⟨ta, tc, rfl, ot, b1⟩
    have HO1 : Hid (OwnSteps w1 w0.heap.size (.slice ta T.length tc) T) := ot
    have HB1 : Hid (Below w.heap.size w w1) := Bel.after HB0.out b1
    have HS1 : Hid (w0.heap.size ≤ w1.heap.size) := b1.size
    clear ot b1 p0 p1 p2 p3 hw0
    obtain ⟨tl, HTL⟩ : ∃ tl, Hid (T.length = tl) := ⟨_, rfl⟩
    rw [HTL.out] at HO1 hTl ⊢
    obtain ⟨v', w2, hrun, ho2, hg2, _⟩ := add_steps w0.heap.size (.slice ta tl tc) (.slice (some ⟨w1.heap.size, 0, none⟩) 1 1) T [⟨11, 0, r, 0, 0⟩] (w1.alloc (.cells #[.int .i64 11, .int .i64 0, .int .i64 r, .int .i64 0, .int .i64 0] 46)) (HO1.out.keep (Bel.alloc _ _)) (by have := HS1.out; simp; omega) (ownSteps_one w1 11 0 r 0 0).at (by have := HTL.out; simp; omega) 28
    have HRUN : Hid (∀ ty, (Builtin.append_ #[28, 28] ty #[.slice ta tl tc, .slice (some ⟨w1.heap.size, 0, none⟩) 1 1]).run Tryz.prog (w1.alloc (.cells #[.int .i64 11, .int .i64 0, .int .i64 r, .int .i64 0, .int .i64 0] 46)) = .ok v' w2) := fun ty => hrun
    have HO2 : Hid (OwnSteps w2 w.heap.size v' (T ++ [⟨11, 0, r, 0, 0⟩])) := ho2.low HS0.out
    have HB2 : Hid (Below w.heap.size w w2) := (HB1.out.alloc (by have := HS1.out; have := HS0.out; omega) _).trans (((HO1.out.keep (Bel.alloc _ _)).under (by have := HS1.out; simp; omega) hg2).mono HS0.out)
    clear hrun ho2 hg2
    go_wp2_with (at_builtin; refine wpList_appendS _ rfl _ _ 28 28 rfl _ _ _ _ rfl rfl (HRUN.out _) ?_)
    go_ret
    exact ⟨_, rfl, by rw [HE9.out]; exact HO2.out, HB2.out⟩

/-- The model's rows while code is made: the program's box, the order, where blocks begin, the code. -/
structure SpE (w0 w : World) (X : Nat) (u sv v : Value) (l : List InsD) (o : List Int) (n : Nat) (bg : Nat → Int) (bv : Value) (vals : Int) : Prop where
  bel : Below w0.heap.size w0 w
  fb : w.heap[X]? = some (.cells #[bv, .int .i64 vals] 26 (0, 0))
  ord : OwnInts w w0.heap.size u o
  st : OwnInts w w0.heap.size sv (listN n bg)
  out : OwnSteps w w0.heap.size v l
  ne : ∀ g, u.ownBlock = some g → sv.ownBlock ≠ some g
section
variable {w0 w w' : World} {X : Nat} {u sv v v' : Value} {l l' : List InsD} {o : List Int} {n : Nat} {bg : Nat → Int} {bv : Value} {vals : Int}
theorem OwnInts.byRow (h : OwnInts w w0.heap.size u o) (hv : OwnSteps w w0.heap.size v l) (hg : w.grownBy w' v.ownBlock) : OwnInts w' w0.heap.size u o := by
  obtain ⟨h0, h1⟩ := h
  refine ⟨h0, ?_⟩
  rcases h1 with h1 | ⟨g, cap, cur, e, hlo, hgb, h2⟩
  · exact .inl h1
  · refine .inr ⟨g, cap, cur, e, hlo, (hg.block g (Array.getElem?_eq_some_iff.1 hgb).1 (fun ee => ?_)).trans hgb, h2⟩
    rcases hv.2 with ⟨eu, _⟩ | ⟨g', cap', cur', eu, _, hgb', _⟩
    · rw [eu] at ee; simp [Value.ownBlock] at ee
    · rw [eu] at ee
      simp [Value.ownBlock] at ee
      rw [← ee, hgb] at hgb'
      simp at hgb'
theorem SpE.grow (h : SpE w0 w X u sv v l o n bg bv vals) (hb : Below w.heap.size w w') : SpE w0 w' X u sv v l o n bg bv vals :=
  ⟨Bel.after h.bel hb, (hb.block _ (Array.getElem?_eq_some_iff.1 h.fb).1).trans h.fb, h.ord.keep hb, h.st.keep hb, h.out.keep hb, h.ne⟩
theorem SpE.add (h : SpE w0 w X u sv v l o n bg bv vals) (ho : OwnSteps w' w0.heap.size v' l') (hg : w.grownBy w' v.ownBlock) : SpE w0 w' X u sv v' l' o n bg bv vals := by
  have hne : some X ≠ v.ownBlock := fun e9 => by
    rcases h.out.2 with ⟨e8, _⟩ | ⟨g8, c8, cur8, e8, _, hg8, _⟩
    · rw [e8] at e9; simp [Value.ownBlock] at e9
    · rw [e8] at e9
      simp [Value.ownBlock] at e9
      rw [← e9, h.fb] at hg8
      simp at hg8
  exact ⟨h.bel.trans (h.out.under h.bel.size hg), (hg.block _ (Array.getElem?_eq_some_iff.1 h.fb).1 hne).trans h.fb, h.ord.byRow h.out hg, h.st.byRow h.out hg, ho, h.ne⟩
theorem SpE.begin {sg m c : Nat} (h : SpE w0 w X u (.slice (some ⟨sg, 0, none⟩) m c) v l o n bg bv vals) {b : Nat} (hb : b < m) (z : Int) : SpE w0 (w.setCell ⟨sg, b, none⟩ (.int .i64 z)) X u (.slice (some ⟨sg, 0, none⟩) m c) v l o n (updN bg b z) bv vals := by
  obtain ⟨cc, hsg⟩ := h.st.heapOf
  have hoth : ∀ g, g ≠ sg → (w.setCell ⟨sg, b, none⟩ (.int .i64 z)).heap[g]? = w.heap[g]? := fun g hg => Below.heap_setCell _ _ _ g hg
  refine ⟨h.bel.setCell (p := ⟨sg, b, none⟩) (World.ownsRow.lt h.st sg rfl).1 _, (hoth X (fun e => ?_)).trans h.fb, h.ord.apartSet (fun e => h.ne sg e rfl) _, ?_, ?_, h.ne⟩
  · have h9 := h.fb
    rw [e, hsg] at h9
    simp at h9
  · rw [← listN_set]
    exact h.st.setAt hb z
  · obtain ⟨h0, h1⟩ := h.out
    refine ⟨h0, ?_⟩
    rcases h1 with h1 | ⟨g, cap, cur, e, hlo, hg, h2⟩
    · exact .inl h1
    · refine .inr ⟨g, cap, cur, e, hlo, (hoth g (fun ee => ?_)).trans hg, h2⟩
      rw [ee, hsg] at hg
      simp at hg
end
end Go.Proofs.YtkejplddeelahaaGreatDoor
