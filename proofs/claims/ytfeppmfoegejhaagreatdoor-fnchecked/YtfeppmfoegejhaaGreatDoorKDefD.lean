/- Where a value is made: the program's DefAt tells what the document says, for every program. The program's Dominates and Above. -/
import Derived.Test.YtfeppmfoegejhaaGreatDoorKMake
import Derived.Test.YtfeppmfoegejhaaGreatDoorKSh5
import Derived.Test.YtfeppmfoegejhaaGreatDoorKRound
import Derived.Test.YtfeppmfoegejhaaGreatDoorKTab
namespace Go.Proofs.YtfeppmfoegejhaaGreatDoor
open Go.ChangeShapes Go.WideShapes Go.ChangeAt Go.RowKit Go.Shelf
set_option linter.unusedVariables false
attribute [local go_sem] Oper.semAt_some
def GivesTwo (w : World) (p : Int × Int) (e : Ending) (w' : World) : Prop := e = .returned (.tuple #[.int .i64 p.1, .int .i64 p.2]) ∧ Below w.heap.size w w'
section
variable {W : World} {s : Nat} {t : TypeId} {v v' : Value}
theorem two_heap (u u' : Value) {k : Nat} (h1 : k ≠ s + 1 + 1) (h2 : k ≠ s + 1 + 1 + 1) : ((W.setCell ⟨s + 1 + 1, 0, none⟩ u).setCell ⟨s + 1 + 1 + 1, 0, none⟩ u').heap[k]? = W.heap[k]? :=
 (Below.heap_setCell _ _ _ k (by intro e; exact h2 (by simpa using e))).trans (Below.heap_setCell _ _ _ k (by intro e; exact h1 (by simpa using e)))
theorem two_box1 {u u' : Value} (h : Boxed W (s + 1 + 1) t v) : Boxed ((W.setCell ⟨s + 1 + 1, 0, none⟩ u).setCell ⟨s + 1 + 1 + 1, 0, none⟩ u') (s + 1 + 1) t u :=
 (Below.heap_setCell _ _ _ _ (by simp)).trans (h.set u)
theorem two_box2 {u u' : Value} (_ : Boxed W (s + 1 + 1) t v) (h : Boxed W (s + 1 + 1 + 1) t v') : Boxed ((W.setCell ⟨s + 1 + 1, 0, none⟩ u).setCell ⟨s + 1 + 1 + 1, 0, none⟩ u') (s + 1 + 1 + 1) t u' :=
 Boxed.set u' (v := v') (show Boxed _ _ _ _ from (Below.heap_setCell _ _ _ _ (by simp)).trans h)
theorem two_keep {u u' : Value} (h : Boxed W (s + 1 + 1) t v) (h' : Boxed W (s + 1 + 1 + 1) t v') (k : Nat) (o : Obj) (hk : W.heap[k]? = some o) (ho : o.isCells = false) : ((W.setCell ⟨s + 1 + 1, 0, none⟩ u).setCell ⟨s + 1 + 1 + 1, 0, none⟩ u').heap[k]? = some o := by
 refine (two_heap u u' ?_ ?_).trans hk
 ·rintro rfl
  rw [show W.heap[s + 1 + 1]? = _ from h] at hk
  cases hk
  cases ho
 ·rintro rfl
  rw [show W.heap[s + 1 + 1 + 1]? = _ from h'] at hk
  cases hk
  cases ho
theorem two_below' {w : World} (h : Below w.heap.size w W) (u u' : Value) : Below w.heap.size w ((W.setCell ⟨w.heap.size + 1 + 1, 0, none⟩ u).setCell ⟨w.heap.size + 1 + 1 + 1, 0, none⟩ u') :=
 (h.setCell (p := ⟨w.heap.size + 1 + 1, 0, none⟩) (by simp <;> omega) _).setCell (p := ⟨w.heap.size + 1 + 1 + 1, 0, none⟩) (by simp <;> omega) _
end
theorem grownBy_keeps' {A B : World} {row : Option Nat} (hg : A.grownBy B row) (hr : ∀ r, row = some r → ∃ o : Obj, A.heap[r]? = some o ∧ o.isCells = false) {k : Nat} {c : Array Value} {t : TypeId} {z : Nat × Nat} (h : A.heap[k]? = some (.cells c t z)) : B.heap[k]? = A.heap[k]? :=
 hg.block k (Array.getElem?_eq_some_iff.1 h).1 (fun e => by
  obtain ⟨o, ho, hc⟩ := hr k e.symm
  rw [h] at ho
  cases ho
  cases hc)
set_option maxRecDepth 100000 in
set_option maxHeartbeats 8000000 in
theorem impl_defAt (v : Value) (F : FnD) (x : Int) (w : World) (hF : FnAt w v F) :
  Calls Tryz.prog 20 #[v, .int .i64 x] w fun e w' => GivesTwo w (defAtOf F x) e w' := by
 have HF : Hid (FnAt w v F) := hF
 obtain ⟨n, HN⟩ : ∃ n, Hid (F.blocks.length = n) := ⟨_, rfl⟩
 obtain ⟨ba, bcap, vals, rfl⟩ : ∃ ba bcap vals, v = .agg #[.slice ba n bcap, .int .i64 vals] := by
  obtain ⟨bv, rfl, a, cap, rfl, _, _⟩ := hF
  exact ⟨a, cap, F.values, by rw [HN.out]⟩
 clear hF
 refine (callsIn_wide (n := 5)).1 ?_
 refine callsIn_of_wp_marks Tryz.func20 rfl trivial ?_ rfl
 simp only [Tryz.ntmps20, List.size_toArray, List.length_cons, List.length_nil, Nat.reduceAdd, Nat.reduceSub, Array.replicate_succ, Array.replicate_zero, List.push_toArray, List.append_toArray, List.nil_append, List.cons_append]
 gi_wp2_with fail
 obtain ⟨W0, hW0⟩ : ∃ W0, (((w.alloc (.cells #[.slice ba n bcap, .int .i64 vals] 26)).alloc (.cells #[.int .i64 x] 3)).alloc (.cells #[.int .i64 0] 3)).alloc (.cells #[.int .i64 0] 3) = W0 := ⟨_, rfl⟩
 have hsz : W0.heap.size = w.heap.size + 4 := by rw [← hW0]; simp
 have hB0 : Below w.heap.size w W0 := by rw [← hW0]; repeat (first | exact Below.refl _ _ | apply Below.drew | refine Below.alloc ?_ (by simp <;> omega) _ | refine Below.setCell ?_ (by simp <;> omega) _)
 have f0 : W0.cell? ⟨w.heap.size, 0, none⟩ = some (.slice ba n bcap) := by rw [← hW0]; simp [go_sem]
 have f1 : W0.cell? ⟨w.heap.size, 1, none⟩ = some (.int .i64 vals) := by rw [← hW0]; simp [go_sem]
 have hx : Boxed W0 (w.heap.size + 1) 3 (.int .i64 x) := by
  rw [← hW0]
  have h := Boxed.new (w.alloc (.cells #[.slice ba n bcap, .int .i64 vals] 26)) 3 (.int .i64 x)
  rw [World.size_alloc] at h
  exact (h.alloc _).alloc _
 have hr1 : Boxed W0 (w.heap.size + 1 + 1) 3 (.int .i64 0) := by
  rw [← hW0]
  have h := Boxed.new ((w.alloc (.cells #[.slice ba n bcap, .int .i64 vals] 26)).alloc (.cells #[.int .i64 x] 3)) 3 (.int .i64 0)
  rw [World.size_alloc, World.size_alloc] at h
  exact h.alloc _
 have hr2 : Boxed W0 (w.heap.size + 1 + 1 + 1) 3 (.int .i64 0) := by
  rw [← hW0]
  have h := Boxed.new (((w.alloc (.cells #[.slice ba n bcap, .int .i64 vals] 26)).alloc (.cells #[.int .i64 x] 3)).alloc (.cells #[.int .i64 0] 3)) 3 (.int .i64 0)
  rw [World.size_alloc, World.size_alloc, World.size_alloc] at h
  exact h
 rw [hW0]
 clear hW0
 refine ⟨trivial, (callsIn_wide.2 (impl_shapeOk _ F _ (HF.out.later hB0))).mono ?_⟩
 rintro e w1 ⟨t, rfl, ht, b1⟩
 replace f0 := Bel.keeps b1 f0
 replace f1 := Bel.keeps b1 f1
 have hx1 : Boxed w1 (w.heap.size + 1) 3 (.int .i64 x) := (b1.block _ (by omega)).trans hx
 have hr11 : Boxed w1 (w.heap.size + 1 + 1) 3 (.int .i64 0) := (b1.block _ (by omega)).trans hr1
 have hr21 : Boxed w1 (w.heap.size + 1 + 1 + 1) 3 (.int .i64 0) := (b1.block _ (by omega)).trans hr2
 have hB1 : Below w.heap.size w w1 := Bel.after hB0 b1
 have hs1 : w.heap.size + 4 ≤ w1.heap.size := by have := b1.size; omega
 clear hx hr1 hr2 b1 hsz hB0
 have HT : Hid (t = true ↔ FnShape F) := ht
 clear ht
 cases t with
 | false =>
  have hno : ¬ FnShape F := fun h => by have := HT.out.2 h; cases this
  have HD : Hid (defAtOf F x = (-1, -2)) := defAtOf_no hno
  have c1 := hr11.cell
  have c2 := hr21.cell
  have g1 := hr11.frozen
  have g2 := hr21.frozen
  have HX1 : Hid (Below w.heap.size w w1) := hB1
  clear hB1 hx1 hr11 hr21 hno HT
  gi_wp2
  refine ⟨.tuple #[.int .i64 (-1), .int .i64 (-2)], ?_, by rw [HD.out], ?_⟩
  ·simp [results, Tryz.f20, go_sem, c1, c2]
  ·exact (HX1.out.setCell (p := ⟨w.heap.size + 1 + 1, 0, none⟩) (by simp <;> omega) _).setCell (p := ⟨w.heap.size + 1 + 1 + 1, 0, none⟩) (by simp <;> omega) _
 | true =>
  have HS : Hid (FnShape F) := HT.out.1 rfl
  clear HT
  gi_wp2_with fail
  refine ⟨trivial, (callsIn_wide.2 (makings_any _ _ ba n bcap vals rfl)).mono ?_⟩
  rintro e w2 ⟨rfl, hw2⟩
  obtain ⟨M, hM⟩ : ∃ M, w1.heap.size = M := ⟨_, rfl⟩
  have hb2 : Below w1.heap.size w1 w2 := by rw [hw2]; exact Bel.alloc _ _
  have m0 : w2.cell? ⟨M, 0, none⟩ = some (.slice ba n bcap) := by rw [hw2, ← hM]; simp [go_sem]
  have F2 : Hid (FnAt w2 (.agg #[.slice ba n bcap, .int .i64 vals]) F) := (HF.out.later hB1).later hb2
  have B2 : Hid (Below w.heap.size w w2) := Bel.after hB1 hb2
  have X2 : Hid (Boxed w2 (w.heap.size + 1) 3 (.int .i64 x)) := (hb2.block _ (by omega)).trans hx1
  have R12 : Hid (Boxed w2 (w.heap.size + 1 + 1) 3 (.int .i64 0)) := (hb2.block _ (by omega)).trans hr11
  have R22 : Hid (Boxed w2 (w.heap.size + 1 + 1 + 1) 3 (.int .i64 0)) := (hb2.block _ (by omega)).trans hr21
  have hs2 : w.heap.size + 4 ≤ w2.heap.size := by have := hb2.size; omega
  rw [hM]
  clear hw2 hb2 hB1 hx1 hr11 hr21 f0 f1 hM hs1 HF
  gi_wp2_with fail
  refine wpIn_rangeFunc_box (α := {m : Made // True}) rfl (by omega) (gf := 99) (lb := #[.pointer (some ⟨M, 0, none⟩)]) rfl trivial (enters_of Tryz.func99 (by kernel_rfl) rfl)
   (encs := fun m => #[.int .i64 m.1.1, .agg #[.int .i64 m.1.2.1, .int .i64 m.1.2.2]]) (Kp := KeepsCells) (S := fun (ys : List {m : Made // True}) => ys.map (fun m => m.1) = makesOf F) (Sp := fun (pre : List {m : Made // True}) => List.IsPrefix (pre.map (fun (m : {m : Made // True}) => (m.1 : Made))) (makesOf F)) (N := (makesOf F).length) (w0 := w2)
   (fun l J Jx W hW aJ _ hY h0 => making_seq (fun _ => True) 4 (by omega) l M F ba n bcap vals (fun _ _ => trivial) J Jx W aJ hY (F2.out.later hW) HN.out (Bel.keeps hW m0) h0) keepsC_t keepsC_b (Below.refl _ _) (fun _ => rfl)
   (fun pre W => firstV x (pre.map (fun m => m.1)) = none ∧ Boxed W (w.heap.size + 1) 3 (.int .i64 x) ∧ Boxed W (w.heap.size + 1 + 1) 3 (.int .i64 0) ∧ Boxed W (w.heap.size + 1 + 1 + 1) 3 (.int .i64 0) ∧ Below w.heap.size w W)
   (fun c pre W => ∃ (p0 : List {m : Made // True}) (y : {m : Made // True}), c = .ret ∧ pre = p0 ++ [y] ∧ firstV x (p0.map (fun m => m.1)) = none ∧ y.1.1 = x ∧ Boxed W (w.heap.size + 1 + 1) 3 (.int .i64 y.1.2.1) ∧ Boxed W (w.heap.size + 1 + 1 + 1) 3 (.int .i64 y.1.2.2) ∧ Below w.heap.size w W)
   (fun pre y a₁ W => ∃ b, a₁ = { tmps := #[.agg #[.slice ba n bcap, .int .i64 vals], .int .i64 x, .pointer (some ⟨w.heap.size, 0, none⟩), .pointer (some ⟨w.heap.size + 1, 0, none⟩), .pointer (some ⟨w.heap.size + 1 + 1, 0, none⟩), .pointer (some ⟨w.heap.size + 1 + 1 + 1, 0, none⟩), .int .i64 y.1.1, .pointer (some ⟨b, 0, none⟩), .agg #[.slice ba n bcap, .int .i64 vals], .bool true, .bool false, .agg #[.slice ba n bcap, .int .i64 vals], .func (.func 99) #[] #[.pointer (some ⟨M, 0, none⟩)], .int .i64 y.1.1, .agg #[.int .i64 y.1.2.1, .int .i64 y.1.2.2], undef, undef, undef, undef, undef, undef, undef], defers := [] } ∧ W.heap[b]? = some (.cells #[.int .i64 y.1.2.1, .int .i64 y.1.2.2] 90 (0, 0)) ∧
    firstV x (pre.map (fun m => m.1)) = none ∧ Boxed W (w.heap.size + 1) 3 (.int .i64 x) ∧ Boxed W (w.heap.size + 1 + 1) 3 (.int .i64 0) ∧ Boxed W (w.heap.size + 1 + 1 + 1) 3 (.int .i64 0) ∧ Below w.heap.size w W)
   ?ownI ?ownX ?ownA ⟨rfl, X2.out, R12.out, R22.out, B2.out⟩ ?assign ?body ?done ?stop
  case ownI =>
   intro s A B row hs hg hr
   obtain ⟨h1, h2, h3, h4, h5⟩ := hs
   exact ⟨h1, boxed_own (β := Unit) _ _ (fun _ => _) () A B row h2 hg (fun r e => (hr r e).2), boxed_own (β := Unit) _ _ (fun _ => _) () A B row h3 hg (fun r e => (hr r e).2), boxed_own (β := Unit) _ _ (fun _ => _) () A B row h4 hg (fun r e => (hr r e).2), h5.grown hg h5.size (fun k e => by have := (hr k e).1; omega)⟩
  case ownX =>
   intro c s A B row hs hg hr
   obtain ⟨p0, y, h1, h2, h3, h4, h5, h6, h7⟩ := hs
   exact ⟨p0, y, h1, h2, h3, h4, boxed_own (β := Unit) _ _ (fun _ => _) () A B row h5 hg (fun r e => (hr r e).2), boxed_own (β := Unit) _ _ (fun _ => _) () A B row h6 hg (fun r e => (hr r e).2), h7.grown hg h7.size (fun k e => by have := (hr k e).1; omega)⟩
  case ownA =>
   intro pre y a₁ s A B row hs hg hr
   obtain ⟨b, h0, h1, h2, h3, h4, h5, h6⟩ := hs
   refine ⟨b, h0, ?_, h2, boxed_own (β := Unit) _ _ (fun _ => _) () A B row h3 hg (fun r e => (hr r e).2), boxed_own (β := Unit) _ _ (fun _ => _) () A B row h4 hg (fun r e => (hr r e).2), boxed_own (β := Unit) _ _ (fun _ => _) () A B row h5 hg (fun r e => (hr r e).2), h6.grown hg h6.size (fun k e => by have := (hr k e).1; omega)⟩
   exact (grownBy_keeps' hg (fun r e => (hr r e).2) h1).trans h1
  case assign =>
   intro l pre y W K hI hK
   obtain ⟨h2, h3, h4, h5, h6⟩ := hI
   gi_wp2
   exact hK _ _ ⟨W.heap.size, rfl, World.alloc_heap_new _ _, h2, h3.alloc _, h4.alloc _, h5.alloc _, h6.alloc (h6.size) _⟩ ⟨by simp, fun k o _ hk _ => (Below.heap_alloc _ _ _ (Array.getElem?_eq_some_iff.1 hk).1).trans hk⟩ (keepsC_below (Bel.alloc _ _))
  case body =>
   rintro l pre y a₁ W ⟨b, rfl, hb, h2, h3, h4, h5, h6⟩ hlen
   have c3 := h3.cell
   by_cases he : y.1.1 = x
   ·have heb : (y.1.1 == x) = true := by simp [he]
    have c4 := h4.cell
    have c5 := h5.cell
    have g4 := h4.frozen
    have g5 := h5.frozen
    have b0 : W.cell? ⟨b, 0, none⟩ = some (.int .i64 y.1.2.1) := by simp [World.cell?, hb]
    have b1 : W.cell? ⟨b, 1, none⟩ = some (.int .i64 y.1.2.2) := by simp [World.cell?, hb]
    have n4 : b ≠ w.heap.size + 1 + 1 := by
     rintro rfl
     have := (show W.heap[w.heap.size + 1 + 1]? = _ from h4).symm.trans hb
     simp at this
    have n5 : b ≠ w.heap.size + 1 + 1 + 1 := by
     rintro rfl
     have := (show W.heap[w.heap.size + 1 + 1 + 1]? = _ from h5).symm.trans hb
     simp at this
    have H4 : Hid (Boxed W (w.heap.size + 1 + 1) 3 (.int .i64 0)) := h4
    have H5 : Hid (Boxed W (w.heap.size + 1 + 1 + 1) 3 (.int .i64 0)) := h5
    have H6 : Hid (Below w.heap.size w W) := h6
    have H2 : Hid (firstV x (pre.map (fun m => m.1)) = none) := h2
    have HE : Hid (y.1.1 = x) := he
    clear h2 h3 h4 h5 h6 hb he
    gi_wp2
    gi_region
    all_goals
     gi_wp2
     refine ⟨⟨by simp, fun k o _ hk ho => ?_⟩, pre, y, rfl, rfl, H2.out, HE.out, two_box1 H4.out, two_box2 H4.out H5.out, (two_below' H6.out _ _).drew⟩
     exact two_keep H4.out H5.out _ _ hk ho
   ·have heb : (y.1.1 == x) = false := by simp [he]
    gi_wp2
    refine ⟨KeepsFrom.refl _ _, keepsC_refl _, ?_, h3, h4, h5, h6⟩
    rw [List.map_append]
    exact firstV_miss h2 he
  case done =>
   rintro D ys W hD hS ⟨h2, h3, h4, h5, h6⟩ hK
   have c4 := h4.cell
   have c5 := h5.cell
   have g4 := h4.frozen
   have g5 := h5.frozen
   have HDe : Hid (defAtOf F x = (-1, -2)) := defAtOf_end HS.out (by rw [← hS]; exact h2)
   have K2 := (two_keep (u := .int .i64 (-1)) (u' := .int .i64 (-2)) h4 h5) D _ hK rfl
   gi_wp2
   refine ⟨by simp, .inl ⟨_, _, rfl, run_takeDeferred K2, ?_⟩⟩
   refine ⟨.tuple #[.int .i64 (-1), .int .i64 (-2)], ?_, by rw [HDe.out], ?_⟩
   ·have e1 := (boxed_own (β := Unit) _ _ (fun _ => _) () _ _ (some D) (two_box1 (u := .int .i64 (-1)) (u' := .int .i64 (-2)) h4) (grownBy_putObj' _ D (.deferred none)) (fun r e => by cases e; exact ⟨_, K2, rfl⟩)).cell
    have e2 := (boxed_own (β := Unit) _ _ (fun _ => _) () _ _ (some D) (two_box2 (u := .int .i64 (-1)) (u' := .int .i64 (-2)) h4 h5) (grownBy_putObj' _ D (.deferred none)) (fun r e => by cases e; exact ⟨_, K2, rfl⟩)).cell
    simp [results, Tryz.f20, go_sem, e1, e2]
   ·exact (two_below' h6 _ _).trans (belowK_b (w := w) (Nat.le_refl _) _ D _ _ (by omega) K2 rfl rfl)
  case stop =>
   rintro D c pre W hD hpre ⟨p0, y, rfl, rfl, h2, he, h4, h5, h6⟩ hK
   have HDe : Hid (defAtOf F x = y.1.2) := defAtOf_hit HS.out h2 he (by rw [List.map_append] at hpre; exact hpre)
   gi_wp2
   refine ⟨by simp, .inl ⟨_, _, rfl, run_takeDeferred hK, ?_⟩⟩
   refine ⟨.tuple #[.int .i64 y.1.2.1, .int .i64 y.1.2.2], ?_, by rw [HDe.out], ?_⟩
   ·have e1 := (boxed_own (β := Unit) _ _ (fun _ => _) () _ _ (some D) h4 (grownBy_putObj' _ D (.deferred none)) (fun r e => by cases e; exact ⟨_, hK, rfl⟩)).cell
    have e2 := (boxed_own (β := Unit) _ _ (fun _ => _) () _ _ (some D) h5 (grownBy_putObj' _ D (.deferred none)) (fun r e => by cases e; exact ⟨_, hK, rfl⟩)).cell
    simp [results, Tryz.f20, go_sem, e1, e2]
   ·exact h6.trans (belowK_b (w := w) (Nat.le_refl _) _ D _ _ (by omega) hK rfl rfl)
end Go.Proofs.YtfeppmfoegejhaaGreatDoor
namespace Go.Proofs.YtfeppmfoegejhaaGreatDoor
open Go.ChangeShapes Go.WideShapes Go.ChangeAt Go.RowKit Go.Shelf
set_option linter.unusedVariables false
theorem run_index_tab (T : Tab) {b : Nat} (hb : b < 16) (w : World) : (Instr.index 85 (tabV T) (.int .i64 (b : Int))).run Tryz.prog w = .ok (setV (T b)) w := by
 have h2 : (b : Int) < 16 := by omega
 have hp := part_set T hb w
 unfold tabV
 simp [Instr.index, asIntOf, Sem.run_bind, Tryz.sizeOf83, hp]
 intro hh
 omega
theorem dominatesOf_a {F : FnD} {a b : Int} {n : Nat} (hN : F.blocks.length = n) (h : valIn (n : Int) a = false) : dominatesOf F a b = false := by
 unfold dominatesOf
 rw [decide_eq_false_iff_not]
 rintro ⟨hS, h0, h1, h2, hd⟩
 have := (dom_lt hS hd).1
 rw [hN] at this
 rw [valIn_yes h0 (by omega)] at h
 cases h
theorem dominatesOf_b {F : FnD} {a b : Int} {n : Nat} (hN : F.blocks.length = n) (h : valIn (n : Int) b = false) : dominatesOf F a b = false := by
 unfold dominatesOf
 rw [decide_eq_false_iff_not]
 rintro ⟨hS, h0, h1, h2, hd⟩
 rw [hN] at h2
 rw [valIn_yes h1 h2] at h
 cases h
theorem dominatesOf_yes {F : FnD} (hS : FnShape F) {a b : Nat} (hb : b < F.blocks.length) : dominatesOf F a b = domB F a b := by
 unfold dominatesOf
 rw [Bool.eq_iff_iff, domB_iff]
 simp
 constructor
 ·rintro ⟨_, _, h⟩
  exact h
 ·intro h
  exact ⟨hS, hb, h⟩
set_option maxRecDepth 100000 in
set_option maxHeartbeats 4000000 in
theorem impl_dominates (v : Value) (F : FnD) (a b : Int) (w : World) (hF : FnAt w v F) :
  Calls Tryz.prog 21 #[v, .int .i64 a, .int .i64 b] w fun e w' => e = .returned (.bool (dominatesOf F a b)) ∧ Below w.heap.size w w' := by
 have HF : Hid (FnAt w v F) := hF
 obtain ⟨n, HN⟩ : ∃ n, Hid (F.blocks.length = n) := ⟨_, rfl⟩
 obtain ⟨vals, HV⟩ : ∃ x, Hid (F.values = x) := ⟨_, rfl⟩
 obtain ⟨ba, bcap, rfl⟩ := hF.out HN.out HV.out
 clear hF
 go_enter Tryz.func21, Tryz.ntmps21
 go_wp2_with fail
 refine (impl_shapeOk _ F _ (HF.out.later (by repeat (first | exact Below.refl _ _ | apply Below.drew | refine Below.alloc ?_ (by simp <;> omega) _ | refine Below.setCell ?_ (by simp <;> omega) _)))).mono ?_
 rintro e w1 ⟨s1, rfl, hs1, b1⟩
 have S1 : Hid (s1 = true ↔ FnShape F) := hs1
 have B1 : Hid (Below w.heap.size w w1) := Bel.after (by repeat (first | exact Below.refl _ _ | apply Below.drew | refine Below.alloc ?_ (by simp <;> omega) _ | refine Below.setCell ?_ (by simp <;> omega) _)) b1
 have c0 : w1.cell? ⟨w.heap.size, 0, none⟩ = some (.slice ba n bcap) := Bel.keeps b1 (by simp [go_sem])
 have c1 : w1.cell? ⟨w.heap.size, 1, none⟩ = some (.int .i64 vals) := Bel.keeps b1 (by simp [go_sem])
 clear b1 hs1
 cases s1 with
 | false =>
  have HE : Hid (dominatesOf F a b = false) := by
   unfold dominatesOf
   rw [decide_eq_false_iff_not]
   exact fun h => by have := S1.out.2 h.1; cases this
  go_wp2_with fail
  go_ret
  exact ⟨by rw [HE.out]; rfl, B1.out⟩
 | true =>
  have hyes : Hid (FnShape F) := S1.out.1 rfl
  have h16 : n ≤ 16 := by rw [← HN.out]; exact hyes.out.2.1
  go_wp2_with fail
  refine (blockIn_any ba n bcap vals a _).mono ?_
  rintro e w2 ⟨rfl, b2⟩
  have B2 : Hid (Below w.heap.size w w2) := Bel.after B1.out b2
  replace c0 := Bel.keeps b2 c0
  replace c1 := Bel.keeps b2 c1
  clear b2
  cases hva : valIn (n : Int) a with
  | false =>
   have HE : Hid (dominatesOf F a b = false) := dominatesOf_a HN.out hva
   go_wp2_with fail
   go_ret
   exact ⟨by rw [HE.out]; rfl, B2.out⟩
  | true =>
   obtain ⟨ha0, ha1⟩ := valIn_iff.1 hva
   go_wp2_with fail
   refine (blockIn_any ba n bcap vals b _).mono ?_
   rintro e w3 ⟨rfl, b3⟩
   have B3 : Hid (Below w.heap.size w w3) := Bel.after B2.out b3
   replace c0 := Bel.keeps b3 c0
   replace c1 := Bel.keeps b3 c1
   clear b3 hva
   cases hvb : valIn (n : Int) b with
   | false =>
    have HE : Hid (dominatesOf F a b = false) := dominatesOf_b HN.out hvb
    go_wp2_with fail
    go_ret
    exact ⟨by rw [HE.out]; rfl, B3.out⟩
   | true =>
    obtain ⟨hb0, hb1⟩ := valIn_iff.1 hvb
    obtain ⟨an, rfl⟩ : ∃ an : Nat, a = (an : Int) := ⟨a.toNat, by omega⟩
    obtain ⟨bn, rfl⟩ : ∃ bn : Nat, b = (bn : Int) := ⟨b.toNat, by omega⟩
    have HE : Hid (dominatesOf F (an : Int) (bn : Int) = domB F an bn) := dominatesOf_yes hyes.out (by rw [HN.out]; omega)
    clear hvb
    go_wp2_with fail
    refine (domsOf_any _ F _ (HF.out.later B3.out) hyes.out).mono ?_
    rintro e w4 ⟨rfl, b4⟩
    have B4 : Hid (Below w.heap.size w w4) := Bel.after B3.out b4
    have hix := run_index_tab (fun b a => domB F a b) (b := bn) (by omega)
    clear b4 c0 c1
    go_wp2_with fail
    refine (setHas_any (fun a => domB F a bn) an (by omega) _).mono ?_
    rintro e w5 ⟨rfl, b5⟩
    have B5 : Hid (Below w.heap.size w w5) := Bel.after B4.out b5
    clear b5 hix
    go_wp2_with fail
    go_ret
    exact ⟨by rw [HE.out]; rfl, B5.out⟩
end Go.Proofs.YtfeppmfoegejhaaGreatDoor
