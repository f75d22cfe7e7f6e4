/- Whether a block follows another one, and the list of those that follow: the program's goesTo and what Succs gathers. -/
import Derived.Test.YtggcpefhaijeiaaSeq
import Derived.Maps.AppendAt
namespace Go.Proofs.Ytggcpefhaijeiaa
open Go.ChangeShapes Go.WideShapes Go.ChangeAt Go.RowKit Go.Shelf
set_option linter.unusedVariables false
attribute [local go_sem] Oper.semAt_some

theorem keepsB_setCell {B b : Nat} (W : World) (v : Value) (h : b ≠ B) : KeepsB B W (W.setCell ⟨b, 0, none⟩ v) := Below.heap_setCell _ _ _ B (by intro e; exact h (by simpa using e.symm))

theorem succsV_small (k t e : Int) : (succsV k t e).length ≤ 2 := by
  unfold succsV
  split
  · simp
  · split
    · split <;> simp
    · simp

set_option maxRecDepth 100000 in
set_option maxHeartbeats 2000000 in
theorem goesTo_any (k a t e b : Int) (w : World) :
    Calls Try.prog 38 #[.agg #[.int .i64 k, .int .i64 a, .int .i64 t, .int .i64 e], .int .i64 b] w fun r w' => r = .returned (.bool (decide (b ∈ succsV k t e))) ∧ Below w.heap.size w w' := by
  refine (callsIn_wide (n := 3)).1 ?_
  refine callsIn_of_wp_marks Try.func38 rfl trivial ?_ rfl
  simp only [Try.ntmps38, List.size_toArray, List.length_cons, List.length_nil, Nat.reduceAdd, Nat.reduceSub, Array.replicate_succ, Array.replicate_zero, List.push_toArray, List.append_toArray, List.nil_append, List.cons_append]
  gi_wp2_with (refine ⟨trivial, ?_⟩; gi_at_call 35; refine (callsIn_wide.2 (followers_any _ _ _ _ _)).mono ?_; rintro e w' ⟨rfl, rfl⟩)
  obtain ⟨W0, hW0⟩ : ∃ W0, (((w.alloc (.cells #[.int .i64 k, .int .i64 a, .int .i64 t, .int .i64 e] 40)).alloc (.cells #[.int .i64 b] 3)).alloc (.cells #[.bool false] 4)).alloc (.cells #[.int .i64 k, .int .i64 a, .int .i64 t, .int .i64 e] 40) = W0 := ⟨_, rfl⟩
  have hsz : W0.heap.size = w.heap.size + 4 := by rw [← hW0]; simp
  have hB0 : Below w.heap.size w W0 := by rw [← hW0]; repeat (first | exact Below.refl _ _ | apply Below.drew | refine Below.alloc ?_ (by simp <;> omega) _ | refine Below.setCell ?_ (by simp <;> omega) _)
  have hb : Boxed W0 (w.heap.size + 1) 3 (.int .i64 b) := by rw [← hW0]; have := Boxed.new (w.alloc (.cells #[.int .i64 k, .int .i64 a, .int .i64 t, .int .i64 e] 40)) 3 (.int .i64 b); rw [World.size_alloc] at this; exact (this.alloc _).alloc _
  have hr : Boxed W0 (w.heap.size + 1 + 1) 4 (.bool false) := by rw [← hW0]; have := Boxed.new ((w.alloc (.cells #[.int .i64 k, .int .i64 a, .int .i64 t, .int .i64 e] 40)).alloc (.cells #[.int .i64 b] 3)) 4 (.bool false); rw [World.size_alloc, World.size_alloc] at this; exact this.alloc _
  have hT : EndBox W0 (w.heap.size + 1 + 1 + 1) k a t e := by rw [← hW0]; have h := EndBox.new (((w.alloc (.cells #[.int .i64 k, .int .i64 a, .int .i64 t, .int .i64 e] 40)).alloc (.cells #[.int .i64 b] 3)).alloc (.cells #[.bool false] 4)) k a t e; rw [World.size_alloc, World.size_alloc, World.size_alloc] at h; exact h
  rw [hW0]
  clear hW0
  refine wpIn_rangeFunc_ownF (α := {x : Int // True}) rfl (by omega) (gf := 54) (lb := #[.pointer (some ⟨w.heap.size + 1 + 1 + 1, 0, none⟩)]) rfl trivial (enters_of Try.func54 (by kernel_rfl) rfl)
    (followers_stops (fun _ => True) 2 (by omega) (w.heap.size + 1 + 1 + 1) k a t e (fun _ _ => trivial) W0 (by omega) hT) keepsB_t (keepsB_b (by omega)) (Below.refl _ _) (fun _ => rfl)
    (fun pre W => ((∀ y ∈ pre, y.1 ≠ b) ∧ W.cell? ⟨w.heap.size + 1, 0, none⟩ = some (.int .i64 b) ∧ W.cell? ⟨w.heap.size + 1 + 1, 0, none⟩ = some (.bool false) ∧ W.frozen? ⟨w.heap.size + 1 + 1, 0, none⟩ = false) ∧ Below w.heap.size w W)
    (fun c pre W => (c = .ret ∧ b ∈ pre.map (fun x => x.1) ∧ W.cell? ⟨w.heap.size + 1 + 1, 0, none⟩ = some (.bool true)) ∧ Below w.heap.size w W)
    (OwnFrom.and (Own.from (fun s A B row hs hg hr => ⟨hs.1, cell_kept hs.2.1 hg hr, cell_kept hs.2.2.1 hg hr, (frozen_kept hs.2.2.1 hg hr).trans hs.2.2.2⟩) _) (ownFrom_below (Nat.le_refl _) (by omega)))
    (fun c => OwnFrom.and (Own.from (fun s A B row hs hg hr => ⟨hs.1, hs.2.1, cell_kept hs.2.2 hg hr⟩) _) (ownFrom_below (Nat.le_refl _) (by omega)))
    ⟨⟨by simp, hb.cell, hr.cell, hr.frozen⟩, hB0⟩
    (fun x => { tmps := #[.agg #[.int .i64 k, .int .i64 a, .int .i64 t, .int .i64 e], .int .i64 b, .pointer (some ⟨w.heap.size, 0, none⟩), .pointer (some ⟨w.heap.size + 1, 0, none⟩), .pointer (some ⟨w.heap.size + 1 + 1, 0, none⟩), .int .i64 x.1, .agg #[.int .i64 k, .int .i64 a, .int .i64 t, .int .i64 e], .func (.func 54) #[] #[.pointer (some ⟨w.heap.size + 1 + 1 + 1, 0, none⟩)], .int .i64 x.1, undef, undef, undef], defers := [] }) ?assign ?body ?done ?stop
  case assign =>
    intro l x W K hK
    gi_wp2
    exact hK
  case body =>
    rintro l pre x W ⟨⟨hp, hcw, hcr, hfr⟩, hB⟩ _
    gi_wp2
    · rename_i hx
      obtain hx : x.1 = b := eq_of_beq hx
      exact ⟨KeepsOthers.setCell _ _ _, ⟨rfl, by simp [hx], World.cell?_setCell_same' _ _ _ (by rw [hcr]; rfl)⟩, hB.setCell (p := ⟨w.heap.size + 1 + 1, 0, none⟩) (by simp <;> omega) _⟩
    · rename_i hx
      refine ⟨KeepsOthers.refl _, rfl, ⟨fun y hy => (List.mem_append.1 hy).elim (hp y) (fun e' e2 => ?_), hcw, hcr, hfr⟩, hB⟩
      simp at e'
      subst e'
      simp [e2] at hx
  case done =>
    rintro D ys W hD hS ⟨⟨hne, _, hcr, hfr⟩, hB⟩ hK
    gi_wp2
    have hK' := (KeepsOthers.setCell W ⟨w.heap.size + 1 + 1, 0, none⟩ (.bool false)).same D _ hK rfl
    refine ⟨by simp, .inl ⟨_, _, rfl, run_takeDeferred hK', ?_⟩⟩
    have hc5 := cell_kept (World.cell?_setCell_same' W ⟨w.heap.size + 1 + 1, 0, none⟩ (.bool false) (by rw [hcr]; rfl)) (grownBy_putObj' _ D (.deferred none)) (fun r e => by cases e; exact ⟨_, hK', rfl⟩)
    refine ⟨.bool false, ?_, ?_, (hB.setCell (p := ⟨w.heap.size + 1 + 1, 0, none⟩) (by simp <;> omega) _).trans (belowK_b (w := w) (Nat.le_refl _) _ D _ _ (by omega) hK' rfl rfl)⟩
    · simp [results, Try.f38, go_sem, hc5]
    · rw [decide_eq_false]
      rw [← hS]
      intro h
      obtain ⟨y, hy, e⟩ := List.mem_map.1 h
      exact hne y hy e
  case stop =>
    rintro D c pre W hD hpre ⟨⟨rfl, hin, hcr⟩, hB⟩ hK
    gi_wp2
    refine ⟨by simp, .inl ⟨_, _, rfl, run_takeDeferred hK, ?_⟩⟩
    have hc5 := cell_kept hcr (grownBy_putObj' _ D (.deferred none)) (fun r e => by cases e; exact ⟨_, hK, rfl⟩)
    refine ⟨.bool true, ?_, by rw [decide_eq_true (hpre.subset hin)], hB.trans (belowK_b (w := w) (Nat.le_refl _) W D _ _ (by omega) hK rfl rfl)⟩
    simp [results, Try.f38, go_sem, hc5]
end Go.Proofs.Ytggcpefhaijeiaa
