/- Code from homes, the program's parts: an emitter puts steps, takes what a home has, gives to a home. -/
import Derived.Test.YtgnngibbojjebaaDoorEmDef
import Derived.Test.YtgnngibbojjebaaDoorStO
import Derived.Test.YtgnngibbojjebaaDoorCks
import Derived.Test.YtgnngibbojjebaaDoorCmOne
import Derived.Maps.AppendAt
namespace Go.Proofs.YtgnngibbojjebaaDoor
open Go.ChangeShapes Go.WideShapes Go.ChangeAt Go.RowKit
set_option linter.unusedVariables false

/-- A list of steps, appended to one of the call's own. -/
theorem add_stepsA (lo : Nat) (v u : Value) (l m : List InsD) (w : World) (hv : OwnSteps w lo v l) (hlo : lo ≤ w.heap.size) (hu : StepsAt w u m) (hn : l.length + m.length ≤ 2000000) (ty : TypeId) :
    ∃ v' w', (Builtin.append_ #[27, 27] ty #[v, u]).run Tryd.prog w = .ok v' w' ∧ OwnSteps w' lo v' (l ++ m) ∧ w.grownBy w' v.ownBlock ∧ (v'.ownBlock = v.ownBlock ∨ v'.ownBlock = some w.heap.size) := by
  obtain ⟨i0, hi, hz0, hz1, hz2⟩ := info_parts info_step
  obtain ⟨a, cap, rfl, hm, hc⟩ := hu
  by_cases h0 : m.length = 0
  · have hl0 : m = [] := List.eq_nil_of_length_eq_zero h0
    subst hl0
    obtain ⟨av, cv, rfl, _⟩ := hv.row
    refine ⟨.slice av l.length cv, w, ?_, by rw [List.append_nil]; exact hv, ⟨rfl, rfl, rfl, Nat.le_refl _, fun _ _ _ => rfl⟩, .inl rfl⟩
    have hcv : l.length ≤ cv := by
      rcases hv.2 with ⟨e, h0⟩ | ⟨g, cap', cur, e, _, _, h1, _⟩
      · rw [h0]; exact Nat.zero_le _
      · cases e; exact h1
    cases a with
    | none => cases av <;> (simp [Builtin.append_, run_underlying Tryd.underlying27, sizeOf, typeInfo, hi, Builtin.lenOf, Builtin.firstCells, go_sem]; intro h9; omega)
    | some ad => cases av <;> (simp [Builtin.append_, run_underlying Tryd.underlying27, sizeOf, typeInfo, hi, Builtin.lenOf, Builtin.firstCells, go_sem]; intro h9; omega)
  · have hmx : 2000000 ≤ maxLen := by decide
    obtain ⟨b, off, rfl, _, hE⟩ := hc (by omega)
    obtain ⟨v', w', hrun, ho, hgr, hnil, hob⟩ := run_append_own_at (P := Tryd.prog) w lo 27 ty 32 i0 (.agg #[.int .i64 0, .int .i64 0, .int .i64 0, .int .i64 0, .int .i64 0]) 5 40 Tryd.underlying27 hi hz0 hz1 hz2 rfl (by decide) v l.length (stC l) hv ⟨b, off, none⟩ m.length cap (stC m) (stC_len m) (fun j u hu => by
      have hj : j < m.length * 5 := by have := (List.getElem?_eq_some_iff.1 hu).1; rw [stC_len] at this; exact this
      obtain ⟨x, hx⟩ : ∃ x, m[j / 5]? = some x := ⟨_, List.getElem?_eq_getElem (by omega)⟩
      obtain ⟨c0, c1, c2, c3, c4⟩ := hE _ _ hx
      have e := stC_get hx (c := j % 5) (by omega)
      rw [show j / 5 * 5 + j % 5 = j by omega, hu] at e
      rw [addS]
      have hcs : j % 5 = 0 ∨ j % 5 = 1 ∨ j % 5 = 2 ∨ j % 5 = 3 ∨ j % 5 = 4 := by omega
      rcases hcs with c | c | c | c | c <;> rw [c] at e <;> simp at e <;> subst e
      · rw [show off + j = off + j / 5 * 5 by omega]; exact c0
      · rw [show off + j = off + j / 5 * 5 + 1 by omega]; exact c1
      · rw [show off + j = off + j / 5 * 5 + 2 by omega]; exact c2
      · rw [show off + j = off + j / 5 * 5 + 3 by omega]; exact c3
      · rw [show off + j = off + j / 5 * 5 + 4 by omega]; exact c4) (fun u hu => by
      obtain ⟨j, hj⟩ := List.getElem?_of_mem hu
      obtain ⟨z, rfl⟩ := stC_int hj
      rfl) (by omega) (by omega) (by omega)
    exact ⟨v', w', hrun, OwnSteps.more ho, hgr, hob⟩

theorem isSlot_any (h : Int) (w : World) :
    Calls Tryd.prog 71 #[.int .i64 h] w fun e w' => e = .returned (.bool (decide (4 ≤ h))) ∧ w' = w := by
  go_enter Tryd.func71, Tryd.ntmps71
  go_wp2
  go_ret
  exact ⟨rfl, rfl⟩
theorem slotOf_any (h : Int) (w : World) (h0 : 0 ≤ h ∧ h ≤ 39) :
    Calls Tryd.prog 72 #[.int .i64 h] w fun e w' => e = .returned (.int .i64 (h - 4)) ∧ w' = w := by
  go_enter Tryd.func72, Tryd.ntmps72
  go_wp2
  go_ret
  exact ⟨rfl, rfl⟩
theorem registerOf_any (h way : Int) (w : World) :
    Calls Tryd.prog 56 #[.int .i64 h, .int .i64 way] w fun e w' => e = .returned (.int .i64 (takeR h way)) ∧ w' = w := by
  by_cases h4 : 4 ≤ h
  · have hd : decide (4 ≤ h) = true := by simpa using h4
    have e9 : takeR h way = way := by unfold takeR; rw [if_pos h4]
    rw [e9]
    go_enter Tryd.func56, Tryd.ntmps56
    go_wp2_with fail
    refine (isSlot_any h _).mono ?_
    rw [hd]
    rintro e w1 ⟨rfl, hw1⟩
    subst hw1
    go_wp2
    go_ret
    exact ⟨rfl, rfl⟩
  · have hd : decide (4 ≤ h) = false := by simpa using h4
    have e9 : takeR h way = h := by unfold takeR; rw [if_neg h4]
    rw [e9]
    go_enter Tryd.func56, Tryd.ntmps56
    go_wp2_with fail
    refine (isSlot_any h _).mono ?_
    rw [hd]
    rintro e w1 ⟨rfl, hw1⟩
    subst hw1
    go_wp2
    go_ret
    exact ⟨rfl, rfl⟩

/-- An emitter in memory: E its box, v its steps. -/
structure EmIs (lo : Nat) (w : World) (E : Nat) (v : Value) (l : List InsD) : Prop where
  box : w.heap[E]? = some (.cells #[v, .func (.func 56) #[] #[]] 59 (0, 0))
  own : OwnSteps w lo v l
  lo : lo ≤ E
/-- What an emitter turns: its box and its steps alone. -/
structure EmTo (lo E : Nat) (w : World) (v : Value) (w' : World) (v' : Value) : Prop where
  bel : Below lo w w'
  same : ∀ g, g < w.heap.size → g ≠ E → some g ≠ v.ownBlock → w'.heap[g]? = w.heap[g]?
  new : v'.ownBlock = v.ownBlock ∨ ∃ g, v'.ownBlock = some g ∧ w.heap.size ≤ g
theorem EmTo.refl (lo E : Nat) (w : World) (v : Value) : EmTo lo E w v w v := ⟨Below.refl _ _, fun _ _ _ _ => rfl, .inl rfl⟩
theorem EmTo.trans {lo E : Nat} {w w1 w2 : World} {v v1 v2 : Value} (h : EmTo lo E w v w1 v1) (k : EmTo lo E w1 v1 w2 v2) : EmTo lo E w v w2 v2 := by
  have hz := h.bel.size
  refine ⟨h.bel.trans k.bel, fun g hg hE hv => ?_, ?_⟩
  · refine (k.same g (by omega) hE (fun e => ?_)).trans (h.same g hg hE hv)
    rcases h.new with e1 | ⟨g1, e1, h1⟩
    · rw [e1] at e; exact hv e
    · rw [e1] at e
      cases e
      omega
  · rcases k.new with e | ⟨g2, e, h2⟩
    · rcases h.new with e1 | ⟨g1, e1, h1⟩
      · exact .inl (e.trans e1)
      · exact .inr ⟨g1, e.trans e1, h1⟩
    · exact .inr ⟨g2, e, by omega⟩
/-- The world grows, nothing else. -/
theorem EmTo.grow {lo E : Nat} {w w1 : World} (v : Value) (h : Below w.heap.size w w1) (hlo : lo ≤ w.heap.size) : EmTo lo E w v w1 v := ⟨h.mono hlo, fun g hg _ _ => h.block g hg, .inl rfl⟩
theorem EmIs.grow {lo E : Nat} {w w1 : World} {v : Value} {l : List InsD} (h : EmIs lo w E v l) (hb : Below w.heap.size w w1) : EmIs lo w1 E v l := ⟨(hb.block E (Array.getElem?_eq_some_iff.1 h.box).1).trans h.box, h.own.keep hb, h.lo⟩
theorem EmIs.cells {lo E : Nat} {w : World} {v : Value} {l : List InsD} (h : EmIs lo w E v l) : w.cell? ⟨E, 0, none⟩ = some v ∧ w.cell? ⟨E, 1, none⟩ = some (.func (.func 56) #[] #[]) ∧ w.frozen? ⟨E, 0, none⟩ = false ∧ E < w.heap.size := by
  have hb := h.box
  refine ⟨?_, ?_, ?_, (Array.getElem?_eq_some_iff.1 hb).1⟩ <;> simp [World.cell?, World.frozen?, hb]
theorem EmIs.sep {lo E : Nat} {w : World} {v : Value} {l : List InsD} (h : EmIs lo w E v l) : v.ownBlock ≠ some E := fun e => by
  rcases h.own.2 with ⟨ev, _⟩ | ⟨g, cap, cur, ev, _, hg, _⟩
  · rw [ev] at e; simp [Value.ownBlock] at e
  · rw [ev] at e
    simp [Value.ownBlock] at e
    subst e
    rw [h.box] at hg
    simp at hg
/-- What a part of the program does with an emitter. -/
def GivesEm (lo E : Nat) (w : World) (v : Value) (r : Value → Prop) (l' : List InsD) (e : Ending) (w' : World) : Prop := ∃ x v', e = .returned x ∧ r x ∧ EmIs lo w' E v' l' ∧ EmTo lo E w v w' v'

set_option maxHeartbeats 1000000 in
theorem put_any (lo E : Nat) (v u : Value) (l m : List InsD) (w : World) (h : EmIs lo w E v l) (hlo : lo ≤ w.heap.size) (hu : StepsAt w u m) (hn : l.length + m.length ≤ 2000000) :
    Calls Tryd.prog 63 #[.pointer (some ⟨E, 0, none⟩), u] w fun e w' => GivesEm lo E w v (fun _ => True) (l ++ m) e w' := by
  obtain ⟨v', w1, hrun, ho1, hg1, hnn⟩ := add_stepsA lo v u l m w h.own hlo hu hn 27
  obtain ⟨va, vn, vc, rfl⟩ : ∃ a n c, v = .slice a n c := by obtain ⟨a, c, e, _⟩ := h.own.row; exact ⟨a, _, c, e⟩
  obtain ⟨na, nn, nc, rfl⟩ : ∃ a n c, v' = .slice a n c := by obtain ⟨a, c, e, _⟩ := ho1.row; exact ⟨a, _, c, e⟩
  have HRUN : Hid (∀ ty, (Builtin.append_ #[27, 27] ty #[.slice va vn vc, u]).run Tryd.prog w = .ok (.slice na nn nc) w1) := fun ty => hrun
  have hE1 : w1.heap[E]? = w.heap[E]? := hg1.block E h.cells.2.2.2 (fun e => h.sep e.symm)
  have hbox1 := hE1.trans h.box
  have c0 := h.cells.1
  have d0 : w1.cell? ⟨E, 0, none⟩ = some (.slice va vn vc) := by simp [World.cell?, hbox1]
  have f0 : w1.frozen? ⟨E, 0, none⟩ = false := by simp [World.frozen?, hbox1]
  have HE : Hid (EmIs lo w E (.slice va vn vc) l) := h
  have HO1 : Hid (OwnSteps w1 lo (.slice na nn nc) (l ++ m)) := ho1
  have HG1 : Hid (w.grownBy w1 (Value.slice va vn vc).ownBlock) := hg1
  have HBX : Hid (w1.heap[E]? = some (.cells #[.slice va vn vc, .func (.func 56) #[] #[]] 59 (0, 0))) := hbox1
  have HNN : Hid ((Value.slice na nn nc).ownBlock = (Value.slice va vn vc).ownBlock ∨ (Value.slice na nn nc).ownBlock = some w.heap.size) := hnn
  clear hrun ho1 hg1 h hE1 hbox1 hu hnn
  go_enter Tryd.func63, Tryd.ntmps63
  go_wp2_with (at_builtin; refine wpList_appendS _ rfl _ _ 27 27 rfl _ _ _ _ rfl rfl (HRUN.out _) ?_)
  refine ⟨rfl, _, results_none rfl _ _ _, _, .slice na nn nc, rfl, trivial, ⟨?_, ?_, HE.out.lo⟩, ?_, fun g hg hgE hgv => ?_, ?_⟩
  · have h9 := HBX.out
    simp [World.setCell, Array.getElem?_modify, h9]
  · obtain ⟨h0, h1⟩ := HO1.out
    refine ⟨h0, ?_⟩
    rcases h1 with h1 | ⟨g, cap, cur, e, hl, hg, h2⟩
    · exact .inl h1
    · refine .inr ⟨g, cap, cur, e, hl, (Below.heap_setCell _ _ _ g (fun ee => ?_)).trans hg, h2⟩
      have e9 : g = E := ee
      rw [e9, HBX.out] at hg
      simp at hg
  · exact (HE.out.own.under hlo HG1.out).setCell (p := ⟨E, 0, none⟩) HE.out.lo _
  · rw [Below.heap_setCell _ _ _ g hgE]
    exact HG1.out.block g hg hgv
  · rcases HNN.out with e | e
    · exact .inl e
    · exact .inr ⟨_, e, Nat.le_refl _⟩

/-- A step in a list of its own. -/
theorem stepsAt_uno (w : World) (x0 x1 x2 x3 x4 : Int) : StepsAt (w.alloc (.cells #[.int .i64 x0, .int .i64 x1, .int .i64 x2, .int .i64 x3, .int .i64 x4] 32)) (.slice (some ⟨w.heap.size, 0, none⟩) 1 1) [⟨x0, x1, x2, x3, x4⟩] := by
  refine ⟨some ⟨w.heap.size, 0, none⟩, 1, rfl, by simp, fun _ => ⟨w.heap.size, 0, rfl, Nat.zero_le _, fun i x hi => ?_⟩⟩
  have hi0 : i = 0 := by have := (List.getElem?_eq_some_iff.1 hi).1; simpa using this
  subst hi0
  simp at hi
  subst hi
  refine ⟨?_, ?_, ?_, ?_, ?_⟩ <;> simp [World.cell?_alloc_new]
/-- One step is put, in a list that was laid for it. -/
theorem put_one (lo E : Nat) (v : Value) (l : List InsD) (x0 x1 x2 x3 x4 : Int) (w : World) (h : EmIs lo w E v l) (hlo : lo ≤ w.heap.size) (hn : l.length ≤ 1900000) :
    Calls Tryd.prog 63 #[.pointer (some ⟨E, 0, none⟩), .slice (some ⟨w.heap.size, 0, none⟩) 1 1] (w.alloc (.cells #[.int .i64 x0, .int .i64 x1, .int .i64 x2, .int .i64 x3, .int .i64 x4] 32)) fun e w' => GivesEm lo E w v (fun _ => True) (l ++ [⟨x0, x1, x2, x3, x4⟩]) e w' := by
  refine (put_any lo E v _ l [⟨x0, x1, x2, x3, x4⟩] _ (h.grow (Bel.alloc _ _)) (by simp; omega) (stepsAt_uno w x0 x1 x2 x3 x4) (by simp; omega)).mono ?_
  rintro e w' ⟨x, v', rfl, _, h1, h2⟩
  exact ⟨x, v', rfl, trivial, h1, (EmTo.grow v (Bel.alloc _ _) hlo).trans h2⟩
end Go.Proofs.YtgnngibbojjebaaDoor
