/- Code from homes as mathematics: the steps of a place. Code from homes, the program's parts: an emitter puts steps, takes what a home has, gives to a home. Code from homes, the program's parts: what a home has is taken, given, copied. -/
import Derived.Test.YtkejplddeelahaaGreatDoorKIns
import Derived.Test.YtkejplddeelahaaGreatDoorKHm
import Derived.Test.YtkejplddeelahaaGreatDoorKSt
import Derived.Test.YtkejplddeelahaaGreatDoorKLast
import Derived.Maps.AppendAt
namespace Go.Proofs.YtkejplddeelahaaGreatDoor
set_option linter.unusedVariables false

def takeL (h way : Int) : List InsD := if 4 ≤ h then [⟨3, way, 0, 0, h - 4⟩] else []
def takeR (h way : Int) : Int := if 4 ≤ h then way else h
def giveL (h op a b n : Int) : List InsD := if 4 ≤ h then [⟨op, 6, a, b, n⟩, ⟨4, 0, 6, 0, h - 4⟩] else [⟨op, h, a, b, n⟩]
def copyL (d a : Int) : List InsD := if 4 ≤ d then takeL a 4 ++ [⟨4, 0, takeR a 4, 0, d - 4⟩] else if 4 ≤ a then [⟨3, d, 0, 0, a - 4⟩] else [⟨2, d, a, 0, 0⟩]
/-- Are all values that a place names homes? -/
def homesX (x : InsD) : Bool := (!makesV x.op || homeB x.d) && (usesV x.op x.a x.b).all homeB
def stepsX (x : InsD) : List InsD :=
  if x.op = 20 then giveL x.d 1 0 0 x.n
  else if x.op = 21 then takeL x.a 4 ++ giveL x.d 5 (takeR x.a 4) 0 0
  else if x.op = 22 then takeL x.a 4 ++ (takeL x.b 5 ++ [⟨6, 0, takeR x.a 4, takeR x.b 5, 0⟩])
  else if x.op = 23 then takeL x.a 4 ++ [⟨7, 0, takeR x.a 4, 0, 0⟩]
  else if x.op = 24 then giveL x.d 8 0 0 0
  else if x.op = 25 then copyL x.d x.a
  else if 1 ≤ x.op ∧ x.op ≤ 10 then takeL x.a 4 ++ (takeL x.b 5 ++ giveL x.d (11 + x.op) (takeR x.a 4) (takeR x.b 5) 0)
  else []
def emitX (x : InsD) : List InsD := if homesX x = true then stepsX x else []
theorem takeL_len (h way : Int) : (takeL h way).length ≤ 1 := by unfold takeL; split <;> simp
theorem giveL_len (h op a b n : Int) : (giveL h op a b n).length ≤ 2 := by unfold giveL; split <;> simp
theorem copyL_len (d a : Int) : (copyL d a).length ≤ 2 := by
  unfold copyL
  split
  · have := takeL_len a 4
    simp
    omega
  · split <;> simp
theorem stepsX_len (x : InsD) : (stepsX x).length ≤ 4 := by
  have h1 := takeL_len x.a 4
  have h2 := takeL_len x.b 5
  have hg : ∀ op a b n, (giveL x.d op a b n).length ≤ 2 := giveL_len x.d
  unfold stepsX
  by_cases e0 : x.op = 20
  · rw [if_pos e0]; have := hg 1 0 0 x.n; omega
  rw [if_neg e0]
  by_cases e1 : x.op = 21
  · rw [if_pos e1, List.length_append]; have := hg 5 (takeR x.a 4) 0 0; omega
  rw [if_neg e1]
  by_cases e2 : x.op = 22
  · rw [if_pos e2, List.length_append, List.length_append, List.length_singleton]; omega
  rw [if_neg e2]
  by_cases e3 : x.op = 23
  · rw [if_pos e3, List.length_append, List.length_singleton]; omega
  rw [if_neg e3]
  by_cases e4 : x.op = 24
  · rw [if_pos e4]; have := hg 8 0 0 0; omega
  rw [if_neg e4]
  by_cases e5 : x.op = 25
  · rw [if_pos e5]; have := copyL_len x.d x.a; omega
  rw [if_neg e5]
  by_cases ew : 1 ≤ x.op ∧ x.op ≤ 10
  · rw [if_pos ew, List.length_append, List.length_append]; have := hg (11 + x.op) (takeR x.a 4) (takeR x.b 5) 0; omega
  · rw [if_neg ew]; simp
theorem emitX_len (x : InsD) : (emitX x).length ≤ 4 := by
  unfold emitX
  split
  · exact stepsX_len x
  · simp
end Go.Proofs.YtkejplddeelahaaGreatDoor

namespace Go.Proofs.YtkejplddeelahaaGreatDoor
open Go.ChangeShapes Go.WideShapes Go.ChangeAt Go.RowKit
set_option linter.unusedVariables false

/-- A list of steps, appended to one of the call's own. -/
theorem add_stepsA (lo : Nat) (v u : Value) (l m : List InsD) (w : World) (hv : OwnSteps w lo v l) (hlo : lo ≤ w.heap.size) (hu : StepsAt w u m) (hn : l.length + m.length ≤ 2000000) (ty : TypeId) :
    ∃ v' w', (Builtin.append_ #[28, 28] ty #[v, u]).run Tryz.prog w = .ok v' w' ∧ OwnSteps w' lo v' (l ++ m) ∧ w.grownBy w' v.ownBlock ∧ (v'.ownBlock = v.ownBlock ∨ v'.ownBlock = some w.heap.size) := by
  obtain ⟨i0, hi, hz0, hz1, hz2⟩ := info_parts info_step
  obtain ⟨a, cap, rfl, hm, hc⟩ := hu
  by_cases h0 : m.length = 0
  · have hl0 : m = [] := List.eq_nil_of_length_eq_zero h0
    subst hl0
    obtain ⟨av, cv, rfl, _⟩ := hv.row
    refine ⟨.slice av l.length cv, w, ?_, by rw [List.append_nil]; exact hv, ⟨rfl, rfl, rfl, Nat.le_refl _, fun _ _ _ => rfl⟩, .inl rfl⟩
    have hcv : l.length ≤ cv := by
      rcases hv.2 with ⟨e, h0⟩ | ⟨g, cap', cur, e, _, _, h1, _⟩
      · rw [h0]; exact Nat.zero_le _
      · cases e; exact h1
    cases a with
    | none => cases av <;> (simp [Builtin.append_, run_underlying Tryz.underlying28, sizeOf, typeInfo, hi, Builtin.lenOf, Builtin.firstCells, go_sem]; intro h9; omega)
    | some ad => cases av <;> (simp [Builtin.append_, run_underlying Tryz.underlying28, sizeOf, typeInfo, hi, Builtin.lenOf, Builtin.firstCells, go_sem]; intro h9; omega)
  · have hmx : 2000000 ≤ maxLen := by decide
    obtain ⟨b, off, rfl, _, hE⟩ := hc (by omega)
    obtain ⟨v', w', hrun, ho, hgr, hnil, hob⟩ := run_append_own_at (P := Tryz.prog) w lo 28 ty 46 i0 (.agg #[.int .i64 0, .int .i64 0, .int .i64 0, .int .i64 0, .int .i64 0]) 5 40 Tryz.underlying28 hi hz0 hz1 hz2 rfl (by decide) v l.length (stC l) hv ⟨b, off, none⟩ m.length cap (stC m) (stC_len m) (fun j u hu => by
      have hj : j < m.length * 5 := by have := (List.getElem?_eq_some_iff.1 hu).1; rw [stC_len] at this; exact this
      obtain ⟨x, hx⟩ : ∃ x, m[j / 5]? = some x := ⟨_, List.getElem?_eq_getElem (by omega)⟩
      obtain ⟨c0, c1, c2, c3, c4⟩ := hE _ _ hx
      have e := stC_get hx (c := j % 5) (by omega)
      rw [show j / 5 * 5 + j % 5 = j by omega, hu] at e
      rw [addS]
      have hcs : j % 5 = 0 ∨ j % 5 = 1 ∨ j % 5 = 2 ∨ j % 5 = 3 ∨ j % 5 = 4 := by omega
      rcases hcs with c | c | c | c | c <;> rw [c] at e <;> simp at e <;> subst e
      · rw [show off + j = off + j / 5 * 5 by omega]; exact c0
      · rw [show off + j = off + j / 5 * 5 + 1 by omega]; exact c1
      · rw [show off + j = off + j / 5 * 5 + 2 by omega]; exact c2
      · rw [show off + j = off + j / 5 * 5 + 3 by omega]; exact c3
      · rw [show off + j = off + j / 5 * 5 + 4 by omega]; exact c4) (fun u hu => by
      obtain ⟨j, hj⟩ := List.getElem?_of_mem hu
      obtain ⟨z, rfl⟩ := stC_int hj
      rfl) (by omega) (by omega) (by omega)
    exact ⟨v', w', hrun, OwnSteps.more ho, hgr, hob⟩

theorem isSlot_any (h : Int) (w : World) :
    Calls Tryz.prog 135 #[.int .i64 h] w fun e w' => e = .returned (.bool (decide (4 ≤ h))) ∧ w' = w := by
  go_enter Tryz.func135, Tryz.ntmps135
  go_wp2
  go_ret
  exact ⟨rfl, rfl⟩
theorem slotOf_any (h : Int) (w : World) (h0 : 0 ≤ h ∧ h ≤ 39) :
    Calls Tryz.prog 143 #[.int .i64 h] w fun e w' => e = .returned (.int .i64 (h - 4)) ∧ w' = w := by
  go_enter Tryz.func143, Tryz.ntmps143
  go_wp2
  go_ret
  exact ⟨rfl, rfl⟩
theorem registerOf_any (h way : Int) (w : World) :
    Calls Tryz.prog 90 #[.int .i64 h, .int .i64 way] w fun e w' => e = .returned (.int .i64 (takeR h way)) ∧ w' = w := by
  by_cases h4 : 4 ≤ h
  · have hd : decide (4 ≤ h) = true := by simpa using h4
    have e9 : takeR h way = way := by unfold takeR; rw [if_pos h4]
    rw [e9]
    go_enter Tryz.func90, Tryz.ntmps90
    go_wp2_with fail
    refine (isSlot_any h _).mono ?_
    rw [hd]
    rintro e w1 ⟨rfl, hw1⟩
    subst hw1
    go_wp2
    go_ret
    exact ⟨rfl, rfl⟩
  · have hd : decide (4 ≤ h) = false := by simpa using h4
    have e9 : takeR h way = h := by unfold takeR; rw [if_neg h4]
    rw [e9]
    go_enter Tryz.func90, Tryz.ntmps90
    go_wp2_with fail
    refine (isSlot_any h _).mono ?_
    rw [hd]
    rintro e w1 ⟨rfl, hw1⟩
    subst hw1
    go_wp2
    go_ret
    exact ⟨rfl, rfl⟩

/-- An emitter in memory: E its box, v its steps. -/
structure EmIs (lo : Nat) (w : World) (E : Nat) (v : Value) (l : List InsD) : Prop where
  box : w.heap[E]? = some (.cells #[v, .func (.func 90) #[] #[]] 70 (0, 0))
  own : OwnSteps w lo v l
  lo : lo ≤ E
/-- What an emitter turns: its box and its steps alone. -/
structure EmTo (lo E : Nat) (w : World) (v : Value) (w' : World) (v' : Value) : Prop where
  bel : Below lo w w'
  same : ∀ g, g < w.heap.size → g ≠ E → some g ≠ v.ownBlock → w'.heap[g]? = w.heap[g]?
  new : v'.ownBlock = v.ownBlock ∨ ∃ g, v'.ownBlock = some g ∧ w.heap.size ≤ g
theorem EmTo.refl (lo E : Nat) (w : World) (v : Value) : EmTo lo E w v w v := ⟨Below.refl _ _, fun _ _ _ _ => rfl, .inl rfl⟩
theorem EmTo.trans {lo E : Nat} {w w1 w2 : World} {v v1 v2 : Value} (h : EmTo lo E w v w1 v1) (k : EmTo lo E w1 v1 w2 v2) : EmTo lo E w v w2 v2 := by
  have hz := h.bel.size
  refine ⟨h.bel.trans k.bel, fun g hg hE hv => ?_, ?_⟩
  · refine (k.same g (by omega) hE (fun e => ?_)).trans (h.same g hg hE hv)
    rcases h.new with e1 | ⟨g1, e1, h1⟩
    · rw [e1] at e; exact hv e
    · rw [e1] at e
      cases e
      omega
  · rcases k.new with e | ⟨g2, e, h2⟩
    · rcases h.new with e1 | ⟨g1, e1, h1⟩
      · exact .inl (e.trans e1)
      · exact .inr ⟨g1, e.trans e1, h1⟩
    · exact .inr ⟨g2, e, by omega⟩
/-- The world grows, nothing else. -/
theorem EmTo.grow {lo E : Nat} {w w1 : World} (v : Value) (h : Below w.heap.size w w1) (hlo : lo ≤ w.heap.size) : EmTo lo E w v w1 v := ⟨h.mono hlo, fun g hg _ _ => h.block g hg, .inl rfl⟩
theorem EmIs.grow {lo E : Nat} {w w1 : World} {v : Value} {l : List InsD} (h : EmIs lo w E v l) (hb : Below w.heap.size w w1) : EmIs lo w1 E v l := ⟨(hb.block E (Array.getElem?_eq_some_iff.1 h.box).1).trans h.box, h.own.keep hb, h.lo⟩
theorem EmIs.cells {lo E : Nat} {w : World} {v : Value} {l : List InsD} (h : EmIs lo w E v l) : w.cell? ⟨E, 0, none⟩ = some v ∧ w.cell? ⟨E, 1, none⟩ = some (.func (.func 90) #[] #[]) ∧ w.frozen? ⟨E, 0, none⟩ = false ∧ E < w.heap.size := by
  have hb := h.box
  refine ⟨?_, ?_, ?_, (Array.getElem?_eq_some_iff.1 hb).1⟩ <;> simp [World.cell?, World.frozen?, hb]
theorem EmIs.sep {lo E : Nat} {w : World} {v : Value} {l : List InsD} (h : EmIs lo w E v l) : v.ownBlock ≠ some E := fun e => by
  rcases h.own.2 with ⟨ev, _⟩ | ⟨g, cap, cur, ev, _, hg, _⟩
  · rw [ev] at e; simp [Value.ownBlock] at e
  · rw [ev] at e
    simp [Value.ownBlock] at e
    subst e
    rw [h.box] at hg
    simp at hg
/-- What a part of the program does with an emitter. -/
def GivesEm (lo E : Nat) (w : World) (v : Value) (r : Value → Prop) (l' : List InsD) (e : Ending) (w' : World) : Prop := ∃ x v', e = .returned x ∧ r x ∧ EmIs lo w' E v' l' ∧ EmTo lo E w v w' v'

set_option maxHeartbeats 1000000 in
theorem put_any (lo E : Nat) (v u : Value) (l m : List InsD) (w : World) (h : EmIs lo w E v l) (hlo : lo ≤ w.heap.size) (hu : StepsAt w u m) (hn : l.length + m.length ≤ 2000000) :
    Calls Tryz.prog 45 #[.pointer (some ⟨E, 0, none⟩), u] w fun e w' => GivesEm lo E w v (fun _ => True) (l ++ m) e w' := by
  obtain ⟨v', w1, hrun, ho1, hg1, hnn⟩ := add_stepsA lo v u l m w h.own hlo hu hn 28
  obtain ⟨va, vn, vc, rfl⟩ : ∃ a n c, v = .slice a n c := by obtain ⟨a, c, e, _⟩ := h.own.row; exact ⟨a, _, c, e⟩
  obtain ⟨na, nn, nc, rfl⟩ : ∃ a n c, v' = .slice a n c := by obtain ⟨a, c, e, _⟩ := ho1.row; exact ⟨a, _, c, e⟩
  have HRUN : Hid (∀ ty, (Builtin.append_ #[28, 28] ty #[.slice va vn vc, u]).run Tryz.prog w = .ok (.slice na nn nc) w1) := fun ty => hrun
  have hE1 : w1.heap[E]? = w.heap[E]? := hg1.block E h.cells.2.2.2 (fun e => h.sep e.symm)
  have hbox1 := hE1.trans h.box
  have c0 := h.cells.1
  have d0 : w1.cell? ⟨E, 0, none⟩ = some (.slice va vn vc) := by simp [World.cell?, hbox1]
  have f0 : w1.frozen? ⟨E, 0, none⟩ = false := by simp [World.frozen?, hbox1]
  have HE : Hid (EmIs lo w E (.slice va vn vc) l) := h
  have HO1 : Hid (OwnSteps w1 lo (.slice na nn nc) (l ++ m)) := ho1
  have HG1 : Hid (w.grownBy w1 (Value.slice va vn vc).ownBlock) := hg1
  have HBX : Hid (w1.heap[E]? = some (.cells #[.slice va vn vc, .func (.func 90) #[] #[]] 70 (0, 0))) := hbox1
  have HNN : Hid ((Value.slice na nn nc).ownBlock = (Value.slice va vn vc).ownBlock ∨ (Value.slice na nn nc).ownBlock = some w.heap.size) := hnn
  clear hrun ho1 hg1 h hE1 hbox1 hu hnn
  go_enter Tryz.func45, Tryz.ntmps45
  go_wp2_with (at_builtin; refine wpList_appendS _ rfl _ _ 28 28 rfl _ _ _ _ rfl rfl (HRUN.out _) ?_)
  refine ⟨rfl, _, results_none rfl _ _ _, _, .slice na nn nc, rfl, trivial, ⟨?_, ?_, HE.out.lo⟩, ?_, fun g hg hgE hgv => ?_, ?_⟩
  · have h9 := HBX.out
    simp [World.setCell, Array.getElem?_modify, h9]
  · obtain ⟨h0, h1⟩ := HO1.out
    refine ⟨h0, ?_⟩
    rcases h1 with h1 | ⟨g, cap, cur, e, hl, hg, h2⟩
    · exact .inl h1
    · refine .inr ⟨g, cap, cur, e, hl, (Below.heap_setCell _ _ _ g (fun ee => ?_)).trans hg, h2⟩
      have e9 : g = E := ee
      rw [e9, HBX.out] at hg
      simp at hg
  · exact (HE.out.own.under hlo HG1.out).setCell (p := ⟨E, 0, none⟩) HE.out.lo _
  · rw [Below.heap_setCell _ _ _ g hgE]
    exact HG1.out.block g hg hgv
  · rcases HNN.out with e | e
    · exact .inl e
    · exact .inr ⟨_, e, Nat.le_refl _⟩

/-- A step in a list of its own. -/
theorem stepsAt_uno (w : World) (x0 x1 x2 x3 x4 : Int) : StepsAt (w.alloc (.cells #[.int .i64 x0, .int .i64 x1, .int .i64 x2, .int .i64 x3, .int .i64 x4] 46)) (.slice (some ⟨w.heap.size, 0, none⟩) 1 1) [⟨x0, x1, x2, x3, x4⟩] := by
  refine ⟨some ⟨w.heap.size, 0, none⟩, 1, rfl, by simp, fun _ => ⟨w.heap.size, 0, rfl, Nat.zero_le _, fun i x hi => ?_⟩⟩
  have hi0 : i = 0 := by have := (List.getElem?_eq_some_iff.1 hi).1; simpa using this
  subst hi0
  simp at hi
  subst hi
  refine ⟨?_, ?_, ?_, ?_, ?_⟩ <;> simp [World.cell?_alloc_new]
/-- One step is put, in a list that was laid for it. -/
theorem put_one (lo E : Nat) (v : Value) (l : List InsD) (x0 x1 x2 x3 x4 : Int) (w : World) (h : EmIs lo w E v l) (hlo : lo ≤ w.heap.size) (hn : l.length ≤ 1900000) :
    Calls Tryz.prog 45 #[.pointer (some ⟨E, 0, none⟩), .slice (some ⟨w.heap.size, 0, none⟩) 1 1] (w.alloc (.cells #[.int .i64 x0, .int .i64 x1, .int .i64 x2, .int .i64 x3, .int .i64 x4] 46)) fun e w' => GivesEm lo E w v (fun _ => True) (l ++ [⟨x0, x1, x2, x3, x4⟩]) e w' := by
  refine (put_any lo E v _ l [⟨x0, x1, x2, x3, x4⟩] _ (h.grow (Bel.alloc _ _)) (by simp; omega) (stepsAt_uno w x0 x1 x2 x3 x4) (by simp; omega)).mono ?_
  rintro e w' ⟨x, v', rfl, _, h1, h2⟩
  exact ⟨x, v', rfl, trivial, h1, (EmTo.grow v (Bel.alloc _ _) hlo).trans h2⟩
end Go.Proofs.YtkejplddeelahaaGreatDoor

namespace Go.Proofs.YtkejplddeelahaaGreatDoor
open Go.ChangeShapes Go.WideShapes Go.ChangeAt Go.RowKit
set_option linter.unusedVariables false

set_option maxHeartbeats 1000000 in
theorem take_any (lo E : Nat) (v : Value) (l : List InsD) (h way : Int) (w : World) (he : EmIs lo w E v l) (hlo : lo ≤ w.heap.size) (hn : l.length ≤ 1000000) (hh : homeB h = true) :
    Calls Tryz.prog 96 #[.pointer (some ⟨E, 0, none⟩), .int .i64 h, .int .i64 way] w fun e w' => GivesEm lo E w v (fun x => x = .int .i64 (takeR h way)) (l ++ takeL h way) e w' := by
  have HE : Hid (EmIs lo w E v l) := he
  obtain ⟨c0, c1, f0, hE⟩ := he.cells
  have hb := homeB_iff.1 hh
  obtain ⟨r, HRR⟩ : ∃ r, Hid (takeR h way = r) := ⟨_, rfl⟩
  rw [HRR.out]
  clear he
  by_cases h4 : 4 ≤ h
  · have hd : decide (4 ≤ h) = true := by simpa using h4
    have e9 : takeL h way = [⟨3, way, 0, 0, h - 4⟩] := by unfold takeL; rw [if_pos h4]
    have e8 : way = r := by rw [← HRR.out]; unfold takeR; rw [if_pos h4]
    obtain ⟨hs, HHS⟩ : ∃ z, Hid (h - 4 = z) := ⟨_, rfl⟩
    rw [e9, e8, HHS.out]
    rw [e8] at HRR
    clear e8 e9
    go_enter Tryz.func96, Tryz.ntmps96
    go_wp2_with fail
    refine (registerOf_any h r _).mono ?_
    rw [HRR.out]
    rintro e w1 ⟨rfl, hw1⟩
    subst hw1
    go_wp2_with fail
    refine (isSlot_any h _).mono ?_
    rw [hd]
    rintro e w2 ⟨rfl, hw2⟩
    subst hw2
    go_wp2_with fail
    refine (slotOf_any h _ hb).mono ?_
    rintro e w3 ⟨rfl, hw3⟩
    subst hw3
    rw [HHS.out]
    clear c0 c1 f0
    go_wp2_with fail
    refine (put_one lo E v l 3 r 0 0 hs _ HE.out hlo (by omega)).mono ?_
    rintro e w4 ⟨x, v', rfl, _, h1, h2⟩
    have H1 : Hid (EmIs lo w4 E v' (l ++ [⟨3, r, 0, 0, hs⟩])) := h1
    have H2 : Hid (EmTo lo E _ v w4 v') := h2
    clear h1 h2
    go_wp2
    go_ret
    exact ⟨_, v', rfl, rfl, H1.out, H2.out⟩
  · have hd : decide (4 ≤ h) = false := by simpa using h4
    have e9 : takeL h way = [] := by unfold takeL; rw [if_neg h4]
    rw [e9, List.append_nil]
    go_enter Tryz.func96, Tryz.ntmps96
    go_wp2_with fail
    refine (registerOf_any h way _).mono ?_
    rw [HRR.out]
    rintro e w1 ⟨rfl, hw1⟩
    subst hw1
    go_wp2_with fail
    refine (isSlot_any h _).mono ?_
    rw [hd]
    rintro e w2 ⟨rfl, hw2⟩
    subst hw2
    go_wp2
    go_ret
    exact ⟨_, v, rfl, rfl, HE.out, EmTo.refl _ _ _ _⟩

set_option maxRecDepth 100000 in
set_option maxHeartbeats 1000000 in
theorem give_any (lo E : Nat) (v : Value) (l : List InsD) (h op r0 a b n : Int) (w : World) (he : EmIs lo w E v l) (hlo : lo ≤ w.heap.size) (hn : l.length ≤ 1000000) (hh : homeB h = true) :
    Calls Tryz.prog 141 #[.pointer (some ⟨E, 0, none⟩), .int .i64 h, .agg #[.int .i64 op, .int .i64 r0, .int .i64 a, .int .i64 b, .int .i64 n]] w fun e w' => GivesEm lo E w v (fun _ => True) (l ++ giveL h op a b n) e w' := by
  have HE : Hid (EmIs lo w E v l) := he
  obtain ⟨c0, c1, f0, hE⟩ := he.cells
  have hb := homeB_iff.1 hh
  obtain ⟨r, HRR⟩ : ∃ r, Hid (takeR h 6 = r) := ⟨_, rfl⟩
  obtain ⟨w0, hw0⟩ : ∃ W, w.alloc (.cells #[.int .i64 op, .int .i64 r0, .int .i64 a, .int .i64 b, .int .i64 n] 46) = W := ⟨_, rfl⟩
  have HB0 : Hid (Below w.heap.size w w0) := by show Below _ _ _; rw [← hw0]; exact Bel.alloc _ _
  have HX0 : Hid (w0.heap[w.heap.size]? = some (.cells #[.int .i64 op, .int .i64 r0, .int .i64 a, .int .i64 b, .int .i64 n] 46 (0, 0))) := by show _ = _; rw [← hw0]; exact World.alloc_heap_new _ _
  have hz0 : w0.heap.size = w.heap.size + 1 := by rw [← hw0]; simp
  have HE0 : Hid (EmIs lo w0 E v l) := he.grow HB0.out
  -- the register is put into the box
  obtain ⟨w1, hw1⟩ : ∃ W, w0.setCell ⟨w.heap.size, 1, none⟩ (.int .i64 r) = W := ⟨_, rfl⟩
  have HX1 : Hid (w1.heap[w.heap.size]? = some (.cells #[.int .i64 op, .int .i64 r, .int .i64 a, .int .i64 b, .int .i64 n] 46 (0, 0))) := by
    show _ = _
    rw [← hw1]
    have h9 := HX0.out
    simp [World.setCell, Array.getElem?_modify, h9]
  have HB1 : Hid (Below w.heap.size w w1) := by show Below _ _ _; rw [← hw1]; exact HB0.out.setCell (p := ⟨w.heap.size, 1, none⟩) (Nat.le_refl _) _
  have HZ1 : Hid (w1.heap.size = w.heap.size + 1) := by show _ = _; rw [← hw1]; simpa using hz0
  have HE1 : Hid (EmIs lo w1 E v l) := he.grow HB1.out
  have q0 : w1.cell? ⟨w.heap.size, 0, none⟩ = some (.int .i64 op) := by simp [World.cell?, HX1.out]
  have q1 : w1.cell? ⟨w.heap.size, 1, none⟩ = some (.int .i64 r) := by simp [World.cell?, HX1.out]
  have q2 : w1.cell? ⟨w.heap.size, 2, none⟩ = some (.int .i64 a) := by simp [World.cell?, HX1.out]
  have q3 : w1.cell? ⟨w.heap.size, 3, none⟩ = some (.int .i64 b) := by simp [World.cell?, HX1.out]
  have q4 : w1.cell? ⟨w.heap.size, 4, none⟩ = some (.int .i64 n) := by simp [World.cell?, HX1.out]
  have p1 : w0.cell? ⟨w.heap.size, 1, none⟩ = some (.int .i64 r0) := by simp [World.cell?, HX0.out]
  have g1 : w0.frozen? ⟨w.heap.size, 1, none⟩ = false := by simp [World.frozen?, HX0.out]
  have d1 : w0.cell? ⟨E, 1, none⟩ = some (.func (.func 90) #[] #[]) := HE0.out.cells.2.1
  clear he c0 c1 f0 hz0
  go_enter Tryz.func141, Tryz.ntmps141
  go_wp2_with fail
  try rw [hw0]
  refine (registerOf_any h 6 _).mono ?_
  rw [HRR.out]
  rintro e w2 ⟨rfl, hw2⟩
  subst hw2
  clear hw0 d1
  go_wp2_with fail
  try rw [hw1]
  clear hw1 p1 g1 q0 q1 q2 q3 q4
  refine (put_one lo E v l op r a b n _ HE1.out (by have := HZ1.out; omega) (by omega)).mono ?_
  rintro e w3 ⟨x, v3, rfl, _, h1, h2⟩
  have HE3 : Hid (EmIs lo w3 E v3 (l ++ [⟨op, r, a, b, n⟩])) := h1
  have HTO : Hid (EmTo lo E w v w3 v3) := (EmTo.grow v HB1.out hlo).trans h2
  have hvlt : some w.heap.size ≠ v.ownBlock := fun e => by
    have := (HE.out.own.lt _ e.symm).2
    omega
  have hX3 : w3.heap[w.heap.size]? = some (.cells #[.int .i64 op, .int .i64 r, .int .i64 a, .int .i64 b, .int .i64 n] 46 (0, 0)) := (h2.same _ (by have := HZ1.out; omega) (by omega) hvlt).trans HX1.out
  have t1 : w3.cell? ⟨w.heap.size, 1, none⟩ = some (.int .i64 r) := by simp [World.cell?, hX3]
  have HZ3 : Hid (w.heap.size ≤ w3.heap.size) := by show _ ≤ _; have h8 := h2.bel.size; have := HZ1.out; omega
  have HNV : Hid (some w.heap.size ≠ v3.ownBlock) := fun e9 => by
    rcases h2.new with e5 | ⟨g5, e5, h5⟩
    · rw [e5] at e9; exact hvlt e9
    · rw [e5] at e9
      simp at e9
      have := HZ1.out
      omega
  have hlt3 : w.heap.size < w3.heap.size := by have h8 := h2.bel.size; have := HZ1.out; omega
  clear h1 h2 hX3 hvlt
  by_cases h4 : 4 ≤ h
  · have hd : decide (4 ≤ h) = true := by simpa using h4
    obtain ⟨hs, HHS⟩ : ∃ z, Hid (h - 4 = z) := ⟨_, rfl⟩
    have e6 : r = 6 := by rw [← HRR.out]; unfold takeR; rw [if_pos h4]
    subst e6
    have e9 : l ++ giveL h op a b n = (l ++ [⟨op, 6, a, b, n⟩]) ++ [⟨4, 0, 6, 0, hs⟩] := by unfold giveL; rw [if_pos h4, HHS.out]; simp
    have HE9 : Hid (l ++ giveL h op a b n = (l ++ [⟨op, 6, a, b, n⟩]) ++ [⟨4, 0, 6, 0, hs⟩]) := e9
    clear e9
    go_wp2_with fail
    refine (isSlot_any h _).mono ?_
    rw [hd]
    rintro e w4 ⟨rfl, hw4⟩
    subst hw4
    go_wp2_with fail
    refine wp_region_held_drew (S := fun w' => w'.cell? ⟨w.heap.size, 1, none⟩ = some (.int .i64 6)) (by kernel_rfl) t1 (fun hHeld => ?_)
    refine wpAnyH_take (i := 0) (oi := { dst := some 19, op := Go.Op.move (Go.Operand.tmp 0), type := 65, pos := "l15_emit.go:108", after := #[], guard := none }) (v := ?_) rfl (by kernel_rfl) (by kernel_rfl) (by kernel_rfl) (fun _ _ _ h => h) (Or.inl ⟨by rfl, ?_⟩) (by assumption) ?_
    rotate_left
    · intro w hSw
      (try dsimp only at hSw)
      go_simp
      (try with_reducible rfl)
    try simp only [Act.put, List.setIfInBounds_toArray, List.set_cons_zero, List.set_cons_succ]
    refine wpAnyH_take (i := 1) (oi := { dst := some 20, op := Go.Op.fieldAddr 46 (Go.Operand.tmp 5) 1, type := 0, pos := "l15_emit.go:108", after := #[], guard := none }) (v := ?_) rfl (by kernel_rfl) (by kernel_rfl) (by kernel_rfl) (fun _ _ _ h => h) (Or.inl ⟨by rfl, ?_⟩) (by assumption) ?_
    rotate_left
    · intro w hSw
      (try dsimp only at hSw)
      go_simp
      (try with_reducible rfl)
    try simp only [Act.put, List.setIfInBounds_toArray, List.set_cons_zero, List.set_cons_succ]
    refine wpAnyH_take (i := 2) (oi := { dst := some 21, op := Go.Op.load 3 (Go.Operand.tmp 20), type := 3, pos := "l15_emit.go:108", after := #[{ on := 1, ground := Go.Ground.data }], guard := none }) (v := ?_) rfl (by kernel_rfl) (by kernel_rfl) (by kernel_rfl) (fun _ _ _ h => h) (Or.inl ⟨by rfl, ?_⟩) (by assumption) ?_
    rotate_left
    · intro w hSw
      (try dsimp only at hSw)
      go_simp
      (try with_reducible rfl)
    try simp only [Act.put, List.setIfInBounds_toArray, List.set_cons_zero, List.set_cons_succ]
    refine wpAnyH_take (i := 3) (oi := { dst := some 22, op := Go.Op.move (Go.Operand.tmp 1), type := 3, pos := "l15_emit.go:108", after := #[], guard := none }) (v := ?_) rfl (by kernel_rfl) (by kernel_rfl) (by kernel_rfl) (fun _ _ _ h => h) (Or.inl ⟨by rfl, ?_⟩) (by assumption) ?_
    rotate_left
    · intro w hSw
      (try dsimp only at hSw)
      go_simp
      (try with_reducible rfl)
    try simp only [Act.put, List.setIfInBounds_toArray, List.set_cons_zero, List.set_cons_succ]
    refine ckAnyH_oneK (i := 4) (o := { dst := some 23, op := Go.Op.call { callee := Go.Callee.value (Go.Operand.func 143), args := #[Go.Operand.tmp 22], argTypes := #[3] }, type := 3, pos := "l15_emit.go:108", after := #[{ on := 3, ground := Go.Ground.data }], guard := none }) rfl rfl (by kernel_rfl) (fun K9 hK9 => ?_)
    refine wp_call_of (f := 143) (args := #[.int .i64 h]) (by go_simp) (slotOf_any h _ hb) ?_
    rintro e w5 ⟨rfl, hw5⟩
    subst hw5
    rw [HHS.out]
    refine ⟨_, rfl, hK9 _ _ ⟨hHeld, ?_⟩⟩
    try simp only [Act.put, List.setIfInBounds_toArray, List.set_cons_zero, List.set_cons_succ]
    clear hK9
    refine wpAnyH_take (i := 5) (oi := { dst := some 24, op := Go.Op.build 46 #[(0, Go.Operand.const (Go.Value.int Go.IntKind.i64 4)), (2, Go.Operand.tmp 21), (4, Go.Operand.tmp 23)], type := 46, pos := "l15_emit.go:108", after := #[{ on := 2, ground := Go.Ground.data }, { on := 4, ground := Go.Ground.data }], guard := none }) (v := ?_) rfl (by kernel_rfl) (by kernel_rfl) (by kernel_rfl) (fun _ _ _ h => h) (Or.inl ⟨by rfl, ?_⟩) (by assumption) ?_
    rotate_left
    · intro w hSw
      (try dsimp only at hSw)
      go_simp
      (try with_reducible rfl)
    try simp only [Act.put, List.setIfInBounds_toArray, List.set_cons_zero, List.set_cons_succ]
    refine ckAnyH_oneK (i := 6) (o := { dst := some 25, op := Go.Op.buildSlice 28 1 #[(0, Go.Operand.tmp 24)], type := 28, pos := "l15_emit.go:108", after := #[{ on := 5, ground := Go.Ground.data }], guard := none }) rfl rfl (by kernel_rfl) (fun K9 hK9 => ?_)
    have hS6 : (w4.drew.alloc (.cells #[.int .i64 4, .int .i64 0, .int .i64 6, .int .i64 0, .int .i64 hs] 46)).cell? ⟨w.heap.size, 1, none⟩ = some (.int .i64 6) := Bel.keeps (Bel.alloc _ _) hHeld
    refine wp_value (v := .slice (some ⟨w4.drew.heap.size, 0, none⟩) 1 1) (w' := w4.drew.alloc (.cells #[.int .i64 4, .int .i64 0, .int .i64 6, .int .i64 0, .int .i64 hs] 46)) (by simp [execOp, Instr.buildSlice, go_sem]) (hK9 _ _ ⟨hS6, ?_⟩)
    try simp only [Act.put, List.setIfInBounds_toArray, List.set_cons_zero, List.set_cons_succ]
    clear hK9
    refine ckAnyH_oneK (i := 7) (o := { dst := some 26, op := Go.Op.call { callee := Go.Callee.value (Go.Operand.func 45), args := #[Go.Operand.tmp 19, Go.Operand.tmp 25], argTypes := #[65, 28] }, type := 0, pos := "l15_emit.go:108", after := #[{ on := 0, ground := Go.Ground.data }, { on := 6, ground := Go.Ground.data }, { on := 4, ground := Go.Ground.chain }], guard := none }) rfl rfl (by kernel_rfl) (fun K9 hK9 => ?_)
    have hdr : Below w4.heap.size w4 w4.drew := (Below.refl _ w4).drew
    refine wp_call_of (f := 45) (args := #[.pointer (some ⟨E, 0, none⟩), .slice (some ⟨w4.drew.heap.size, 0, none⟩) 1 1]) (by go_simp) (put_one lo E v3 (l ++ [⟨op, 6, a, b, n⟩]) 4 0 6 0 hs w4.drew (HE3.out.grow hdr) (by have h8 := HZ3.out; have h9 := hdr.size; omega) (by rw [List.length_append, List.length_singleton]; omega)) ?_
    rintro e w6 ⟨x, v6, rfl, _, h1, h2⟩
    have HTO6 : EmTo lo E w v w6 v6 := (HTO.out.trans (EmTo.grow v3 hdr (by have h8 := HZ3.out; omega))).trans h2
    refine ⟨_, rfl, hK9 _ _ ⟨?_, ?_⟩⟩
    · have e8 := h2.same w.heap.size (Nat.lt_of_lt_of_le hlt3 hdr.size) (by omega) HNV.out
      exact (World.cell?_of_block (a := ⟨w.heap.size, 1, none⟩) e8).trans hHeld
    · refine wpAnyH_done (by kernel_rfl) ?_ _
      refine ⟨rfl, _, results_none rfl _ _ _, _, v6, rfl, trivial, by rw [HE9.out]; exact h1, HTO6⟩
  · have hd : decide (4 ≤ h) = false := by simpa using h4
    have e6 : r = h := by rw [← HRR.out]; unfold takeR; rw [if_neg h4]
    have HE9 : Hid (l ++ giveL h op a b n = l ++ [⟨op, r, a, b, n⟩]) := by show _ = _; unfold giveL; rw [if_neg h4, e6]
    clear e6
    go_wp2_with fail
    refine (isSlot_any h _).mono ?_
    rw [hd]
    rintro e w4 ⟨rfl, hw4⟩
    subst hw4
    go_wp2
    refine ⟨rfl, _, results_none rfl _ _ _, _, v3, rfl, trivial, by rw [HE9.out]; exact HE3.out, HTO.out⟩
end Go.Proofs.YtkejplddeelahaaGreatDoor
