/- Trimming: the program's Trim and Trimmed. -/
import Derived.Test.YtgnngibbojjebaaDoorTrI1
namespace Go.Proofs.YtgnngibbojjebaaDoor
open Go.ChangeShapes Go.WideShapes Go.ChangeAt Go.RowKit
set_option linter.unusedVariables false

theorem names_jump (op : Int) : (formOk op && decide ((formV op).n = 3)) = decide (op = 9 ∨ op = 10) := by
  rcases op_kinds op with rfl | rfl | rfl | rfl | rfl | rfl | rfl | rfl | rfl | rfl | rfl | ⟨h1, h2⟩ | h
  all_goals first | rfl | skip
  · rw [formV_word h1 h2]
    simp
    omega
  · rw [formOk_no h]
    simp
    omega

theorem namesPlace_any (op : Int) (w : World) (hr : -9223372036854775808 ≤ op ∧ op ≤ 9223372036854775807) (hT : FTab w) :
    Calls Tryd.prog 70 #[.int .i64 op] w fun e w' => AnsB w (decide (op = 9 ∨ op = 10)) e w' := by
  rw [← names_jump]
  obtain ⟨f, HF⟩ : ∃ f, Hid (formV op = f) := ⟨_, rfl⟩
  obtain ⟨q, HQ⟩ : ∃ q, Hid (formOk op = q) := ⟨_, rfl⟩
  rw [HF.out, HQ.out]
  obtain ⟨f0, f1, f2, f3⟩ := f
  dsimp only
  go_enter Tryd.func70, Tryd.ntmps70
  go_wp2_with fail
  refine (formOf_any op _ hr hT).mono ?_
  rintro e w1 ⟨rfl, b1⟩
  rw [HF.out, HQ.out]
  dsimp only
  cases q with
  | false =>
    go_wp2
    go_ret
    exact ⟨rfl, by first | exact b1 | exact Bel.after b1 (by repeat (first | exact Below.refl _ _ | apply Below.drew | refine Below.alloc ?_ (by simp <;> omega) _ | refine Below.setCell ?_ (by simp <;> omega) _))⟩
  | true =>
    go_wp2
    go_ret
    exact ⟨retB (by rw [Bool.eq_iff_iff]; simp), by first | exact b1 | exact Bel.after b1 (by repeat (first | exact Below.refl _ _ | apply Below.drew | refine Below.alloc ?_ (by simp <;> omega) _ | refine Below.setCell ?_ (by simp <;> omega) _))⟩

def stepV (x : InsD) : Value := .agg #[.int .i64 x.op, .int .i64 x.d, .int .i64 x.a, .int .i64 x.b, .int .i64 x.n]
theorem thenL_len (l : List InsD) : (thenL l).length = l.length := by unfold thenL; exact listN_len _ _
theorem thenL_at {l : List InsD} {i : Nat} (h : i < l.length) : (thenL l).getD i 0 = (keptN l i : Int) := by unfold thenL; exact listN_at _ _ h
theorem results_step {fn : Func} {t : Tmp} (h : fn.results = #[.cell t 32]) (tmps : Array Value) (w : World) {B : Nat} {x0 x1 x2 x3 x4 : Value} (hp : tmps.getD t undef = .pointer (some ⟨B, 0, none⟩)) (hb : w.heap[B]? = some (.cells #[x0, x1, x2, x3, x4] 32 (0, 0))) : (results fn tmps).run Tryd.prog w = .ok (.agg #[x0, x1, x2, x3, x4]) w := by
  have hp' : tmps[t]?.getD undef = .pointer (some ⟨B, 0, none⟩) := by simpa using hp
  have r0 : w.cell? ⟨B, 0, none⟩ = some x0 := by simp [World.cell?, hb]
  have r1 : w.cell? ⟨B, 1, none⟩ = some x1 := by simp [World.cell?, hb]
  have r2 : w.cell? ⟨B, 2, none⟩ = some x2 := by simp [World.cell?, hb]
  have r3 : w.cell? ⟨B, 3, none⟩ = some x3 := by simp [World.cell?, hb]
  have r4 : w.cell? ⟨B, 4, none⟩ = some x4 := by simp [World.cell?, hb]
  simp [results, h, hp', go_sem, r0, r1, r2, r3, r4]
theorem step_put {W0 : World} {B : Nat} {x0 x1 x2 x3 x4 : Value} {T : TypeId} {z : Nat × Nat} (h : W0.heap[B]? = some (.cells #[x0, x1, x2, x3, x4] T z)) (k0 k1 k2 k3 k4 : Value) : (((((W0.setCell ⟨B, 0, none⟩ k0).setCell ⟨B, 1, none⟩ k1).setCell ⟨B, 2, none⟩ k2).setCell ⟨B, 3, none⟩ k3).setCell ⟨B, 4, none⟩ k4).heap[B]? = some (.cells #[k0, k1, k2, k3, k4] T z) := by
  simp [World.setCell, Array.getElem?_modify, h]
theorem below_five {w0 w : World} {b B : Nat} (h : Below b w0 w) (hB : b ≤ B) (o : Nat) (k0 k1 k2 k3 k4 : Value) : Below b w0 (((((w.setCell ⟨B, o, none⟩ k0).setCell ⟨B, o + 1, none⟩ k1).setCell ⟨B, o + 2, none⟩ k2).setCell ⟨B, o + 3, none⟩ k3).setCell ⟨B, o + 4, none⟩ k4) :=
  ((((h.setCell (p := ⟨B, o, none⟩) hB _).setCell (p := ⟨B, o + 1, none⟩) hB _).setCell (p := ⟨B, o + 2, none⟩) hB _).setCell (p := ⟨B, o + 3, none⟩) hB _).setCell (p := ⟨B, o + 4, none⟩) hB _
/-- A box of a step. -/
def SBox (w : World) (B : Nat) (x0 x1 x2 x3 x4 : Int) : Prop := w.heap[B]? = some (.cells #[.int .i64 x0, .int .i64 x1, .int .i64 x2, .int .i64 x3, .int .i64 x4] 32 (0, 0))
theorem SBox.at {w : World} {B : Nat} {x0 x1 x2 x3 x4 : Int} (h : SBox w B x0 x1 x2 x3 x4) : w.cell? ⟨B, 0, none⟩ = some (.int .i64 x0) ∧ w.cell? ⟨B, 1, none⟩ = some (.int .i64 x1) ∧ w.cell? ⟨B, 2, none⟩ = some (.int .i64 x2) ∧ w.cell? ⟨B, 3, none⟩ = some (.int .i64 x3) ∧ w.cell? ⟨B, 4, none⟩ = some (.int .i64 x4) := by
  unfold SBox at h
  refine ⟨?_, ?_, ?_, ?_, ?_⟩ <;> simp [World.cell?, h]
theorem SBox.fz {w : World} {B : Nat} {x0 x1 x2 x3 x4 : Int} (h : SBox w B x0 x1 x2 x3 x4) (j : Nat) : w.frozen? ⟨B, j, none⟩ = false := by
  unfold SBox at h
  simp [World.frozen?, h]
theorem SBox.keep {w w' : World} {B : Nat} {x0 x1 x2 x3 x4 : Int} (h : SBox w B x0 x1 x2 x3 x4) (hb : Below w.heap.size w w') : SBox w' B x0 x1 x2 x3 x4 := (hb.block B (Array.getElem?_eq_some_iff.1 h).1).trans h
theorem SBox.lt {w : World} {B : Nat} {x0 x1 x2 x3 x4 : Int} (h : SBox w B x0 x1 x2 x3 x4) : B < w.heap.size := (Array.getElem?_eq_some_iff.1 h).1
theorem two_boxes (w : World) (x0 x1 x2 x3 x4 : Int) : SBox ((w.alloc (.cells #[.int .i64 x0, .int .i64 x1, .int .i64 x2, .int .i64 x3, .int .i64 x4] 32)).alloc (.cells #[.int .i64 0, .int .i64 0, .int .i64 0, .int .i64 0, .int .i64 0] 32)) w.heap.size x0 x1 x2 x3 x4 ∧ SBox ((w.alloc (.cells #[.int .i64 x0, .int .i64 x1, .int .i64 x2, .int .i64 x3, .int .i64 x4] 32)).alloc (.cells #[.int .i64 0, .int .i64 0, .int .i64 0, .int .i64 0, .int .i64 0] 32)) (w.heap.size + 1) 0 0 0 0 0 := by
  refine ⟨(Below.heap_alloc _ _ _ (by simp)).trans (World.alloc_heap_new w _), ?_⟩
  have h := World.alloc_heap_new (w.alloc (.cells #[.int .i64 x0, .int .i64 x1, .int .i64 x2, .int .i64 x3, .int .i64 x4] 32)) (.cells #[.int .i64 0, .int .i64 0, .int .i64 0, .int .i64 0, .int .i64 0] 32)
  rw [World.size_alloc] at h
  exact h

set_option maxHeartbeats 1000000 in
theorem goingTo_any (x0 x1 x2 x3 x4 : Int) (l : List InsD) (lo tg n tcap : Nat) (w : World) (hn : l.length = n) (ht : OwnInts w lo (.slice (some ⟨tg, 0, none⟩) n tcap) (thenL l)) (hr : -9223372036854775808 ≤ x0 ∧ x0 ≤ 9223372036854775807) (hT : FTab w) (hj : jumpB ⟨x0, x1, x2, x3, x4⟩ = true → 0 ≤ x4 ∧ x4 < (n : Int)) :
    Calls Tryd.prog 54 #[.agg #[.int .i64 x0, .int .i64 x1, .int .i64 x2, .int .i64 x3, .int .i64 x4], .slice (some ⟨tg, 0, none⟩) n tcap] w fun e w' => e = .returned (stepV (aimS l ⟨x0, x1, x2, x3, x4⟩)) ∧ Below w.heap.size w w' := by
  have HT : Hid (FTab w) := hT
  have hlt : tg < w.heap.size := (ht.lt tg rfl).2
  cases hq : jumpB ⟨x0, x1, x2, x3, x4⟩ with
  | false =>
    have e9 : aimS l ⟨x0, x1, x2, x3, x4⟩ = ⟨x0, x1, x2, x3, x4⟩ := by unfold aimS; rw [hq]; rfl
    rw [e9]
    unfold stepV
    dsimp only
    have hd : decide (x0 = 9 ∨ x0 = 10) = false := hq
    clear hq hT ht hj
    go_enter Tryd.func54, Tryd.ntmps54
    go_wp2_with fail
    refine (namesPlace_any x0 _ hr (HT.out.keep (by repeat (first | exact Below.refl _ _ | apply Below.drew | refine Below.alloc ?_ (by simp <;> omega) _ | refine Below.setCell ?_ (by simp <;> omega) _)))).mono ?_
    rw [hd]
    rintro e w1 ⟨rfl, b1⟩
    have B1 : Hid (Below w.heap.size w w1) := by show Below _ _ _; exact Bel.after (by repeat (first | exact Below.refl _ _ | apply Below.drew | refine Below.alloc ?_ (by simp <;> omega) _ | refine Below.setCell ?_ (by simp <;> omega) _)) b1
    have X1 := (two_boxes w x0 x1 x2 x3 x4).1.keep b1
    have Y1 := (two_boxes w x0 x1 x2 x3 x4).2.keep b1
    have HY : Hid (SBox w1 (w.heap.size + 1) 0 0 0 0 0) := Y1
    obtain ⟨c0, c1, c2, c3, c4⟩ := X1.at
    obtain ⟨d0, d1, d2, d3, d4⟩ := Y1.at
    have g0 := Y1.fz 0
    have g1 := Y1.fz 1
    have g2 := Y1.fz 2
    have g3 := Y1.fz 3
    have g4 := Y1.fz 4
    clear X1 Y1 b1
    go_wp2
    refine bodyPost_ret (results_step rfl _ _ rfl (step_put HY.out _ _ _ _ _)) rfl ?_
    exact ⟨rfl, below_five B1.out (by omega) 0 _ _ _ _ _⟩
  | true =>
    obtain ⟨k, rfl⟩ : ∃ k : Nat, x4 = (k : Int) := ⟨x4.toNat, by have := hj hq; omega⟩
    have hk : k < n := by have := hj hq; omega
    have hk2 : (k : Int) < (n : Int) := by omega
    have ck := ht.cellAt (i := k) hk
    rw [thenL_at (by omega)] at ck
    have HK : Hid (w.cell? ⟨tg, k, none⟩ = some (.int .i64 (keptN l k : Int))) := ck
    obtain ⟨q, HQ⟩ : ∃ q, Hid (keptN l k = q) := ⟨_, rfl⟩
    have e9 : aimS l ⟨x0, x1, x2, x3, (k : Int)⟩ = ⟨x0, x1, x2, x3, (q : Int)⟩ := by unfold aimS; rw [hq, ← HQ.out]; simp
    rw [e9]
    unfold stepV
    dsimp only
    have hd : decide (x0 = 9 ∨ x0 = 10) = true := hq
    clear hq hT ht hj ck
    go_enter Tryd.func54, Tryd.ntmps54
    go_wp2_with fail
    refine (namesPlace_any x0 _ hr (HT.out.keep (by repeat (first | exact Below.refl _ _ | apply Below.drew | refine Below.alloc ?_ (by simp <;> omega) _ | refine Below.setCell ?_ (by simp <;> omega) _)))).mono ?_
    rw [hd]
    rintro e w1 ⟨rfl, b1⟩
    have B1 : Hid (Below w.heap.size w w1) := by show Below _ _ _; exact Bel.after (by repeat (first | exact Below.refl _ _ | apply Below.drew | refine Below.alloc ?_ (by simp <;> omega) _ | refine Below.setCell ?_ (by simp <;> omega) _)) b1
    have X1 := (two_boxes w x0 x1 x2 x3 (k : Int)).1.keep b1
    have Y1 := (two_boxes w x0 x1 x2 x3 (k : Int)).2.keep b1
    have HY : Hid (SBox w1 (w.heap.size + 1) 0 0 0 0 0) := Y1
    have HX : Hid (SBox w1 w.heap.size x0 x1 x2 x3 (k : Int)) := X1
    obtain ⟨c0, c1, c2, c3, c4⟩ := X1.at
    obtain ⟨d0, d1, d2, d3, d4⟩ := Y1.at
    have ck := Bel.keeps B1.out HK.out
    rw [HQ.out] at ck
    have f4 := X1.fz 4
    have g0 := Y1.fz 0
    have g1 := Y1.fz 1
    have g2 := Y1.fz 2
    have g3 := Y1.fz 3
    have g4 := Y1.fz 4
    clear X1 Y1 b1
    go_wp2
    have HY2 : Hid (SBox (w1.setCell ⟨w.heap.size, 4, none⟩ (.int .i64 (q : Int))) (w.heap.size + 1) 0 0 0 0 0) := (Below.heap_setCell _ _ _ _ (by show w.heap.size + 1 ≠ w.heap.size; omega)).trans HY.out
    refine bodyPost_ret (results_step rfl _ _ rfl (step_put HY2.out _ _ _ _ _)) rfl ?_
    exact ⟨rfl, below_five (B1.out.setCell (p := ⟨w.heap.size, 4, none⟩) (Nat.le_refl _) _) (by omega) 0 _ _ _ _ _⟩

theorem clear_steps (w : World) (b n c : Nat) (hn : 0 < n) (hb : StBlk w b (c * 5)) (hc : n ≤ c) :
    ∃ w', (∀ ty, (Builtin.clear_ #[27] ty #[.slice (some ⟨b, 0, none⟩) n c]).run Tryd.prog w = .ok (.tuple #[]) w') ∧ StBlk w' b (c * 5) ∧ (∀ g, g ≠ b → w'.heap[g]? = w.heap[g]?) ∧ ∀ lo a0, lo ≤ b → Below lo a0 w → Below lo a0 w' := by
  have hzc : (Builtin.zeroCells #[Value.int .i64 0, .int .i64 0, .int .i64 0, .int .i64 0, .int .i64 0] n).toList = List.replicate (n * 5) (Value.int .i64 0) := by
    simp only [Builtin.zeroCells]
    apply List.ext_getElem
    · simp
    · intro i h1 h2
      have hm : i % 5 = 0 ∨ i % 5 = 1 ∨ i % 5 = 2 ∨ i % 5 = 3 ∨ i % 5 = 4 := by omega
      simp
      rcases hm with e | e | e | e | e <;> simp [e]
  have hv : ∀ w, (zeroValue 32).run Tryd.prog w = .ok (.agg #[.int .i64 0, .int .i64 0, .int .i64 0, .int .i64 0, .int .i64 0]) w := fun w => by
    obtain ⟨i0, hi, hz0, hz1, hz2⟩ := info_parts info_step
    simp [zeroValue, typeInfo, hi, hz0, go_sem]
  have hst := run_storeCells_cells (P := Tryd.prog) b 0 (List.replicate (n * 5) (Value.int .i64 0)) 0 w (fun j hj => by
      rw [List.length_replicate] at hj
      obtain ⟨⟨v, hv⟩, _⟩ := hb.cell (j := j) (by omega)
      simp [hv]) (fun j hj => by
      rw [List.length_replicate] at hj
      have h := (hb.cell (j := j) (by omega)).2
      simpa using h) (by intro v hv'; rw [List.eq_of_mem_replicate hv']; rfl)
  simp only [Nat.add_zero] at hst
  refine ⟨w.setCells b 0 (List.replicate (n * 5) (Value.int .i64 0)), fun ty => ?_, StBlk.sets _ _ hb, fun g hg => ?_, fun lo a0 hlo h => ?_⟩
  · obtain ⟨m, rfl⟩ : ∃ m, n = m + 1 := ⟨n - 1, by omega⟩
    simp [Builtin.clear_, run_underlying Tryd.underlying27, hv, hzc, hst, Value.cells]
  · have key : ∀ (vs : List Value) (o : Nat) (w : World), (w.setCells b o vs).heap[g]? = w.heap[g]? := by
      intro vs
      induction vs with
      | nil => intro o w; rfl
      | cons v vs ih => intro o w; exact (ih _ _).trans (Below.heap_setCell _ _ _ _ hg)
    exact key _ _ _
  · have key : ∀ (vs : List Value) (o : Nat) (w : World), Below lo a0 w → Below lo a0 (w.setCells b o vs) := by
      intro vs
      induction vs with
      | nil => intro o w h; exact h
      | cons v vs ih => intro o w h; exact ih _ _ (h.setCell (p := ⟨b, o, none⟩) hlo _)
    exact key _ _ _ h
end Go.Proofs.YtgnngibbojjebaaDoor
