/- The model's drawn places and ends: whatever the bytes, some place, some end; nothing that was there is turned. -/
import Derived.Test.YtgnngibbojjebaaDoorDrawC
import Derived.Test.YtgnngibbojjebaaDoorIns
import Derived.Handy
namespace Go.Proofs.YtgnngibbojjebaaDoor
open Go.ChangeShapes Go.WideShapes Go.ChangeAt Go.RowKit
set_option linter.unusedVariables false

set_option maxHeartbeats 1000000 in
theorem pickint_any (p lb : Nat) (zs : List Int) (n : Nat) (w : World) (hc : Cur w p) (hne : lb ≠ p) (hl : zs.length = n) (hn : 0 < n) (hm : n ≤ 1000)
    (hcell : ∀ j, j < n → w.cell? ⟨lb, j, none⟩ = some (.int .i64 (zs.getD j 0))) :
    Calls Tryd.prog 30 #[.pointer (some ⟨p, 0, none⟩), .slice (some ⟨lb, 0, none⟩) n n] w fun e w' => ∃ x : Int, e = .returned (.int .i64 x) ∧ x ∈ zs ∧ Fr p w w' ∧ Cur w' p := by
  have HC : Hid (∀ j, j < n → w.cell? ⟨lb, j, none⟩ = some (.int .i64 (zs.getD j 0))) := hcell
  clear hcell
  have HM : Hid (∀ k, k < n → zs.getD k 0 ∈ zs) := by
    intro k hk
    rw [List.getD_eq_getElem?_getD, List.getElem?_eq_getElem (by omega)]
    exact List.getElem_mem (by omega)
  clear hl
  go_enter Tryd.func30, Tryd.ntmps30
  go_wp2_with fail
  refine (below_any p _ _ hc).mono ?_
  rintro e w1 ⟨x, rfl, hx0, hx1, hx2, hf1, hc1⟩
  obtain ⟨k, rfl⟩ := Int.eq_ofNat_of_zero_le hx0
  have hk : (k : Int) < (n : Int) := hx1 (by omega)
  have hk' : k < n := by omega
  have hin := HM.out k hk'
  have hy : w1.cell? ⟨lb, k, none⟩ = some (.int .i64 (zs.getD k 0)) := by
    have h := HC.out k hk'
    rw [hf1.cell (x := ⟨lb, k, none⟩) (World.block_lt_of_cell? w _ h) hne]
    exact h
  clear hx1 hx2
  generalize zs.getD k 0 = y at *
  go_wp2
  go_ret
  exact ⟨_, rfl, hin, hf1, hc1⟩

/-- A row of known numbers, just made. -/
theorem cells_at (w : World) (t : TypeId) (zs : List Int) (j : Nat) (hj : j < zs.length) :
    (w.alloc (.cells (zs.map (Value.int .i64)).toArray t)).cell? ⟨w.heap.size, j, none⟩ = some (.int .i64 (zs.getD j 0)) := by
  rw [World.cell?_alloc_new]
  simp [hj]

theorem Fr.setNew {p : Nat} {a w : World} (h : Fr p a w) (x : Addr) (hx : a.heap.size ≤ x.block) (u : Value) : Fr p a (w.setCell x u) :=
  ⟨h.os, h.tape, h.output, by have := h.size; simpa [World.setCell] using this, fun k hk hp => (Below.heap_setCell w x u k (by omega)).trans (h.block k hk hp)⟩

set_option maxHeartbeats 1000000 in
theorem drawIns_any (p : Nat) (w : World) (hc : Cur w p) :
    Calls Tryd.prog 28 #[.pointer (some ⟨p, 0, none⟩)] w fun e w' => ∃ op d a b n : Int, e = .returned (.agg #[.int .i64 op, .int .i64 d, .int .i64 a, .int .i64 b, .int .i64 n]) ∧ Fr p w w' := by
  have HC : Hid (Cur w p) := hc
  have hp := hc.lt
  clear hc
  go_enter Tryd.func28, Tryd.ntmps28
  go_wp2_with fail
  refine (pickint_any p (w.heap.size + 1) [0, 1, 5, 10, 11, 20, 21, 22, 23, 24, 25, 26] 12 _ (HC.out.later ((Bel.after (Bel.alloc w _) (Bel.alloc _ _)))) (by omega) rfl (by omega) (by omega) (fun j hj => ?_)).mono ?_
  · have h := cells_at (w.alloc (.cells #[.int .i64 0, .int .i64 0, .int .i64 0, .int .i64 0, .int .i64 0] 25)) 3 [0, 1, 5, 10, 11, 20, 21, 22, 23, 24, 25, 26] j hj
    simpa using h
  rintro e w1 ⟨op, rfl, _, hf1, hc1⟩
  have F1 : Hid (Fr p w w1) := (Fr.ofBelow (Bel.after (Bel.alloc w _) (Bel.alloc _ _))).trans hf1
  have hb : ∀ j, j < 5 → w1.cell? ⟨w.heap.size, j, none⟩ = some (.int .i64 0) := by
    intro j hj
    rw [hf1.cell (x := ⟨w.heap.size, j, none⟩) (by simp; omega) (by show w.heap.size ≠ p; omega)]
    have h5 : j = 0 ∨ j = 1 ∨ j = 2 ∨ j = 3 ∨ j = 4 := by omega
    rcases h5 with rfl | rfl | rfl | rfl | rfl <;> simp
  have hz : ∀ j, j < 5 → w1.frozen? ⟨w.heap.size, j, none⟩ = false := by
    intro j hj
    rw [hf1.frozen (x := ⟨w.heap.size, j, none⟩) (by simp; omega) (by show w.heap.size ≠ p; omega)]
    have h5 : j = 0 ∨ j = 1 ∨ j = 2 ∨ j = 3 ∨ j = 4 := by omega
    rcases h5 with rfl | rfl | rfl | rfl | rfl <;> simp
  clear hf1
  have HB : Hid (∀ j, j < 5 → w1.cell? ⟨w.heap.size, j, none⟩ = some (.int .i64 0)) := hb
  have HZ : Hid (∀ j, j < 5 → w1.frozen? ⟨w.heap.size, j, none⟩ = false) := hz
  clear hb hz
  go_wp2_with fail
  refine (below_any p 9 _ hc1).mono ?_
  rintro e w2 ⟨d, rfl, _, _, _, hf2, hc2⟩
  go_wp2_with fail
  refine (below_any p 9 _ hc2).mono ?_
  rintro e w3 ⟨a, rfl, _, _, _, hf3, hc3⟩
  go_wp2_with fail
  refine (below_any p 9 _ hc3).mono ?_
  rintro e w4 ⟨b, rfl, _, _, _, hf4, hc4⟩
  go_wp2_with fail
  refine (below_any p 3 _ hc4).mono ?_
  rintro e w5 ⟨n, rfl, _, _, _, hf5, hc5⟩
  have F5 : Hid (Fr p w1 w5) := ((hf2.trans hf3).trans hf4).trans hf5
  have hlt : w.heap.size < w1.heap.size := World.block_lt_of_cell? w1 _ (HB.out 0 (by omega))
  have c0 : w5.cell? ⟨w.heap.size, 0, none⟩ = some (.int .i64 0) := by rw [F5.out.cell (x := ⟨w.heap.size, 0, none⟩) hlt (by show w.heap.size ≠ p; omega)]; exact HB.out 0 (by omega)
  have c1 : w5.cell? ⟨w.heap.size, 1, none⟩ = some (.int .i64 0) := by rw [F5.out.cell (x := ⟨w.heap.size, 1, none⟩) hlt (by show w.heap.size ≠ p; omega)]; exact HB.out 1 (by omega)
  have c2 : w5.cell? ⟨w.heap.size, 2, none⟩ = some (.int .i64 0) := by rw [F5.out.cell (x := ⟨w.heap.size, 2, none⟩) hlt (by show w.heap.size ≠ p; omega)]; exact HB.out 2 (by omega)
  have c3 : w5.cell? ⟨w.heap.size, 3, none⟩ = some (.int .i64 0) := by rw [F5.out.cell (x := ⟨w.heap.size, 3, none⟩) hlt (by show w.heap.size ≠ p; omega)]; exact HB.out 3 (by omega)
  have c4 : w5.cell? ⟨w.heap.size, 4, none⟩ = some (.int .i64 0) := by rw [F5.out.cell (x := ⟨w.heap.size, 4, none⟩) hlt (by show w.heap.size ≠ p; omega)]; exact HB.out 4 (by omega)
  have f0 : w5.frozen? ⟨w.heap.size, 0, none⟩ = false := by rw [F5.out.frozen (x := ⟨w.heap.size, 0, none⟩) hlt (by show w.heap.size ≠ p; omega)]; exact HZ.out 0 (by omega)
  have f1 : w5.frozen? ⟨w.heap.size, 1, none⟩ = false := by rw [F5.out.frozen (x := ⟨w.heap.size, 1, none⟩) hlt (by show w.heap.size ≠ p; omega)]; exact HZ.out 1 (by omega)
  have f2 : w5.frozen? ⟨w.heap.size, 2, none⟩ = false := by rw [F5.out.frozen (x := ⟨w.heap.size, 2, none⟩) hlt (by show w.heap.size ≠ p; omega)]; exact HZ.out 2 (by omega)
  have f3 : w5.frozen? ⟨w.heap.size, 3, none⟩ = false := by rw [F5.out.frozen (x := ⟨w.heap.size, 3, none⟩) hlt (by show w.heap.size ≠ p; omega)]; exact HZ.out 3 (by omega)
  have f4 : w5.frozen? ⟨w.heap.size, 4, none⟩ = false := by rw [F5.out.frozen (x := ⟨w.heap.size, 4, none⟩) hlt (by show w.heap.size ≠ p; omega)]; exact HZ.out 4 (by omega)
  clear hf2 hf3 hf4 hf5 hc1 hc2 hc3 hc4
  clear hc5
  go_wp2
  refine bodyPost_ret (v := .agg #[.int .i64 op, .int .i64 d, .int .i64 a, .int .i64 b, .int .i64 n]) (by simp [results, Tryd.results28, go_sem, c0, c1, c2, c3, c4]) rfl ?_
  refine ⟨op, d, a, b, n, rfl, ?_⟩
  exact ((((((F1.out.trans F5.out).setNew _ (Nat.le_refl _) _).setNew _ (Nat.le_refl _) _).setNew _ (Nat.le_refl _) _).setNew _ (Nat.le_refl _) _).setNew _ (Nat.le_refl _) _)


end Go.Proofs.YtgnngibbojjebaaDoor
