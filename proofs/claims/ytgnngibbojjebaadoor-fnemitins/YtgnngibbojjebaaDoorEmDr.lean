/- The model's drawn places for code: whatever the bytes, some place. -/
import Derived.Test.YtgnngibbojjebaaDoorDrawInsC
import Derived.Test.YtgnngibbojjebaaDoorIns
import Derived.Handy
namespace Go.Proofs.YtgnngibbojjebaaDoor
open Go.ChangeShapes Go.WideShapes Go.ChangeAt Go.RowKit
set_option linter.unusedVariables false

def IBx (w : World) (X : Nat) (op d a b n : Int) : Prop := w.heap[X]? = some (.cells #[.int .i64 op, .int .i64 d, .int .i64 a, .int .i64 b, .int .i64 n] 25 (0, 0))
theorem IBx.cells {w : World} {X : Nat} {op d a b n : Int} (h : IBx w X op d a b n) : w.cell? ⟨X, 0, none⟩ = some (.int .i64 op) ∧ w.cell? ⟨X, 1, none⟩ = some (.int .i64 d) ∧ w.cell? ⟨X, 2, none⟩ = some (.int .i64 a) ∧ w.cell? ⟨X, 3, none⟩ = some (.int .i64 b) ∧ w.cell? ⟨X, 4, none⟩ = some (.int .i64 n) := by
  unfold IBx at h
  refine ⟨?_, ?_, ?_, ?_, ?_⟩ <;> simp [World.cell?, h]
theorem IBx.fz {w : World} {X : Nat} {op d a b n : Int} (h : IBx w X op d a b n) (j : Nat) : w.frozen? ⟨X, j, none⟩ = false := by
  unfold IBx at h
  simp [World.frozen?, h]
theorem Cur.ltE {w : World} {p : Nat} (h : Cur w p) : p < w.heap.size := Cur.lt h
/-- What the walk keeps: the answer's box, the place's box, the cursor. -/
structure KeptE (w : World) (p R X : Nat) (op d a b n : Int) (v : World) : Prop where
  res : IBx v R 0 0 0 0 0
  box : IBx v X op d a b n
  cur : Cur v p
  bel : Below w.heap.size w v
  ord : w.heap.size ≤ R ∧ R < p ∧ p < X
theorem IBx.fr {w w' : World} {X p : Nat} {op d a b n : Int} (h : IBx w X op d a b n) (hf : Fr p w w') (hx : X ≠ p) : IBx w' X op d a b n := (hf.block X (Array.getElem?_eq_some_iff.1 h).1 hx).trans h
theorem KeptE.draw {w v v' : World} {p R X : Nat} {op d a b n : Int} (h : KeptE w p R X op d a b n v) (hf : Fr p v v') (hc : Cur v' p) : KeptE w p R X op d a b n v' :=
  ⟨h.res.fr hf (by have := h.ord; omega), h.box.fr hf (by have := h.ord; omega), hc, h.bel.trans (hf.below (by have := h.ord; omega) h.bel.size), h.ord⟩
theorem KeptE.grow {w v v' : World} {p R X : Nat} {op d a b n : Int} (h : KeptE w p R X op d a b n v) (hb : Below v.heap.size v v') : KeptE w p R X op d a b n v' :=
  ⟨(hb.block R (Array.getElem?_eq_some_iff.1 h.res).1).trans h.res, (hb.block X (Array.getElem?_eq_some_iff.1 h.box).1).trans h.box, h.cur.later hb, Bel.after h.bel hb, h.ord⟩
def GivesPl (w : World) (e : Ending) (w' : World) : Prop := ∃ op d a b n : Int, e = .returned (.agg #[.int .i64 op, .int .i64 d, .int .i64 a, .int .i64 b, .int .i64 n]) ∧ Below w.heap.size w w'
set_option maxHeartbeats 1000000 in
theorem drawInsC_any (p : Nat) (w : World) (hc : Cur w p) :
    Calls Tryd.prog 28 #[.pointer (some ⟨p, 0, none⟩)] w fun e w' => ∃ op d a b n : Int, e = .returned (.agg #[.int .i64 op, .int .i64 d, .int .i64 a, .int .i64 b, .int .i64 n]) ∧ Fr p w w' ∧ (p < w.heap.size → Cur w' p) := by
  have HC : Hid (Cur w p) := hc
  have hp := hc.lt
  clear hc
  go_enter Tryd.func28, Tryd.ntmps28
  go_wp2_with fail
  refine (pickint_any p (w.heap.size + 1) [0, 1, 5, 10, 11, 20, 21, 22, 23, 24, 25, 26] 12 _ (HC.out.later ((Bel.after (Bel.alloc w _) (Bel.alloc _ _)))) (by omega) rfl (by omega) (by omega) (fun j hj => ?_)).mono ?_
  · have h := cells_at (w.alloc (.cells #[.int .i64 0, .int .i64 0, .int .i64 0, .int .i64 0, .int .i64 0] 25)) 3 [0, 1, 5, 10, 11, 20, 21, 22, 23, 24, 25, 26] j hj
    simpa using h
  rintro e w1 ⟨op, rfl, _, hf1, hc1⟩
  have F1 : Hid (Fr p w w1) := (Fr.ofBelow (Bel.after (Bel.alloc w _) (Bel.alloc _ _))).trans hf1
  have hb : ∀ j, j < 5 → w1.cell? ⟨w.heap.size, j, none⟩ = some (.int .i64 0) := by
    intro j hj
    rw [hf1.cell (x := ⟨w.heap.size, j, none⟩) (by simp; omega) (by show w.heap.size ≠ p; omega)]
    have h5 : j = 0 ∨ j = 1 ∨ j = 2 ∨ j = 3 ∨ j = 4 := by omega
    rcases h5 with rfl | rfl | rfl | rfl | rfl <;> simp
  have hz : ∀ j, j < 5 → w1.frozen? ⟨w.heap.size, j, none⟩ = false := by
    intro j hj
    rw [hf1.frozen (x := ⟨w.heap.size, j, none⟩) (by simp; omega) (by show w.heap.size ≠ p; omega)]
    have h5 : j = 0 ∨ j = 1 ∨ j = 2 ∨ j = 3 ∨ j = 4 := by omega
    rcases h5 with rfl | rfl | rfl | rfl | rfl <;> simp
  clear hf1
  have HB : Hid (∀ j, j < 5 → w1.cell? ⟨w.heap.size, j, none⟩ = some (.int .i64 0)) := hb
  have HZ : Hid (∀ j, j < 5 → w1.frozen? ⟨w.heap.size, j, none⟩ = false) := hz
  clear hb hz
  go_wp2_with fail
  refine (below_any p 9 _ hc1).mono ?_
  rintro e w2 ⟨d, rfl, _, _, _, hf2, hc2⟩
  go_wp2_with fail
  refine (below_any p 9 _ hc2).mono ?_
  rintro e w3 ⟨a, rfl, _, _, _, hf3, hc3⟩
  go_wp2_with fail
  refine (below_any p 9 _ hc3).mono ?_
  rintro e w4 ⟨b, rfl, _, _, _, hf4, hc4⟩
  go_wp2_with fail
  refine (below_any p 3 _ hc4).mono ?_
  rintro e w5 ⟨n, rfl, _, _, _, hf5, hc5⟩
  have F5 : Hid (Fr p w1 w5) := ((hf2.trans hf3).trans hf4).trans hf5
  have hlt : w.heap.size < w1.heap.size := World.block_lt_of_cell? w1 _ (HB.out 0 (by omega))
  have c0 : w5.cell? ⟨w.heap.size, 0, none⟩ = some (.int .i64 0) := by rw [F5.out.cell (x := ⟨w.heap.size, 0, none⟩) hlt (by show w.heap.size ≠ p; omega)]; exact HB.out 0 (by omega)
  have c1 : w5.cell? ⟨w.heap.size, 1, none⟩ = some (.int .i64 0) := by rw [F5.out.cell (x := ⟨w.heap.size, 1, none⟩) hlt (by show w.heap.size ≠ p; omega)]; exact HB.out 1 (by omega)
  have c2 : w5.cell? ⟨w.heap.size, 2, none⟩ = some (.int .i64 0) := by rw [F5.out.cell (x := ⟨w.heap.size, 2, none⟩) hlt (by show w.heap.size ≠ p; omega)]; exact HB.out 2 (by omega)
  have c3 : w5.cell? ⟨w.heap.size, 3, none⟩ = some (.int .i64 0) := by rw [F5.out.cell (x := ⟨w.heap.size, 3, none⟩) hlt (by show w.heap.size ≠ p; omega)]; exact HB.out 3 (by omega)
  have c4 : w5.cell? ⟨w.heap.size, 4, none⟩ = some (.int .i64 0) := by rw [F5.out.cell (x := ⟨w.heap.size, 4, none⟩) hlt (by show w.heap.size ≠ p; omega)]; exact HB.out 4 (by omega)
  have f0 : w5.frozen? ⟨w.heap.size, 0, none⟩ = false := by rw [F5.out.frozen (x := ⟨w.heap.size, 0, none⟩) hlt (by show w.heap.size ≠ p; omega)]; exact HZ.out 0 (by omega)
  have f1 : w5.frozen? ⟨w.heap.size, 1, none⟩ = false := by rw [F5.out.frozen (x := ⟨w.heap.size, 1, none⟩) hlt (by show w.heap.size ≠ p; omega)]; exact HZ.out 1 (by omega)
  have f2 : w5.frozen? ⟨w.heap.size, 2, none⟩ = false := by rw [F5.out.frozen (x := ⟨w.heap.size, 2, none⟩) hlt (by show w.heap.size ≠ p; omega)]; exact HZ.out 2 (by omega)
  have f3 : w5.frozen? ⟨w.heap.size, 3, none⟩ = false := by rw [F5.out.frozen (x := ⟨w.heap.size, 3, none⟩) hlt (by show w.heap.size ≠ p; omega)]; exact HZ.out 3 (by omega)
  have f4 : w5.frozen? ⟨w.heap.size, 4, none⟩ = false := by rw [F5.out.frozen (x := ⟨w.heap.size, 4, none⟩) hlt (by show w.heap.size ≠ p; omega)]; exact HZ.out 4 (by omega)
  clear hf2 hf3 hf4 hf5 hc1 hc2 hc3 hc4
  have HC5 : Hid (Cur w5 p) := hc5
  clear hc5
  go_wp2
  refine bodyPost_ret (v := .agg #[.int .i64 op, .int .i64 d, .int .i64 a, .int .i64 b, .int .i64 n]) (by simp [results, Tryd.results28, go_sem, c0, c1, c2, c3, c4]) rfl ?_
  refine ⟨op, d, a, b, n, rfl, ?_, fun hp9 => HC5.out.below hp9 (Below.setCell (Below.setCell (Below.setCell (Below.setCell (Below.setCell (Below.refl _ _) (p := ⟨w.heap.size, 0, none⟩) (Nat.le_refl _) _) (p := ⟨w.heap.size, 1, none⟩) (Nat.le_refl _) _) (p := ⟨w.heap.size, 2, none⟩) (Nat.le_refl _) _) (p := ⟨w.heap.size, 3, none⟩) (Nat.le_refl _) _) (p := ⟨w.heap.size, 4, none⟩) (Nat.le_refl _) _)⟩
  exact ((((((F1.out.trans F5.out).setNew _ (Nat.le_refl _) _).setNew _ (Nat.le_refl _) _).setNew _ (Nat.le_refl _) _).setNew _ (Nat.le_refl _) _).setNew _ (Nat.le_refl _) _)

end Go.Proofs.YtgnngibbojjebaaDoor
