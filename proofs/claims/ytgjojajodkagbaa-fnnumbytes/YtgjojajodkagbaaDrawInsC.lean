/- The model's drawn places and ends: whatever the bytes, some place, some end; nothing that was there is turned. -/
import Derived.Test.YtgjojajodkagbaaDrawC
import Derived.Test.YtgjojajodkagbaaIns
import Derived.Handy
namespace Go.Proofs.Ytgjojajodkagbaa
open Go.ChangeShapes Go.WideShapes Go.ChangeAt Go.RowKit
set_option linter.unusedVariables false

set_option maxHeartbeats 1000000 in
theorem pickint_any (p lb : Nat) (zs : List Int) (n : Nat) (w : World) (hc : Cur w p) (hne : lb ≠ p) (hl : zs.length = n) (hn : 0 < n) (hm : n ≤ 1000)
    (hcell : ∀ j, j < n → w.cell? ⟨lb, j, none⟩ = some (.int .i64 (zs.getD j 0))) :
    Calls Try.prog 26 #[.pointer (some ⟨p, 0, none⟩), .slice (some ⟨lb, 0, none⟩) n n] w fun e w' => ∃ x : Int, e = .returned (.int .i64 x) ∧ x ∈ zs ∧ Fr p w w' ∧ Cur w' p := by
  have HC : Hid (∀ j, j < n → w.cell? ⟨lb, j, none⟩ = some (.int .i64 (zs.getD j 0))) := hcell
  clear hcell
  have HM : Hid (∀ k, k < n → zs.getD k 0 ∈ zs) := by
    intro k hk
    rw [List.getD_eq_getElem?_getD, List.getElem?_eq_getElem (by omega)]
    exact List.getElem_mem (by omega)
  clear hl
  go_enter Try.func26, Try.ntmps26
  go_wp2_with fail
  refine (below_any p _ _ hc).mono ?_
  rintro e w1 ⟨x, rfl, hx0, hx1, hx2, hf1, hc1⟩
  obtain ⟨k, rfl⟩ := Int.eq_ofNat_of_zero_le hx0
  have hk : (k : Int) < (n : Int) := hx1 (by omega)
  have hk' : k < n := by omega
  have hin := HM.out k hk'
  have hy : w1.cell? ⟨lb, k, none⟩ = some (.int .i64 (zs.getD k 0)) := by
    have h := HC.out k hk'
    rw [hf1.cell (x := ⟨lb, k, none⟩) (World.block_lt_of_cell? w _ h) hne]
    exact h
  clear hx1 hx2
  generalize zs.getD k 0 = y at *
  go_wp2
  go_ret
  exact ⟨_, rfl, hin, hf1, hc1⟩

/-- A row of known numbers, just made. -/
theorem cells_at (w : World) (t : TypeId) (zs : List Int) (j : Nat) (hj : j < zs.length) :
    (w.alloc (.cells (zs.map (Value.int .i64)).toArray t)).cell? ⟨w.heap.size, j, none⟩ = some (.int .i64 (zs.getD j 0)) := by
  rw [World.cell?_alloc_new]
  simp [hj]

theorem Fr.setNew {p : Nat} {a w : World} (h : Fr p a w) (x : Addr) (hx : a.heap.size ≤ x.block) (u : Value) : Fr p a (w.setCell x u) :=
  ⟨h.os, h.tape, h.output, by have := h.size; simpa [World.setCell] using this, fun k hk hp => (Below.heap_setCell w x u k (by omega)).trans (h.block k hk hp)⟩



end Go.Proofs.Ytgjojajodkagbaa
