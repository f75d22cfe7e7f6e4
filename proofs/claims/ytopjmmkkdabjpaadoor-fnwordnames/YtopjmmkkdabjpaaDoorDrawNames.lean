/- The model's drawn ops and names: whatever the bytes, DrawWordName returns an op from -1 to 12, DrawWordOf some text; neither turns anything that was there. -/
import Derived.Test.YtopjmmkkdabjpaaDoorDraw
import Derived.Test.YtopjmmkkdabjpaaDoorNames
namespace Go.Proofs.YtopjmmkkdabjpaaDoor
open Go.ChangeShapes Go.WideShapes Go.ChangeAt Go.RowKit
set_option linter.unusedVariables false

theorem Cur.lt {w : World} {p : Nat} (h : Cur w p) : p < w.heap.size := by
  obtain ⟨a, len, cap, zs, i, h, c0, _⟩ := h
  exact World.block_lt_of_cell? w _ c0

set_option maxHeartbeats 1000000 in
theorem pick_any (p lb L : Nat) (w : World) (hc : Cur w p) (hne : lb ≠ p) (hn : 0 < L) (hm : L ≤ 1000)
    (hcell : ∀ j, j < L → ∃ s, w.cell? ⟨lb, j, none⟩ = some (.string s)) :
    Calls Tryd.prog 16 #[.pointer (some ⟨p, 0, none⟩), .slice (some ⟨lb, 0, none⟩) L L] w fun e w' => ∃ s : ByteArray, e = .returned (.string s) ∧ Fr p w w' ∧ Cur w' p := by
  have HC : Hid (∀ j, j < L → ∃ s, w.cell? ⟨lb, j, none⟩ = some (.string s)) := hcell
  clear hcell
  go_enter Tryd.func16, Tryd.ntmps16
  go_wp2_with fail
  refine (below_any p _ _ hc).mono ?_
  rintro e w1 ⟨x, rfl, hx0, hx1, hx2, hf1, hc1⟩
  obtain ⟨k, rfl⟩ := Int.eq_ofNat_of_zero_le hx0
  have hk : (k : Int) < (L : Int) := hx1 (by omega)
  have hk' : k < L := by omega
  obtain ⟨s, hs⟩ := HC.out k hk'
  have hy : w1.cell? ⟨lb, k, none⟩ = some (.string s) := by
    rw [hf1.cell (x := ⟨lb, k, none⟩) (World.block_lt_of_cell? w _ hs) hne]
    exact hs
  clear hx1 hx2 hs
  go_wp2
  go_ret
  exact ⟨_, rfl, hf1, hc1⟩

theorem four_cell (w : World) (t : TypeId) (a b c d : ByteArray) (j : Nat) (hj : j < 4) :
    ∃ s, (w.alloc (.cells #[.string a, .string b, .string c, .string d] t)).cell? ⟨w.heap.size, j, none⟩ = some (.string s) := by
  rw [World.cell?_alloc_new]
  match j, hj with
  | 0, _ => exact ⟨_, rfl⟩
  | 1, _ => exact ⟨_, rfl⟩
  | 2, _ => exact ⟨_, rfl⟩
  | 3, _ => exact ⟨_, rfl⟩

set_option maxHeartbeats 1000000 in
theorem drawname_any (a : Option Addr) (len cap : Nat) (zs : List Int) (w : World) (hr : IsRow .u8 w a len cap zs) :
    Calls Tryd.prog 6 #[.slice a len cap] w fun e w' => ∃ op : Int, e = .returned (.int .i64 op) ∧ -1 ≤ op ∧ op ≤ 12 ∧ Below w.heap.size w w' := by
  go_enter Tryd.func6, Tryd.ntmps6
  go_wp2_with fail
  refine (new_any a len cap zs _ hr).mono ?_
  rintro e w1 ⟨rfl, hb1, hc1, hs1⟩
  generalize hp : w.heap.size = p at *
  clear hr
  go_wp2_with fail
  refine (below_any p _ _ hc1).mono ?_
  rintro e w2 ⟨op, rfl, hx0, hx1, hx2, hf2, hc2⟩
  have hx3 : op < 14 := hx1 (by omega)
  clear hx1 hx2 hc1
  go_wp2
  go_ret
  exact ⟨_, rfl, by omega, by omega, by rw [hp]; exact hb1.trans (hf2.below (Nat.le_refl _) (by omega))⟩

set_option maxHeartbeats 1000000 in
theorem drawof_any (a : Option Addr) (len cap : Nat) (zs : List Int) (w : World) (hr : IsRow .u8 w a len cap zs) :
    Calls Tryd.prog 7 #[.slice a len cap] w fun e w' => ∃ s : ByteArray, e = .returned (.string s) ∧ Below w.heap.size w w' := by
  go_enter Tryd.func7, Tryd.ntmps7
  go_wp2_with fail
  refine (new_any a len cap zs _ hr).mono ?_
  rintro e w1 ⟨rfl, hb1, hc1, hs1⟩
  generalize hp : w.heap.size = p at *
  clear hr
  go_wp2_with fail
  refine (once_any p _ _ hc1).mono ?_
  rintro e w2 ⟨b, rfl, hf2, hc2⟩
  have hlt2 := hc2.lt
  have hp2 : p ≤ w1.heap.size := by omega
  have HB2 : Hid (Below p w w2) := hb1.trans (hf2.below (Nat.le_refl _) hp2)
  clear hc1 hb1 hf2
  cases b
  · go_wp2_with fail
    refine (names_any _).mono ?_
    rintro e w3 ⟨t, rfl, hw3⟩
    have HT : Hid (∀ j : Nat, j < 11 → w3.cell? ⟨w2.heap.size, j, none⟩ = some (.string (nameV j))) := by
      intro j hj
      rw [hw3]
      exact list_cell w2 t j hj
    have hb3 : Below w2.heap.size w2 w3 := by rw [hw3]; exact below_one _ _
    have hc3 : Cur w3 p := hc2.later hb3
    have HB3 : Hid (Below p w w3) := HB2.out.trans (hb3.mono (by omega))
    have hs3 : p ≤ w3.heap.size := by have := hb3.size; omega
    clear hw3 HB2
    generalize hB : w2.heap.size = B at *
    clear hB
    go_wp2_with fail
    refine (below_any p _ _ hc3).mono ?_
    rintro e w4 ⟨x, rfl, hx0, hx1, hx2, hf4, hc4⟩
    obtain ⟨k, rfl⟩ := Int.eq_ofNat_of_zero_le hx0
    have hk : (k : Int) < 11 := hx1 (by omega)
    have hy : w4.cell? ⟨B, k, none⟩ = some (.string (nameV k)) := by
      have h := HT.out k (by omega)
      rw [hf4.cell (x := ⟨B, k, none⟩) (World.block_lt_of_cell? w3 _ h) (by show B ≠ p; omega)]
      exact h
    clear hx1 hx2
    generalize nameV k = s at *
    go_wp2
    go_ret
    exact ⟨_, rfl, by rw [hp]; exact HB3.out.trans (hf4.below (Nat.le_refl _) hs3)⟩
  · go_wp2_with fail
    refine (pick_any p w2.heap.size 4 _ (hc2.later (below_one _ _)) (by omega) (by omega) (by omega) (four_cell w2 _ _ _ _ _)).mono ?_
    rintro e w3 ⟨s, rfl, hf3, hc3⟩
    go_wp2
    go_ret
    exact ⟨_, rfl, by rw [hp]; exact (HB2.out.alloc (by omega) _).trans (hf3.below (Nat.le_refl _) (by simp; omega))⟩
end Go.Proofs.YtopjmmkkdabjpaaDoor
