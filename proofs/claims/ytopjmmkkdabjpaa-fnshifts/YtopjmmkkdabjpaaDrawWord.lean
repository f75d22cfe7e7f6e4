/- The model's drawn words: whatever the bytes, DrawWord returns an op from -1 to 11 and two numbers of 64 bits, and turns nothing that was there. -/
import Derived.Test.YtopjmmkkdabjpaaDraw
namespace Go.Proofs.Ytopjmmkkdabjpaa
open Go.ChangeShapes Go.WideShapes Go.ChangeAt Go.RowKit
set_option linter.unusedVariables false

/-- A number of 64 bits. -/
def I64 (x : Int) : Prop := -9223372036854775808 ≤ x ∧ x ≤ 9223372036854775807

set_option maxHeartbeats 1000000 in
theorem pickint_any (p lb : Nat) (zs : List Int) (w : World) (hc : Cur w p) (hne : lb ≠ p) (hn : 0 < zs.length) (hm : zs.length ≤ 1000)
    (hcell : ∀ j, j < zs.length → w.cell? ⟨lb, j, none⟩ = some (.int .i64 (zs.getD j 0))) :
    Calls Try.prog 30 #[.pointer (some ⟨p, 0, none⟩), .slice (some ⟨lb, 0, none⟩) zs.length zs.length] w fun e w' => ∃ x : Int, e = .returned (.int .i64 x) ∧ x ∈ zs ∧ Fr p w w' ∧ Cur w' p := by
  have HC : Hid (∀ j, j < zs.length → w.cell? ⟨lb, j, none⟩ = some (.int .i64 (zs.getD j 0))) := hcell
  clear hcell
  have HM : Hid (∀ k, k < zs.length → zs.getD k 0 ∈ zs) := by
    intro k hk
    rw [List.getD_eq_getElem?_getD, List.getElem?_eq_getElem hk]
    exact List.getElem_mem hk
  generalize hL : zs.length = L at *
  have HL : Hid (zs.length = L) := hL
  clear hL
  go_enter Try.func30, Try.ntmps30
  go_wp2_with fail
  refine (below_any p _ _ hc).mono ?_
  rintro e w1 ⟨x, rfl, hx0, hx1, hx2, hf1, hc1⟩
  obtain ⟨k, rfl⟩ := Int.eq_ofNat_of_zero_le hx0
  have hk : (k : Int) < (L : Int) := hx1 (by omega)
  have hk' : k < L := by omega
  have hin := HM.out k hk'
  have hy : w1.cell? ⟨lb, k, none⟩ = some (.int .i64 (zs.getD k 0)) := by
    have h := HC.out k hk'
    rw [hf1.cell (x := ⟨lb, k, none⟩) (World.block_lt_of_cell? w _ h) hne]
    exact h
  clear hx1 hx2
  generalize zs.getD k 0 = y at *
  go_wp2
  go_ret
  exact ⟨_, rfl, hin, hf1, hc1⟩

/-- The seven great numbers. -/
def seven : List Int := [9223372036854775807, -9223372036854775808, 4294967296, -1, 63, 64, 1000000007]
theorem seven_in (x : Int) (h : x ∈ seven) : I64 x := by
  unfold seven at h
  unfold I64
  simp only [List.mem_cons, List.not_mem_nil, or_false] at h
  omega

theorem seven_cell (w : World) (t : TypeId) (j : Nat) (hj : j < seven.length) :
    (w.alloc (.cells #[.int .i64 9223372036854775807, .int .i64 (-9223372036854775808), .int .i64 4294967296, .int .i64 (-1), .int .i64 63, .int .i64 64, .int .i64 1000000007] t)).cell? ⟨w.heap.size, j, none⟩ = some (.int .i64 (seven.getD j 0)) := by
  rw [World.cell?_alloc_new]
  have h7 : seven.length = 7 := rfl
  rw [h7] at hj
  match j, hj with
  | 0, _ => rfl
  | 1, _ => rfl
  | 2, _ => rfl
  | 3, _ => rfl
  | 4, _ => rfl
  | 5, _ => rfl
  | 6, _ => rfl

set_option maxHeartbeats 1000000 in
theorem drawnum_any (p : Nat) (w : World) (hc : Cur w p) :
    Calls Try.prog 15 #[.pointer (some ⟨p, 0, none⟩)] w fun e w' => ∃ x : Int, e = .returned (.int .i64 x) ∧ I64 x ∧ Fr p w w' ∧ Cur w' p := by
  go_enter Try.func15, Try.ntmps15
  go_wp2_with fail
  refine (once_any p _ _ hc).mono ?_
  rintro e w1 ⟨b, rfl, hf1, hc1⟩
  cases b
  · go_wp2_with fail
    refine (below_any p _ _ hc1).mono ?_
    rintro e w2 ⟨x, rfl, hx0, hx1, hx2, hf2, hc2⟩
    have hx3 : x < 20 := hx1 (by omega)
    clear hx1 hx2
    go_wp2
    go_ret
    exact ⟨_, rfl, by unfold I64; omega, hf1.trans hf2, hc2⟩
  · go_wp2_with fail
    have hp : p < w1.heap.size := by
      obtain ⟨a, len, cap, zs, i, h, c0, _⟩ := hc1
      exact World.block_lt_of_cell? w1 _ c0
    refine (pickint_any p w1.heap.size seven _ (hc1.later ((Below.refl _ _).alloc (Nat.le_refl _) _)) (by omega) (by decide) (by decide) (seven_cell w1 _)).mono ?_
    rintro e w2 ⟨x, rfl, hx, hf2, hc2⟩
    go_wp2
    go_ret
    exact ⟨_, rfl, seven_in _ hx, (hf1.trans ((Fr.refl p w1).alloc _)).trans hf2, hc2⟩

set_option maxHeartbeats 1000000 in
theorem drawword_any (a : Option Addr) (len cap : Nat) (zs : List Int) (w : World) (hr : IsRow .u8 w a len cap zs) :
    Calls Try.prog 8 #[.slice a len cap] w fun e w' => ∃ op x y : Int, e = .returned (.tuple #[.int .i64 op, .int .i64 x, .int .i64 y]) ∧ -1 ≤ op ∧ op ≤ 11 ∧ I64 x ∧ I64 y ∧ Below w.heap.size w w' := by
  go_enter Try.func8, Try.ntmps8
  go_wp2_with fail
  refine (new_any a len cap zs _ hr).mono ?_
  rintro e w1 ⟨rfl, hb1, hc1, hs1⟩
  generalize hp : w.heap.size = p at *
  clear hr
  go_wp2_with fail
  refine (below_any p _ _ hc1).mono ?_
  rintro e w2 ⟨op, rfl, hx0, hx1, hx2, hf2, hc2⟩
  have hx3 : op < 13 := hx1 (by omega)
  clear hx1 hx2 hc1
  go_wp2_with fail
  refine (drawnum_any p _ hc2).mono ?_
  rintro e w3 ⟨x, rfl, hx, hf3, hc3⟩
  clear hc2
  go_wp2_with fail
  refine (drawnum_any p _ hc3).mono ?_
  rintro e w4 ⟨y, rfl, hy, hf4, hc4⟩
  go_wp2
  go_ret3
  exact ⟨_, _, _, rfl, by omega, by omega, hx, hy, by rw [hp]; exact hb1.trans (((hf2.trans hf3).trans hf4).below (Nat.le_refl _) (by omega))⟩
end Go.Proofs.Ytopjmmkkdabjpaa
