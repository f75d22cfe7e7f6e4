/- A list of numbers that came in is copied: the laws' toIntS. -/
import Derived.Test.YtnkiljhdkpgamaaOwnAtS
import Derived.Test.YtnkiljhdkpgamaaDraw
namespace Go.Proofs.Ytnkiljhdkpgamaa
open Go.ChangeShapes Go.WideShapes Go.ChangeAt Go.RowKit
set_option linter.unusedVariables false

/-- The first k of l, then noughts. -/
def partL (l : List Int) (k : Nat) : Nat → Int := fun i => if i < k then l.getD i 0 else 0
theorem partL_next (l : List Int) (k : Nat) : updN (partL l k) k (l.getD k 0) = partL l (k + 1) := by
  funext i
  unfold updN partL
  by_cases h : i = k
  · subst h
    simp
  · by_cases h2 : i < k
    · have : i < k + 1 := by omega
      simp [h, h2, this]
    · have : ¬ i < k + 1 := by omega
      simp [h, h2, this]
theorem partL_all (l : List Int) : listN l.length (partL l l.length) = l := by
  apply List.ext_getElem?
  intro i
  by_cases hi : i < l.length
  · simp [listN, partL, hi, List.getD]
  · rw [List.getElem?_eq_none (by simp [listN]; omega), List.getElem?_eq_none (by omega)]
theorem getD_take {l : List Int} {n i : Nat} (h : i < n) : (l.take n).getD i 0 = l.getD i 0 := by
  rw [List.getD_eq_getElem?_getD, List.getD_eq_getElem?_getD, List.getElem?_take]
  simp [h]

set_option maxHeartbeats 2000000 in
theorem toIntS_any (a : Option Addr) (len cap : Nat) (zs : List Int) (w : World) (h : IsRow .i64 w a len cap zs) (hl : len ≤ 1048576) :
    Calls Try.prog 5 #[.slice a len cap] w fun e w' => GivesOwn w (zs.take len) e w' := by
  obtain ⟨L, HL⟩ : ∃ L, Hid (zs.take len = L) := ⟨_, rfl⟩
  have HLN : Hid (L.length = len) := by
    show L.length = len
    rw [← HL.out, List.length_take]
    rcases h with ⟨_, h1, _, h2⟩ | ⟨_, _, h1, _, h2, _⟩
    · rw [h2, h1]; rfl
    · omega
  have HC : Hid (0 < len → ∃ x, a = some x ∧ x.block < w.heap.size ∧ ∀ i, i < len → w.cell? (x.add i) = some (.int .i64 (L.getD i 0))) := fun h0 => by
    rcases h with ⟨_, h1, _⟩ | ⟨x, h1, h2, h3, h4, h5, _⟩
    · omega
    · have h6 : ∀ i, i < len → w.cell? (x.add i) = some (.int .i64 (L.getD i 0)) := fun i hi => by
        rw [← HL.out, getD_take hi]
        exact h5 i (by omega)
      refine ⟨x, h1, ?_, h6⟩
      have := World.block_lt_of_cell? w _ (h6 0 h0)
      rw [add_block] at this
      exact this
  rw [HL.out]
  clear h
  go_enter Try.func5, Try.ntmps5
  have mk := make_ints len hl w
  go_wp2_with fail
  have O1 : Hid (OwnInts (w.alloc (.cells (madeCells #[.int .i64 0] len) 3)) w.heap.size (.slice (some ⟨w.heap.size, 0, none⟩) len len) (listN len (partL L 0))) := own_made len hl (Nat.le_refl _)
  have B1 : Hid (Below w.heap.size w (w.alloc (.cells (madeCells #[.int .i64 0] len) 3))) := Bel.alloc _ _
  clear mk
  generalize w.alloc (.cells (madeCells #[.int .i64 0] len) 3) = w1 at O1 B1 ⊢
  obtain ⟨G, HG⟩ : ∃ G, Hid (w.heap.size = G) := ⟨_, rfl⟩
  rw [HG.out] at O1 ⊢
  go_loopw [4] (fun i wr => ∃ k : Nat, k ≤ len ∧ i = .int .i64 (k : Int) ∧ OwnInts wr G (.slice (some ⟨G, 0, none⟩) len len) (listN len (partL L k)) ∧ Below w.heap.size w wr) (fun i _ => len - (intOf i).toNat)
  case atStart => exact ⟨0, Nat.zero_le _, rfl, O1.out, B1.out⟩
  case round =>
    obtain ⟨k, hk, rfl, ho, hb⟩ := hrel
    have HO : Hid (OwnInts wr G (.slice (some ⟨G, 0, none⟩) len len) (listN len (partL L k))) := ho
    have HB : Hid (Below w.heap.size w wr) := hb
    by_cases hlt : (k : Int) < (len : Int)
    · have hkl : k < len := by omega
      obtain ⟨x, rfl, hxb, hx⟩ := HC.out (by omega)
      have c1 := Bel.keeps hb (hx k hkl)
      have c2 := ho.cellAt hkl
      have fz := frozen_of_cells ho.heapOf k
      clear ho hb hx
      go_wp2_with fail
      go_roundw
      case rel =>
        refine ⟨k + 1, by omega, by go_num, ?_, HB.out.setCell (p := ⟨G, k, none⟩) (by show w.heap.size ≤ G; rw [HG.out]; exact Nat.le_refl _) _⟩
        have h9 := HO.out.setAt hkl (L.getD k 0)
        rw [listN_set, partL_next] at h9
        exact h9
      case measure => simp [intOf]; omega
    · have hkl : k = len := by omega
      subst hkl
      clear ho hb
      go_wp2_with fail
      go_ret
      refine ⟨_, rfl, ?_, HB.out⟩
      have h9 := HO.out
      have h8 := partL_all L
      rw [HLN.out] at h8
      rw [h8] at h9
      rw [HG.out]
      exact h9

theorem IsRow.after {k : IntKind} {w w' : World} {a : Option Addr} {len cap : Nat} {zs : List Int} (h : IsRow k w a len cap zs) (hb : Below w.heap.size w w') : IsRow k w' a len cap zs := by
  rcases h with h | ⟨x, h1, h2, h3, h4, h5, h6⟩
  · exact .inl h
  · exact .inr ⟨x, h1, h2, h3, h4, fun i hi => Bel.keeps hb (h5 i hi), h6⟩

end Go.Proofs.Ytnkiljhdkpgamaa
