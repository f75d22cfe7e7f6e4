/- The model's drawn places and ends: whatever the bytes, some place, some end; nothing that was there is turned. What the laws on bytes draw: numbers, and bytes with a place in them. -/
import Derived.Test.YthdioeeanodjiaaDoorKEb
import Derived.Test.YthdioeeanodjiaaDoorKBa
import Derived.Handy
import Derived.Test.YthdioeeanodjiaaDoorKPk
import Derived.Laws.IdiomStrings
namespace Go.Proofs.YthdioeeanodjiaaDoor
open Go.ChangeShapes Go.WideShapes Go.ChangeAt Go.RowKit
set_option linter.unusedVariables false

set_option maxHeartbeats 1000000 in
theorem pickint_any (p lb : Nat) (zs : List Int) (n : Nat) (w : World) (hc : Cur w p) (hne : lb ≠ p) (hl : zs.length = n) (hn : 0 < n) (hm : n ≤ 1000)
    (hcell : ∀ j, j < n → w.cell? ⟨lb, j, none⟩ = some (.int .i64 (zs.getD j 0))) :
    Calls Tryd.prog 22 #[.pointer (some ⟨p, 0, none⟩), .slice (some ⟨lb, 0, none⟩) n n] w fun e w' => ∃ x : Int, e = .returned (.int .i64 x) ∧ x ∈ zs ∧ Fr p w w' ∧ Cur w' p := by
  have HC : Hid (∀ j, j < n → w.cell? ⟨lb, j, none⟩ = some (.int .i64 (zs.getD j 0))) := hcell
  clear hcell
  have HM : Hid (∀ k, k < n → zs.getD k 0 ∈ zs) := by
    intro k hk
    rw [List.getD_eq_getElem?_getD, List.getElem?_eq_getElem (by omega)]
    exact List.getElem_mem (by omega)
  clear hl
  go_enter Tryd.func22, Tryd.ntmps22
  go_wp2_with fail
  refine (below_any p _ _ hc).mono ?_
  rintro e w1 ⟨x, rfl, hx0, hx1, hx2, hf1, hc1⟩
  obtain ⟨k, rfl⟩ := Int.eq_ofNat_of_zero_le hx0
  have hk : (k : Int) < (n : Int) := hx1 (by omega)
  have hk' : k < n := by omega
  have hin := HM.out k hk'
  have hy : w1.cell? ⟨lb, k, none⟩ = some (.int .i64 (zs.getD k 0)) := by
    have h := HC.out k hk'
    rw [hf1.cell (x := ⟨lb, k, none⟩) (World.block_lt_of_cell? w _ h) hne]
    exact h
  clear hx1 hx2
  generalize zs.getD k 0 = y at *
  go_wp2
  go_ret
  exact ⟨_, rfl, hin, hf1, hc1⟩

/-- A row of known numbers, just made. -/
theorem cells_at (w : World) (t : TypeId) (zs : List Int) (j : Nat) (hj : j < zs.length) :
    (w.alloc (.cells (zs.map (Value.int .i64)).toArray t)).cell? ⟨w.heap.size, j, none⟩ = some (.int .i64 (zs.getD j 0)) := by
  rw [World.cell?_alloc_new]
  simp [hj]

theorem Fr.setNew {p : Nat} {a w : World} (h : Fr p a w) (x : Addr) (hx : a.heap.size ≤ x.block) (u : Value) : Fr p a (w.setCell x u) :=
  ⟨h.os, h.tape, h.output, by have := h.size; simpa [World.setCell] using this, fun k hk hp => (Below.heap_setCell w x u k (by omega)).trans (h.block k hk hp)⟩



end Go.Proofs.YthdioeeanodjiaaDoor

namespace Go.Proofs.YthdioeeanodjiaaDoor
open Go.ChangeShapes Go.WideShapes Go.ChangeAt Go.RowKit
set_option linter.unusedVariables false

theorem IsRow.afterB {k : IntKind} {w w' : World} {a : Option Addr} {len cap : Nat} {zs : List Int} (h : IsRow k w a len cap zs) (hb : Below w.heap.size w w') : IsRow k w' a len cap zs := by
  rcases h with h | ⟨x, h1, h2, h3, h4, h5, h6⟩
  · exact .inl h
  · exact .inr ⟨x, h1, h2, h3, h4, fun i hi => Bel.keeps hb (h5 i hi), h6⟩
/-- A text of so many bytes. -/
def bs (l : List UInt8) : ByteArray := ⟨l.toArray⟩
theorem conv_bytes (v : Value) (l : List UInt8) (w : World) (h : BytesAt w v l) : (convert 22 9 v).run Tryd.prog w = .ok (.string (bs l)) w := by
  obtain ⟨a, cap, rfl, _, hc⟩ := h
  by_cases hp : 0 < l.length
  · obtain ⟨_, b, off, rfl, hd⟩ := hc hp
    exact run_convert_bytes_back (P := Tryd.prog) w 22 9 5 ⟨b, off, none⟩ cap l Tryd.underlying22 Tryd.underlying5 Tryd.underlying9 (fun j hj => by
      rw [addr_add, hd j hj, List.getD, List.getElem?_eq_getElem hj]
      rfl)
  · have h0 : l = [] := List.eq_nil_of_length_eq_zero (by omega)
    subst h0
    cases a with
    | some x => exact run_convert_bytes_back (P := Tryd.prog) w 22 9 5 x cap [] Tryd.underlying22 Tryd.underlying5 Tryd.underlying9 (fun j hj => absurd hj (by simp))
    | none =>
      show (convert 22 9 (.slice none 0 cap)).run Tryd.prog w = _
      rw [run_convert_bytes_string (P := Tryd.prog) w 22 9 5 none 0 cap Tryd.underlying22 Tryd.underlying5 Tryd.underlying9]
      rfl
theorem BytesAt.sub {w : World} {b off n cap : Nat} {l : List UInt8} (h : BytesAt w (.slice (some ⟨b, off, none⟩) n cap) l) {i j : Nat} (hij : i ≤ j) (hj : j ≤ n) (hnc : n ≤ cap) : BytesAt w (.slice (some ⟨b, off + i, none⟩) (j - i) (cap - i)) ((l.drop i).take (j - i)) := by
  obtain ⟨a, c, e, hm, hc⟩ := h
  simp at e
  obtain ⟨e1, rfl, rfl⟩ := e
  have hl : ((l.drop i).take (j - i)).length = j - i := by simp; omega
  refine ⟨some ⟨b, off + i, none⟩, cap - i, by rw [hl], by rw [hl]; omega, fun hp => ?_⟩
  rw [hl] at hp
  obtain ⟨hcap, b', off', e2, hd⟩ := hc (by omega)
  rw [← e1] at e2
  simp at e2
  obtain ⟨rfl, rfl⟩ := e2
  refine ⟨by rw [hl]; omega, b, off + i, rfl, fun k hk => ?_⟩
  rw [hl] at hk
  have h9 := hd (i + k) (by omega)
  rw [Nat.add_assoc, h9, List.getD, List.getD, List.getElem?_take, if_pos hk, List.getElem?_drop]
theorem OwnB.drew {w w' : World} {lo C : Nat} {v : Value} {l : List UInt8} (h : OwnB w lo v l) (hf : Fr C w w') (hC : C < lo) : OwnB w' lo v l := by
  obtain ⟨h0, h1⟩ := h
  refine ⟨h0, ?_⟩
  rcases h1 with h1 | ⟨g, cap, cur, rfl, hlo, hg, h2⟩
  · exact .inl h1
  · exact .inr ⟨g, cap, cur, rfl, hlo, (hf.block g (Array.getElem?_eq_some_iff.1 hg).1 (by omega)).trans hg, h2⟩
/-- Bytes that were just built. -/
theorem ownB_built (w : World) (lo n : Nat) (l : List UInt8) (c : Array Value) (hc : c = (Lib.byteCells l).toArray) (hn : l.length = n) (hm : n ≤ 1000) (hlo : lo ≤ w.heap.size) : OwnB (w.alloc (.cells c 5)) lo (.slice (some ⟨w.heap.size, 0, none⟩) n n) l := by
  subst hc
  have hmx : n ≤ maxLen := by
    have : 1000 ≤ maxLen := by decide
    omega
  refine ⟨by rw [Lib.byteCells_length, Nat.mul_one], .inr ⟨w.heap.size, n, (Lib.byteCells l).toArray, by rw [hn], hlo, World.alloc_heap_new w _, by omega, hmx, by simp [Lib.byteCells_length, hn], ?_⟩⟩
  rw [Nat.mul_one, ← Lib.byteCells_length l]
  exact List.take_length
theorem big_anyB (a : Option Addr) (len cap : Nat) (w : World) : Calls Tryd.prog 5 #[.slice a len cap] w fun e w' => ∃ b : Bool, e = .returned (.bool b) ∧ w' = w := by
  go_enter Tryd.func5, Tryd.ntmps5
  go_wp2
  go_ret
  exact ⟨_, rfl, rfl⟩

def Num64 (z : Int) : Prop := -9223372036854775808 ≤ z ∧ z ≤ 9223372036854775807
set_option maxHeartbeats 2000000 in
theorem drawNumB_any (C : Nat) (w : World) (hc : Cur w C) :
    Calls Tryd.prog 94 #[.pointer (some ⟨C, 0, none⟩)] w fun e w' => ∃ z : Int, e = .returned (.int .i64 z) ∧ Num64 z ∧ Fr C w w' ∧ Cur w' C := by
  have HC : Hid (Cur w C) := hc
  clear hc
  go_enter Tryd.func94, Tryd.ntmps94
  go_wp2_with fail
  refine (once_any C 8 _ HC.out).mono ?_
  rintro e w1 ⟨b, rfl, hf1, hc1⟩
  have F1 : Hid (Fr C w w1) := hf1
  have C1 : Hid (Cur w1 C) := hc1
  have hl1 : C < w1.heap.size := hc1.lt
  clear hf1 hc1
  cases b with
  | true =>
    go_wp2_with fail
    refine (pickint_any C w1.heap.size [9223372036854775807, -9223372036854775808, 4294967296, -1, 63, 64, 1000000007] 7 _ (C1.out.later (Bel.alloc _ _)) (by omega) rfl (by omega) (by omega) ?_).mono ?_
    · intro j hj
      have h7 : j = 0 ∨ j = 1 ∨ j = 2 ∨ j = 3 ∨ j = 4 ∨ j = 5 ∨ j = 6 := by omega
      rcases h7 with rfl | rfl | rfl | rfl | rfl | rfl | rfl <;> simp
    · rintro e w2 ⟨x, rfl, hx, hf, hc⟩
      have F2 : Hid (Fr C w w2) := F1.out.trans ((Fr.ofBelow (Bel.alloc _ _)).trans hf)
      have C2 : Hid (Cur w2 C) := hc
      have HX : Hid (Num64 x) := by
        simp at hx
        rcases hx with rfl | rfl | rfl | rfl | rfl | rfl | rfl <;> exact ⟨by omega, by omega⟩
      clear hf hc hx
      go_wp2_with fail
      go_ret
      exact ⟨_, rfl, HX.out, F2.out, C2.out⟩
  | false =>
    go_wp2_with fail
    refine (below_any C 20 _ C1.out).mono ?_
    rintro e w2 ⟨x, rfl, hx0, hx1, _, hf, hc⟩
    have F2 : Hid (Fr C w w2) := F1.out.trans hf
    have C2 : Hid (Cur w2 C) := hc
    replace hx1 : x < 20 := hx1 (by omega)
    clear hf hc
    go_wp2_with fail
    go_ret
    exact ⟨_, rfl, ⟨by omega, by omega⟩, F2.out, C2.out⟩

end Go.Proofs.YthdioeeanodjiaaDoor
