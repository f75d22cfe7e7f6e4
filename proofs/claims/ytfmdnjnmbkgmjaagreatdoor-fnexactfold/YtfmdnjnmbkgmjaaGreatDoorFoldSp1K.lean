/- Folding, of the model: what is known, in two rows. -/
import Derived.Test.YtfmdnjnmbkgmjaaGreatDoorFoldImpK
import Derived.Test.YtfmdnjnmbkgmjaaGreatDoorKL2Co
import Derived.Test.YtfmdnjnmbkgmjaaGreatDoorKOrd
import Derived.Test.YtfmdnjnmbkgmjaaGreatDoorKCkT
import Derived.Test.YtfmdnjnmbkgmjaaGreatDoorFoldImp2K
namespace Go.Proofs.YtfmdnjnmbkgmjaaGreatDoor
open Go.ChangeShapes Go.WideShapes Go.ChangeAt Go.RowKit
set_option linter.unusedVariables false
set_option maxRecDepth 100000
structure KnAt (w : World) (kb nb vn : Nat) (K : Kn) : Prop where
  kh : ∃ c, w.heap[kb]? = some (.cells c 4 (0, 0))
  nh : ∃ c, w.heap[nb]? = some (.cells c 3 (0, 0))
  at_ : ∀ v : Nat, v < vn → w.cell? ⟨kb, v, none⟩ = some (.bool (K (v : Int)).isSome) ∧ ∃ z, w.cell? ⟨nb, v, none⟩ = some (.int .i64 z) ∧ ∀ q, K (v : Int) = some q → q = z
theorem KnAt.same {w w' : World} {kb nb vn : Nat} {K : Kn} (h : KnAt w kb nb vn K) (h1 : w'.heap[kb]? = w.heap[kb]?) (h2 : w'.heap[nb]? = w.heap[nb]?) : KnAt w' kb nb vn K :=
  ⟨by rw [h1]; exact h.kh, by rw [h2]; exact h.nh, fun v hv => by
    obtain ⟨a, z, b, c⟩ := h.at_ v hv
    exact ⟨(cell_same h1 _).trans a, z, (cell_same h2 _).trans b, c⟩⟩
theorem KnAt.ltk {w : World} {kb nb vn : Nat} {K : Kn} (h : KnAt w kb nb vn K) : kb < w.heap.size := by
  obtain ⟨c, hc⟩ := h.kh
  exact (Array.getElem?_eq_some_iff.1 hc).1
theorem KnAt.ltn {w : World} {kb nb vn : Nat} {K : Kn} (h : KnAt w kb nb vn K) : nb < w.heap.size := by
  obtain ⟨c, hc⟩ := h.nh
  exact (Array.getElem?_eq_some_iff.1 hc).1
theorem KnAt.kept {w w' : World} {kb nb vn : Nat} {K : Kn} (h : KnAt w kb nb vn K) (hb : Below w.heap.size w w') : KnAt w' kb nb vn K := h.same (hb.block kb h.ltk) (hb.block nb h.ltn)
theorem KnAt.ne {w : World} {kb nb vn : Nat} {K : Kn} (h : KnAt w kb nb vn K) : kb ≠ nb := fun e => by
  obtain ⟨c, hc⟩ := h.kh
  obtain ⟨d, hd⟩ := h.nh
  rw [e, hd] at hc
  simp at hc
theorem heapSet {w : World} {b o : Nat} {c : Array Value} {T : TypeId} {z : Nat × Nat} (h : w.heap[b]? = some (.cells c T z)) (v : Value) : ∃ c', (w.setCell ⟨b, o, none⟩ v).heap[b]? = some (.cells c' T z) := by
  refine ⟨c.setIfInBounds o v, ?_⟩
  simp [World.setCell, Array.getElem?_modify, h]
theorem KnAt.put {w : World} {kb nb vn : Nat} {K : Kn} (h : KnAt w kb nb vn K) {d : Nat} (hd : d < vn) (n : Int) : KnAt ((w.setCell ⟨kb, d, none⟩ (.bool true)).setCell ⟨nb, d, none⟩ (.int .i64 n)) kb nb vn (fun v => if v = (d : Int) then some n else K v) := by
  have hne := h.ne
  obtain ⟨c, hc⟩ := h.kh
  obtain ⟨c2, hc2⟩ := h.nh
  refine ⟨?_, ?_, fun v hv => ?_⟩
  · obtain ⟨c', h'⟩ := heapSet (o := d) hc (.bool true)
    exact ⟨c', (Below.heap_setCell _ _ _ _ (show kb ≠ (⟨nb, d, none⟩ : Addr).block from hne)).trans h'⟩
  · have h1 : (w.setCell ⟨kb, d, none⟩ (.bool true)).heap[nb]? = _ := (Below.heap_setCell _ _ _ _ (show nb ≠ (⟨kb, d, none⟩ : Addr).block from fun e => hne e.symm)).trans hc2
    exact heapSet h1 _
  · obtain ⟨a, z, b, q⟩ := h.at_ v hv
    have n1 : ∀ o o' : Nat, (⟨nb, o, none⟩ : Addr) ≠ ⟨kb, o', none⟩ := fun o o' e => hne (congrArg Addr.block e).symm
    by_cases e : v = d
    · subst e
      refine ⟨?_, n, ?_, fun q hq => by simpa using hq.symm⟩
      · rw [World.cell?_setCell_other _ _ _ _ (n1 _ _), World.cell?_setCell_same _ _ _ a]
        simp
      · exact World.cell?_setCell_same _ _ _ ((World.cell?_setCell_other _ _ _ _ (fun e => n1 _ _ e.symm)).trans b)
    · have e2 : ¬ (v : Int) = (d : Int) := by omega
      refine ⟨?_, z, ?_, fun q2 hq => q q2 (by simpa [e2] using hq)⟩
      · rw [World.cell?_setCell_other _ _ _ _ (n1 _ _), World.cell?_setCell_other _ _ _ _ (by intro h9; have := congrArg Addr.off h9; simp at this; omega), a]
        simp [e2]
      · rw [World.cell?_setCell_other _ _ _ _ (by intro h9; have := congrArg Addr.off h9; simp at this; omega), World.cell?_setCell_other _ _ _ _ (fun e => n1 _ _ e.symm)]
        exact b
def InsInV (V : Int) (x : InsD) : Prop := ((1 ≤ x.op ∧ x.op ≤ 10) → (0 ≤ x.d ∧ x.d < V) ∧ (0 ≤ x.a ∧ x.a < V) ∧ (0 ≤ x.b ∧ x.b < V)) ∧ (x.op = 20 → 0 ≤ x.d ∧ x.d < V)
theorem insInV_of {V : Int} {x : InsD} (h : placeOkV V x = true) : InsInV V x := by
  unfold placeOkV at h
  refine ⟨fun ho => ?_, fun ho => ?_⟩
  · rw [insOkV_word ho.1 ho.2] at h
    simp only [Bool.and_eq_true] at h
    obtain ⟨⟨⟨h1, h2⟩, h3⟩, _⟩ := h
    exact ⟨valIn_iff.1 h1, valIn_iff.1 h2, valIn_iff.1 h3⟩
  · rw [ho, insOkV_const] at h
    simp only [Bool.and_eq_true] at h
    exact valIn_iff.1 h.1.1
theorem foldX_inV {V : Int} {K : Kn} {x : InsD} (h : InsInV V x) : InsInV V (foldX K x) := by
  unfold foldX
  split
  · rename_i ho
    split
    · exact ⟨fun h1 => absurd h1 (by simp), fun _ => (h.1 ho).1⟩
    · exact h
  · exact h
def BlocksInV (V : Int) (bs : List BlockD) : Prop := ∀ (i : Nat) x, bs[i]? = some x → (∀ (k : Nat) y, x.list[k]? = some y → InsInV V y) ∧ x.list.length ≤ 24
theorem foldN_allV {V : Int} {s : List InsD × Kn} (h : ∀ (k : Nat) y, s.1[k]? = some y → InsInV V y) : ∀ n, ∀ (k : Nat) y, (foldN n s).1[k]? = some y → InsInV V y
  | 0 => h
  | n + 1 => fun k y hy => by
    by_cases e : k = n
    · subst e
      cases hx : s.1[k]? with
      | none =>
        have h2 : (foldN k s).1[k]? = none := (foldN_at s (Nat.le_refl k)).trans hx
        rw [foldN, foldAt, h2] at hy
        exact foldN_allV h k k y hy
      | some x =>
        rw [foldN_next hx] at hy
        have hk : k < (foldN k s).1.length := by rw [foldN_len]; exact (List.getElem?_eq_some_iff.1 hx).1
        rw [List.getElem?_set_self hk] at hy
        cases hy
        exact foldX_inV (h k x hx)
    · rw [foldN, foldAt_other _ (by omega)] at hy
      exact foldN_allV h n k y hy
theorem BlocksInV.foldB {V : Int} {s : List BlockD × Kn} (h : BlocksInV V s.1) (b : Nat) : BlocksInV V (foldB s b).1 := by
  unfold Go.Proofs.YtfmdnjnmbkgmjaaGreatDoor.foldB
  split
  · exact h
  · rename_i x hx
    intro i y hy
    by_cases e : i = b
    · subst e
      rw [List.getElem?_set_self (List.getElem?_eq_some_iff.1 hx).1] at hy
      cases hy
      refine ⟨foldN_allV (fun k y hy => (h i x hx).1 k y hy) _, ?_⟩
      rw [foldN_len]
      exact (h i x hx).2
    · rw [List.getElem?_set_ne (by omega)] at hy
      exact h i y hy
theorem BlocksInV.foldO {V : Int} : ∀ (o : List Int) {s : List BlockD × Kn}, BlocksInV V s.1 → BlocksInV V (foldO o s).1
  | [], s, h => h
  | b :: o, s, h => BlocksInV.foldO o (h.foldB b.toNat)
theorem blocksInV_of {F : FnD} (h : FnShape F) : BlocksInV F.values F.blocks := fun i x hx => by
  have hb := h.2.2.2.2 i x hx
  exact ⟨fun k y hy => insInV_of (hb.2.2.2.1 k y hy), hb.2.1⟩
structure Turned2 (own : OwnF) (kb nb : Nat) (w w' : World) : Prop where
  os : w'.os = w.os
  tape : w'.tape = w.tape
  output : w'.output = w.output
  size : w.heap.size ≤ w'.heap.size
  block : ∀ g, g < w.heap.size → g ≠ kb → g ≠ nb → ¬ (own g).1 ≤ 3 → w'.heap[g]? = w.heap[g]?
theorem Turned2.refl (own : OwnF) (kb nb : Nat) (w : World) : Turned2 own kb nb w w := ⟨rfl, rfl, rfl, Nat.le_refl _, fun _ _ _ _ _ => rfl⟩
theorem Turned2.trans {own : OwnF} {kb nb : Nat} {a b c : World} (h : Turned2 own kb nb a b) (k : Turned2 own kb nb b c) : Turned2 own kb nb a c :=
  ⟨k.os.trans h.os, k.tape.trans h.tape, k.output.trans h.output, Nat.le_trans h.size k.size, fun g h1 h2 h3 h4 => (k.block g (Nat.lt_of_lt_of_le h1 h.size) h2 h3 h4).trans (h.block g h1 h2 h3 h4)⟩
theorem Turned2.below {own : OwnF} {kb nb : Nat} {w w' : World} (h : Below w.heap.size w w') : Turned2 own kb nb w w' := ⟨h.os, h.tape, h.output, h.size, fun g h1 _ _ _ => h.block g h1⟩
theorem Turned2.cell {own : OwnF} {kb nb : Nat} {w w' : World} (h : Turned2 own kb nb w w') {g o : Nat} {v : Value} (hv : w.cell? ⟨g, o, none⟩ = some v) (h2 : g ≠ kb) (h3 : g ≠ nb) (h4 : ¬ (own g).1 ≤ 3) : w'.cell? ⟨g, o, none⟩ = some v :=
  (cell_same (h.block g (World.block_lt_of_cell? w _ hv) h2 h3 h4) o).trans hv
theorem Turned2.putOwn {own : OwnF} {kb nb : Nat} {a w : World} (h : Turned2 own kb nb a w) {B : Nat} (hB : (own B).1 ≤ 3) (o : Nat) (y : InsD) : Turned2 own kb nb a (putIns w B o y) :=
  have hb := putIns_below (Below.refl 0 w) (Nat.zero_le B) o y
  ⟨hb.os.trans h.os, hb.tape.trans h.tape, hb.output.trans h.output, by rw [putIns_size]; exact h.size, fun g h1 h2 h3 h4 => (putIns_other (fun e => h4 (by rw [e]; exact hB))).trans (h.block g h1 h2 h3 h4)⟩
theorem Turned2.putNew {own : OwnF} {kb nb : Nat} {a w : World} (h : Turned2 own kb nb a w) {B : Nat} (hB : a.heap.size ≤ B) (o : Nat) (y : InsD) : Turned2 own kb nb a (putIns w B o y) :=
  have hb := putIns_below (Below.refl 0 w) (Nat.zero_le B) o y
  ⟨hb.os.trans h.os, hb.tape.trans h.tape, hb.output.trans h.output, by rw [putIns_size]; exact h.size, fun g h1 h2 h3 h4 => (putIns_other (by omega)).trans (h.block g h1 h2 h3 h4)⟩
theorem Turned2.setRows {own : OwnF} {kb nb : Nat} {a w : World} (h : Turned2 own kb nb a w) (d : Nat) (u v : Value) : Turned2 own kb nb a ((w.setCell ⟨kb, d, none⟩ u).setCell ⟨nb, d, none⟩ v) :=
  have hb := ((Below.refl 0 w).setCell (p := ⟨kb, d, none⟩) (Nat.zero_le kb) u).setCell (p := ⟨nb, d, none⟩) (Nat.zero_le nb) v
  ⟨hb.os.trans h.os, hb.tape.trans h.tape, hb.output.trans h.output, by simpa using h.size, fun g h1 h2 h3 h4 => by
    rw [Below.heap_setCell _ _ _ _ (show g ≠ (⟨nb, d, none⟩ : Addr).block from h3), Below.heap_setCell _ _ _ _ (show g ≠ (⟨kb, d, none⟩ : Addr).block from h2)]
    exact h.block g h1 h2 h3 h4⟩
theorem FnO.setRows {lo : Nat} {own : OwnF} {w : World} {bv : Value} {bs : List BlockD} (h : FnO lo own w bv bs) {kb nb : Nat} (hk : ¬ (own kb).1 ≤ 3) (hn : ¬ (own nb).1 ≤ 3) (d : Nat) (u v : Value) : FnO lo own ((w.setCell ⟨kb, d, none⟩ u).setCell ⟨nb, d, none⟩ v) bv bs :=
  h.same (fun g hg => by
    rw [Below.heap_setCell _ _ _ _ (show g ≠ (⟨nb, d, none⟩ : Addr).block from fun e => hn (by rw [← show g = nb from e]; exact hg)), Below.heap_setCell _ _ _ _ (show g ≠ (⟨kb, d, none⟩ : Addr).block from fun e => hk (by rw [← show g = kb from e]; exact hg))]) (by simp)
theorem KnAt.new {w : World} {vn : Nat} (hv : vn ≤ 1000) : KnAt ((w.alloc (.cells (madeCells #[.bool false] vn) 4)).alloc (.cells (madeCells #[.int .i64 0] vn) 3)) w.heap.size (w.heap.size + 1) vn noKn := by
  have h1 : ((w.alloc (.cells (madeCells #[.bool false] vn) 4)).alloc (.cells (madeCells #[.int .i64 0] vn) 3)).heap[w.heap.size]? = some (.cells (madeCells #[.bool false] vn) 4 (0, 0)) := by
    rw [Below.heap_alloc _ _ _ (by simp)]
    exact World.alloc_heap_new w _
  have h2 : ((w.alloc (.cells (madeCells #[.bool false] vn) 4)).alloc (.cells (madeCells #[.int .i64 0] vn) 3)).heap[w.heap.size + 1]? = some (.cells (madeCells #[.int .i64 0] vn) 3 (0, 0)) := by
    have h := World.alloc_heap_new (w.alloc (.cells (madeCells #[.bool false] vn) 4)) (.cells (madeCells #[.int .i64 0] vn) 3)
    rw [World.size_alloc] at h
    exact h
  refine ⟨⟨_, h1⟩, ⟨_, h2⟩, fun v hv2 => ⟨?_, 0, ?_, fun q hq => by cases hq⟩⟩
  · simp only [World.cell?, h1]
    simp only [Option.isSome_none, Bool.false_eq_true, if_false]
    rw [← Array.getElem?_toList, toList_madeCells_one]
    simp [hv2, noKn]
  · simp only [World.cell?, h2]
    simp only [Option.isSome_none, Bool.false_eq_true, if_false]
    rw [← Array.getElem?_toList, toList_madeCells_one]
    simp [hv2]
end Go.Proofs.YtfmdnjnmbkgmjaaGreatDoor
