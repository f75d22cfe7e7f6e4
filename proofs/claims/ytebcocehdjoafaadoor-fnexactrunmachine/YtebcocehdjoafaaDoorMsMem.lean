/- The model's machine in memory. -/
import Derived.Test.YtebcocehdjoafaaDoorSpecMem
import Derived.Test.YtebcocehdjoafaaDoorMaDef
namespace Go.Proofs.YtebcocehdjoafaaDoor
open Go.ChangeShapes Go.WideShapes Go.ChangeAt Go.RowKit Go.Shelf
set_option linter.unusedVariables false

theorem OwnInts.moved {w w' : World} {lo g n cap : Nat} {l : List Int} (h : OwnInts w lo (.slice (some ⟨g, 0, none⟩) n cap) l) (e : w'.heap[g]? = w.heap[g]?) : OwnInts w' lo (.slice (some ⟨g, 0, none⟩) n cap) l := by
  obtain ⟨h0, h1⟩ := h
  refine ⟨h0, ?_⟩
  rcases h1 with ⟨h1, _⟩ | ⟨g', cap', cur, h1, h2, h3, h4⟩
  · cases h1
  · cases h1
    exact .inr ⟨g, cap, cur, rfl, h2, e.trans h3, h4⟩
theorem SAt.moved {W0 w w' : World} {P vn : Nat} {s : RunS} {vb vc cb cc : Nat} {rv : Value} {rb tb tc pb pc : Nat} (h : SAt W0 w P vn s vb vc cb cc rv rb tb tc pb pc) (hb : Below W0.heap.size W0 w') (e0 : w'.heap[P]? = w.heap[P]?) (e1 : w'.heap[vb]? = w.heap[vb]?) (e2 : w'.heap[cb]? = w.heap[cb]?) (e3 : w'.heap[rb]? = w.heap[rb]?) (e4 : w'.heap[tb]? = w.heap[tb]?) (e5 : w'.heap[pb]? = w.heap[pb]?) : SAt W0 w' P vn s vb vc cb cc rv rb tb tc pb pc :=
  ⟨e0.trans h.box, h.vals.moved e1, h.cells.moved e2, h.reads.moved e3, h.told.moved e4, h.path.moved e5, h.d1, h.d2, h.d3, h.d4, h.d5, h.d6, h.d7, h.d8, h.d9, h.d10, hb, h.hP⟩

/-- What of it lies in the run's struct. -/
def msR (m : MacS) : RunS := ⟨fun _ => 0, m.cells, m.reads, m.told, [], 0⟩
/-- The model's machine. -/
structure TAt (W0 w : World) (T P : Nat) (m : MacS) (rg sg vb vc cb cc : Nat) (rv : Value) (rb tb tc pb pc : Nat) : Prop where
  box : w.heap[T]? = some (.cells #[.slice (some ⟨rg, 0, none⟩) 8 8, .slice (some ⟨sg, 0, none⟩) 40 40, .pointer (some ⟨P, 0, none⟩), .int .i64 (m.pc : Int)] 66 (0, 0))
  regs : OwnInts w W0.heap.size (.slice (some ⟨rg, 0, none⟩) 8 8) (listN 8 m.regs)
  slots : OwnInts w W0.heap.size (.slice (some ⟨sg, 0, none⟩) 40 40) (listN 40 m.slots)
  s : SAt W0 w P 0 (msR m) vb vc cb cc rv rb tb tc pb pc
  e1 : rg ≠ sg
  r1 : rg ≠ vb
  r2 : rg ≠ cb
  r3 : rg ≠ rb
  r4 : rg ≠ tb
  r5 : rg ≠ pb
  s1 : sg ≠ vb
  s2 : sg ≠ cb
  s3 : sg ≠ rb
  s4 : sg ≠ tb
  s5 : sg ≠ pb
  hT : W0.heap.size ≤ T
def TIs (W0 w : World) (T : Nat) (m : MacS) : Prop := ∃ P rg sg vb vc cb cc rv rb tb tc pb pc, TAt W0 w T P m rg sg vb vc cb cc rv rb tb tc pb pc

section
variable {W0 w w' : World} {T P : Nat} {m : MacS} {rg sg vb vc cb cc : Nat} {rv : Value} {rb tb tc pb pc : Nat}
theorem TAt.lt (h : TAt W0 w T P m rg sg vb vc cb cc rv rb tb tc pb pc) : T < w.heap.size := (Array.getElem?_eq_some_iff.1 h.box).1
theorem TAt.hTP (h : TAt W0 w T P m rg sg vb vc cb cc rv rb tb tc pb pc) : T ≠ P := by
  rintro rfl
  have := h.box.symm.trans h.s.box
  cases this
theorem TAt.hTr (h : TAt W0 w T P m rg sg vb vc cb cc rv rb tb tc pb pc) : T ≠ rg := not_row h.box (by decide) h.regs.heapOf
theorem TAt.hTs (h : TAt W0 w T P m rg sg vb vc cb cc rv rb tb tc pb pc) : T ≠ sg := not_row h.box (by decide) h.slots.heapOf
theorem TAt.hPr (h : TAt W0 w T P m rg sg vb vc cb cc rv rb tb tc pb pc) : P ≠ rg := not_row h.s.box (by decide) h.regs.heapOf
theorem TAt.hPs (h : TAt W0 w T P m rg sg vb vc cb cc rv rb tb tc pb pc) : P ≠ sg := not_row h.s.box (by decide) h.slots.heapOf
theorem TAt.hTc (h : TAt W0 w T P m rg sg vb vc cb cc rv rb tb tc pb pc) : T ≠ cb := not_row h.box (by decide) h.s.cells.heapOf
theorem TAt.cell (h : TAt W0 w T P m rg sg vb vc cb cc rv rb tb tc pb pc) : w.cell? ⟨T, 0, none⟩ = some (.slice (some ⟨rg, 0, none⟩) 8 8) ∧ w.cell? ⟨T, 1, none⟩ = some (.slice (some ⟨sg, 0, none⟩) 40 40) ∧ w.cell? ⟨T, 2, none⟩ = some (.pointer (some ⟨P, 0, none⟩)) ∧ w.cell? ⟨T, 3, none⟩ = some (.int .i64 (m.pc : Int)) := by
  refine ⟨?_, ?_, ?_, ?_⟩ <;> simp [World.cell?, h.box]
theorem TAt.frozen (h : TAt W0 w T P m rg sg vb vc cb cc rv rb tb tc pb pc) (o : Nat) : w.frozen? ⟨T, o, none⟩ = false := frozen_of_cells ⟨_, h.box⟩ o
theorem TAt.regAt (h : TAt W0 w T P m rg sg vb vc cb cc rv rb tb tc pb pc) {i : Nat} (hi : i < 8) : w.cell? ⟨rg, i, none⟩ = some (.int .i64 (m.regs i)) := by
  rw [h.regs.cellAt hi, listN_at _ _ hi]
theorem TAt.slotAt (h : TAt W0 w T P m rg sg vb vc cb cc rv rb tb tc pb pc) {i : Nat} (hi : i < 40) : w.cell? ⟨sg, i, none⟩ = some (.int .i64 (m.slots i)) := by
  rw [h.slots.cellAt hi, listN_at _ _ hi]
theorem TAt.later (h : TAt W0 w T P m rg sg vb vc cb cc rv rb tb tc pb pc) (hb : Below w.heap.size w w') : TAt W0 w' T P m rg sg vb vc cb cc rv rb tb tc pb pc :=
  ⟨(hb.block _ h.lt).trans h.box, h.regs.keep hb, h.slots.keep hb, h.s.later hb, h.e1, h.r1, h.r2, h.r3, h.r4, h.r5, h.s1, h.s2, h.s3, h.s4, h.s5, h.hT⟩
theorem TAt.drew (h : TAt W0 w T P m rg sg vb vc cb cc rv rb tb tc pb pc) : TAt W0 w.drew T P m rg sg vb vc cb cc rv rb tb tc pb pc := h.later (Below.refl _ _).drew
theorem TAt.below (h : TAt W0 w T P m rg sg vb vc cb cc rv rb tb tc pb pc) : Below W0.heap.size W0 w := h.s.below
theorem TAt.setReg (h : TAt W0 w T P m rg sg vb vc cb cc rv rb tb tc pb pc) {d : Nat} (hd : d < 8) (x : Int) : TAt W0 (w.setCell ⟨rg, d, none⟩ (.int .i64 x)) T P { m with regs := updN m.regs d x } rg sg vb vc cb cc rv rb tb tc pb pc := by
  have o : ∀ b, b ≠ rg → (w.setCell ⟨rg, d, none⟩ (.int .i64 x)).heap[b]? = w.heap[b]? := fun b hb => heap_setCell_other _ _ _ _ hb
  refine ⟨(o T h.hTr).trans h.box, ?_, h.slots.moved (o sg h.e1.symm), h.s.moved (h.below.setCell (p := ⟨rg, d, none⟩) (own_lo h.regs) _) (o P h.hPr) (o vb h.r1.symm) (o cb h.r2.symm) (o rb h.r3.symm) (o tb h.r4.symm) (o pb h.r5.symm), h.e1, h.r1, h.r2, h.r3, h.r4, h.r5, h.s1, h.s2, h.s3, h.s4, h.s5, h.hT⟩
  have := h.regs.setAt hd x
  rw [listN_set] at this
  exact this
theorem TAt.setSlot (h : TAt W0 w T P m rg sg vb vc cb cc rv rb tb tc pb pc) {d : Nat} (hd : d < 40) (x : Int) : TAt W0 (w.setCell ⟨sg, d, none⟩ (.int .i64 x)) T P { m with slots := updN m.slots d x } rg sg vb vc cb cc rv rb tb tc pb pc := by
  have o : ∀ b, b ≠ sg → (w.setCell ⟨sg, d, none⟩ (.int .i64 x)).heap[b]? = w.heap[b]? := fun b hb => heap_setCell_other _ _ _ _ hb
  refine ⟨(o T h.hTs).trans h.box, h.regs.moved (o rg h.e1), ?_, h.s.moved (h.below.setCell (p := ⟨sg, d, none⟩) (own_lo h.slots) _) (o P h.hPs) (o vb h.s1.symm) (o cb h.s2.symm) (o rb h.s3.symm) (o tb h.s4.symm) (o pb h.s5.symm), h.e1, h.r1, h.r2, h.r3, h.r4, h.r5, h.s1, h.s2, h.s3, h.s4, h.s5, h.hT⟩
  have := h.slots.setAt hd x
  rw [listN_set] at this
  exact this
theorem TAt.setC (h : TAt W0 w T P m rg sg vb vc cb cc rv rb tb tc pb pc) {d : Nat} (hd : d < 8) (x : Int) : TAt W0 (w.setCell ⟨cb, d, none⟩ (.int .i64 x)) T P { m with cells := updN m.cells d x } rg sg vb vc cb cc rv rb tb tc pb pc := by
  have o : ∀ b, b ≠ cb → (w.setCell ⟨cb, d, none⟩ (.int .i64 x)).heap[b]? = w.heap[b]? := fun b hb => heap_setCell_other _ _ _ _ hb
  exact ⟨(o T h.hTc).trans h.box, h.regs.moved (o rg h.r2), h.slots.moved (o sg h.s2), h.s.setCell hd x, h.e1, h.r1, h.r2, h.r3, h.r4, h.r5, h.s1, h.s2, h.s3, h.s4, h.s5, h.hT⟩
theorem TAt.setPc (h : TAt W0 w T P m rg sg vb vc cb cc rv rb tb tc pb pc) (k : Nat) : TAt W0 (w.setCell ⟨T, 3, none⟩ (.int .i64 (k : Int))) T P { m with pc := k } rg sg vb vc cb cc rv rb tb tc pb pc := by
  have o : ∀ b, b ≠ T → (w.setCell ⟨T, 3, none⟩ (.int .i64 (k : Int))).heap[b]? = w.heap[b]? := fun b hb => heap_setCell_other _ _ _ _ hb
  have r : ∀ {g n cap : Nat} {l : List Int}, OwnInts w W0.heap.size (.slice (some ⟨g, 0, none⟩) n cap) l → g ≠ T := fun hg => (not_row h.box (by decide) hg.heapOf).symm
  have hr := h.s.reads
  obtain ⟨_, _, _, _, _, _, hc, _⟩ := hr
  exact ⟨heap_setCell_same _ _ _ _ _ _ h.box, h.regs.moved (o rg h.hTr.symm), h.slots.moved (o sg h.hTs.symm), h.s.moved (h.below.setCell (p := ⟨T, 3, none⟩) h.hT _) (o P h.hTP.symm) (o vb (r h.s.vals)) (o cb (r h.s.cells)) (o rb (not_row h.box (by decide) hc).symm) (o tb (r h.s.told)) (o pb (r h.s.path)), h.e1, h.r1, h.r2, h.r3, h.r4, h.r5, h.s1, h.s2, h.s3, h.s4, h.s5, h.hT⟩
theorem TAt.setReads (h : TAt W0 w T P m rg sg vb vc cb cc rv rb tb tc pb pc) {x : Value} {l : List Int} (hx : ReadsIn w W0.heap.size x rb l) : TAt W0 (w.setCell ⟨P, 2, none⟩ x) T P { m with reads := l } rg sg vb vc cb cc x rb tb tc pb pc := by
  have o : ∀ b, b ≠ P → (w.setCell ⟨P, 2, none⟩ x).heap[b]? = w.heap[b]? := fun b hb => heap_setCell_other _ _ _ _ hb
  exact ⟨(o T h.hTP).trans h.box, h.regs.moved (o rg h.hPr.symm), h.slots.moved (o sg h.hPs.symm), h.s.setReads hx, h.e1, h.r1, h.r2, h.r3, h.r4, h.r5, h.s1, h.s2, h.s3, h.s4, h.s5, h.hT⟩
/-- What an append to what was told leaves. -/
theorem TAt.told_grown (h : TAt W0 w T P m rg sg vb vc cb cc rv rb tb tc pb pc) {x : Int} {wa : World} {g cap : Nat} (hown : OwnInts wa W0.heap.size (.slice (some ⟨g, 0, none⟩) (m.told.length + 1) cap) (m.told ++ [x])) (hg : (w.alloc (.cells #[.int .i64 x] 3)).grownBy wa (some tb)) (hat : g = tb ∨ g = w.heap.size + 1) :
    wa.heap[P]? = w.heap[P]? ∧ wa.heap[T]? = w.heap[T]? ∧ TAt W0 (wa.setCell ⟨P, 3, none⟩ (.slice (some ⟨g, 0, none⟩) (m.told.length + 1) cap)) T P { m with told := m.told ++ [x] } rg sg vb vc cb cc rv rb g cap pb pc := by
  obtain ⟨q1, _, _, q4⟩ := SAt.told_grown h.s hown hg hat
  have o : ∀ b, b ≠ P → (wa.setCell ⟨P, 3, none⟩ (.slice (some ⟨g, 0, none⟩) (m.told.length + 1) cap)).heap[b]? = wa.heap[b]? := fun b hb => heap_setCell_other _ _ _ _ hb
  have ot : ∀ b, b < w.heap.size → b ≠ tb → wa.heap[b]? = w.heap[b]? := fun b h1 h2 => (hg.block b (by simp; omega) (by simpa using h2)).trans (Below.heap_alloc _ _ _ h1)
  have lr := (World.ownsRow.lt h.regs rg rfl).2
  have ls := (World.ownsRow.lt h.slots sg rfl).2
  have hTt : T ≠ tb := not_row h.box (by decide) h.s.told.heapOf
  have e1 := h.r4
  have e2 := h.s4
  have eT := ot T h.lt hTt
  refine ⟨q1, eT, (o T h.hTP).trans (eT.trans h.box), h.regs.moved ((o rg h.hPr.symm).trans (ot rg lr e1)), h.slots.moved ((o sg h.hPs.symm).trans (ot sg ls e2)), q4, h.e1, h.r1, h.r2, h.r3, by omega, h.r5, h.s1, h.s2, h.s3, by omega, h.s5, h.hT⟩
end
end Go.Proofs.YtebcocehdjoafaaDoor
