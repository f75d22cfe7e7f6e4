/- A run of the model in memory: its struct, and the lists that it has. -/
import Derived.Test.YtebcocehdjoafaaDoorRunMem
import Derived.Test.YtebcocehdjoafaaDoorOwnAt
namespace Go.Proofs.YtebcocehdjoafaaDoor
open Go.ChangeShapes Go.WideShapes Go.ChangeAt Go.RowKit Go.Shelf
set_option linter.unusedVariables false

/-- What is left to read, in a row of the run's own. -/
def ReadsIn (w : World) (lo : Nat) (rv : Value) (rb : Nat) (l : List Int) : Prop := ∃ off cap, rv = .slice (some ⟨rb, off, none⟩) l.length cap ∧ l.length ≤ cap ∧ cap ≤ 9223372036854775807 ∧ lo ≤ rb ∧ (∃ c, w.heap[rb]? = some (.cells c 3 (0, 0))) ∧ ∀ i, i < l.length → w.cell? ⟨rb, off + i, none⟩ = some (.int .i64 (l.getD i 0))
theorem ReadsIn.moved {w w' : World} {lo rb : Nat} {rv : Value} {l : List Int} (h : ReadsIn w lo rv rb l) (hh : w'.heap[rb]? = w.heap[rb]?) : ReadsIn w' lo rv rb l := by
  obtain ⟨off, cap, h1, h2, h3, h4, h5, h6⟩ := h
  exact ⟨off, cap, h1, h2, h3, h4, by rw [hh]; exact h5, fun i hi => (cell_of_heap hh _).trans (h6 i hi)⟩

/-- The run of the model. -/
structure SAt (W0 w : World) (P vn : Nat) (s : RunS) (vb vc cb cc : Nat) (rv : Value) (rb tb tc pb pc : Nat) : Prop where
  box : w.heap[P]? = some (.cells #[.slice (some ⟨vb, 0, none⟩) vn vc, .slice (some ⟨cb, 0, none⟩) 8 cc, rv, .slice (some ⟨tb, 0, none⟩) s.told.length tc, .slice (some ⟨pb, 0, none⟩) s.path.length pc, .int .i64 (s.fuel : Int)] 69 (0, 0))
  vals : OwnInts w W0.heap.size (.slice (some ⟨vb, 0, none⟩) vn vc) (listN vn s.vals)
  cells : OwnInts w W0.heap.size (.slice (some ⟨cb, 0, none⟩) 8 cc) (listN 8 s.cells)
  reads : ReadsIn w W0.heap.size rv rb s.reads
  told : OwnInts w W0.heap.size (.slice (some ⟨tb, 0, none⟩) s.told.length tc) s.told
  path : OwnInts w W0.heap.size (.slice (some ⟨pb, 0, none⟩) s.path.length pc) s.path
  d1 : vb ≠ cb
  d2 : vb ≠ rb
  d3 : vb ≠ tb
  d4 : vb ≠ pb
  d5 : cb ≠ rb
  d6 : cb ≠ tb
  d7 : cb ≠ pb
  d8 : rb ≠ tb
  d9 : rb ≠ pb
  d10 : tb ≠ pb
  below : Below W0.heap.size W0 w
  hP : W0.heap.size ≤ P
def SIs (W0 w : World) (P vn : Nat) (s : RunS) : Prop := ∃ vb vc cb cc rv rb tb tc pb pc, SAt W0 w P vn s vb vc cb cc rv rb tb tc pb pc
def STo (W0 : World) (P vn : Nat) (w : World) (s : RunS) (w' : World) : Prop := SIs W0 w' P vn s ∧ FrR P P w w'

section
variable {W0 w w' : World} {P vn : Nat} {s : RunS} {vb vc cb cc : Nat} {rv : Value} {rb tb tc pb pc : Nat}
theorem not_row {w : World} {P g : Nat} {c : Array Value} {t : TypeId} {z : Nat × Nat} (hP : w.heap[P]? = some (.cells c t z)) (ht : t ≠ 3) (hg : ∃ c, w.heap[g]? = some (.cells c 3 (0, 0))) : P ≠ g := by
  rintro rfl
  obtain ⟨c2, h2⟩ := hg
  rw [hP] at h2
  cases h2
  exact ht rfl
theorem SAt.lt (h : SAt W0 w P vn s vb vc cb cc rv rb tb tc pb pc) : P < w.heap.size := (Array.getElem?_eq_some_iff.1 h.box).1
theorem SAt.later (h : SAt W0 w P vn s vb vc cb cc rv rb tb tc pb pc) (hb : Below w.heap.size w w') : SAt W0 w' P vn s vb vc cb cc rv rb tb tc pb pc := by
  obtain ⟨_, _, _, _, _, _, ⟨c, hc⟩, _⟩ := h.reads
  exact ⟨(hb.block _ h.lt).trans h.box, h.vals.keep hb, h.cells.keep hb, h.reads.moved (hb.block _ (Array.getElem?_eq_some_iff.1 hc).1), h.told.keep hb, h.path.keep hb, h.d1, h.d2, h.d3, h.d4, h.d5, h.d6, h.d7, h.d8, h.d9, h.d10, Bel.after h.below hb, h.hP⟩
theorem SIs.later (h : SIs W0 w P vn s) (hb : Below w.heap.size w w') : SIs W0 w' P vn s := by
  obtain ⟨vb, vc, cb, cc, rv, rb, tb, tc, pb, pc, h⟩ := h
  exact ⟨vb, vc, cb, cc, rv, rb, tb, tc, pb, pc, h.later hb⟩
theorem ob_ne {g g' n cap : Nat} (h : g' ≠ g) : (Value.slice (some ⟨g', 0, none⟩) n cap).ownBlock ≠ some g := by simpa [Value.ownBlock] using h
/-- The cells of the struct. -/
theorem SAt.cell (h : SAt W0 w P vn s vb vc cb cc rv rb tb tc pb pc) : w.cell? ⟨P, 0, none⟩ = some (.slice (some ⟨vb, 0, none⟩) vn vc) ∧ w.cell? ⟨P, 1, none⟩ = some (.slice (some ⟨cb, 0, none⟩) 8 cc) ∧ w.cell? ⟨P, 2, none⟩ = some rv ∧ w.cell? ⟨P, 3, none⟩ = some (.slice (some ⟨tb, 0, none⟩) s.told.length tc) ∧ w.cell? ⟨P, 4, none⟩ = some (.slice (some ⟨pb, 0, none⟩) s.path.length pc) ∧ w.cell? ⟨P, 5, none⟩ = some (.int .i64 (s.fuel : Int)) := by
  refine ⟨?_, ?_, ?_, ?_, ?_, ?_⟩ <;> simp [World.cell?, h.box]
theorem SAt.frozen (h : SAt W0 w P vn s vb vc cb cc rv rb tb tc pb pc) (o : Nat) : w.frozen? ⟨P, o, none⟩ = false := frozen_of_cells ⟨_, h.box⟩ o
theorem SAt.valAt (h : SAt W0 w P vn s vb vc cb cc rv rb tb tc pb pc) {i : Nat} (hi : i < vn) : w.cell? ⟨vb, i, none⟩ = some (.int .i64 (s.vals i)) := by
  rw [h.vals.cellAt hi, listN_at _ _ hi]
theorem SAt.cellAt (h : SAt W0 w P vn s vb vc cb cc rv rb tb tc pb pc) {i : Nat} (hi : i < 8) : w.cell? ⟨cb, i, none⟩ = some (.int .i64 (s.cells i)) := by
  rw [h.cells.cellAt hi, listN_at _ _ hi]
theorem own_lo {lo g n cap : Nat} {l : List Int} (h : OwnInts w lo (.slice (some ⟨g, 0, none⟩) n cap) l) : lo ≤ g := (World.ownsRow.lt h g rfl).1
theorem SAt.setVal (h : SAt W0 w P vn s vb vc cb cc rv rb tb tc pb pc) {d : Nat} (hd : d < vn) (x : Int) : SAt W0 (w.setCell ⟨vb, d, none⟩ (.int .i64 x)) P vn { s with vals := updN s.vals d x } vb vc cb cc rv rb tb tc pb pc := by
  have hPv := not_row h.box (by decide) h.vals.heapOf
  refine ⟨(heap_setCell_other _ _ _ _ hPv).trans h.box, ?_, h.cells.apartSet (ob_ne (fun e => h.d1 e.symm)) _, h.reads.moved (heap_setCell_other _ _ _ _ (fun e => h.d2 e.symm)), h.told.apartSet (ob_ne (fun e => h.d3 e.symm)) _, h.path.apartSet (ob_ne (fun e => h.d4 e.symm)) _, h.d1, h.d2, h.d3, h.d4, h.d5, h.d6, h.d7, h.d8, h.d9, h.d10, h.below.setCell (p := ⟨vb, d, none⟩) (own_lo h.vals) _, h.hP⟩
  have := h.vals.setAt hd x
  rw [listN_set] at this
  exact this
theorem SAt.setCell (h : SAt W0 w P vn s vb vc cb cc rv rb tb tc pb pc) {d : Nat} (hd : d < 8) (x : Int) : SAt W0 (w.setCell ⟨cb, d, none⟩ (.int .i64 x)) P vn { s with cells := updN s.cells d x } vb vc cb cc rv rb tb tc pb pc := by
  have hPv := not_row h.box (by decide) h.cells.heapOf
  refine ⟨(heap_setCell_other _ _ _ _ hPv).trans h.box, h.vals.apartSet (ob_ne h.d1) _, ?_, h.reads.moved (heap_setCell_other _ _ _ _ (fun e => h.d5 e.symm)), h.told.apartSet (ob_ne (fun e => h.d6 e.symm)) _, h.path.apartSet (ob_ne (fun e => h.d7 e.symm)) _, h.d1, h.d2, h.d3, h.d4, h.d5, h.d6, h.d7, h.d8, h.d9, h.d10, h.below.setCell (p := ⟨cb, d, none⟩) (own_lo h.cells) _, h.hP⟩
  have := h.cells.setAt hd x
  rw [listN_set] at this
  exact this
/-- A cell of the struct is turned: what stays. -/
theorem SAt.setBox (h : SAt W0 w P vn s vb vc cb cc rv rb tb tc pb pc) (o : Nat) (v : Value) : OwnInts (w.setCell ⟨P, o, none⟩ v) W0.heap.size (.slice (some ⟨vb, 0, none⟩) vn vc) (listN vn s.vals) ∧ OwnInts (w.setCell ⟨P, o, none⟩ v) W0.heap.size (.slice (some ⟨cb, 0, none⟩) 8 cc) (listN 8 s.cells) ∧ ReadsIn (w.setCell ⟨P, o, none⟩ v) W0.heap.size rv rb s.reads ∧ OwnInts (w.setCell ⟨P, o, none⟩ v) W0.heap.size (.slice (some ⟨tb, 0, none⟩) s.told.length tc) s.told ∧ OwnInts (w.setCell ⟨P, o, none⟩ v) W0.heap.size (.slice (some ⟨pb, 0, none⟩) s.path.length pc) s.path ∧ Below W0.heap.size W0 (w.setCell ⟨P, o, none⟩ v) := by
  have hr := h.reads
  obtain ⟨_, _, _, _, _, _, hc, _⟩ := hr
  exact ⟨own_far h.vals ⟨_, h.box⟩ (by decide), own_far h.cells ⟨_, h.box⟩ (by decide), h.reads.moved (heap_setCell_other _ _ _ _ (fun e => not_row h.box (by decide) hc e.symm)), own_far h.told ⟨_, h.box⟩ (by decide), own_far h.path ⟨_, h.box⟩ (by decide), h.below.setCell (p := ⟨P, o, none⟩) h.hP _⟩
theorem SAt.setFuel (h : SAt W0 w P vn s vb vc cb cc rv rb tb tc pb pc) (k : Nat) : SAt W0 (w.setCell ⟨P, 5, none⟩ (.int .i64 (k : Int))) P vn { s with fuel := k } vb vc cb cc rv rb tb tc pb pc := by
  obtain ⟨a1, a2, a3, a4, a5, a6⟩ := h.setBox 5 (.int .i64 (k : Int))
  exact ⟨heap_setCell_same _ _ _ _ _ _ h.box, a1, a2, a3, a4, a5, h.d1, h.d2, h.d3, h.d4, h.d5, h.d6, h.d7, h.d8, h.d9, h.d10, a6, h.hP⟩
theorem SAt.setReads (h : SAt W0 w P vn s vb vc cb cc rv rb tb tc pb pc) {x : Value} {l : List Int} (hx : ReadsIn w W0.heap.size x rb l) : SAt W0 (w.setCell ⟨P, 2, none⟩ x) P vn { s with reads := l } vb vc cb cc x rb tb tc pb pc := by
  obtain ⟨a1, a2, a3, a4, a5, a6⟩ := h.setBox 2 x
  have hr := h.reads
  obtain ⟨_, _, _, _, _, _, hc, _⟩ := hr
  exact ⟨heap_setCell_same _ _ _ _ _ _ h.box, a1, a2, hx.moved (heap_setCell_other _ _ _ _ (fun e => not_row h.box (by decide) hc e.symm)), a4, a5, h.d1, h.d2, h.d3, h.d4, h.d5, h.d6, h.d7, h.d8, h.d9, h.d10, a6, h.hP⟩
theorem SAt.drew (h : SAt W0 w P vn s vb vc cb cc rv rb tb tc pb pc) : SAt W0 w.drew P vn s vb vc cb cc rv rb tb tc pb pc := h.later (Below.refl _ _).drew
/-- What an append to what was told leaves. -/
theorem SAt.told_grown (h : SAt W0 w P vn s vb vc cb cc rv rb tb tc pb pc) {x : Int} {wa : World} {g cap : Nat} (hown : OwnInts wa W0.heap.size (.slice (some ⟨g, 0, none⟩) (s.told.length + 1) cap) (s.told ++ [x])) (hg : (w.alloc (.cells #[.int .i64 x] 3)).grownBy wa (some tb)) (hat : g = tb ∨ g = w.heap.size + 1) :
    wa.heap[P]? = w.heap[P]? ∧ OwnInts wa W0.heap.size (.slice (some ⟨vb, 0, none⟩) vn vc) (listN vn s.vals) ∧ FrR P P w wa ∧ SAt W0 (wa.setCell ⟨P, 3, none⟩ (.slice (some ⟨g, 0, none⟩) (s.told.length + 1) cap)) P vn { s with told := s.told ++ [x] } vb vc cb cc rv rb g cap pb pc := by
  have hg2 : (w.alloc (.cells #[.int .i64 x] 3)).grownBy wa (Value.slice (some ⟨tb, 0, none⟩) s.told.length tc).ownBlock := hg
  have hPa : wa.heap[P]? = w.heap[P]? := (hg2.block P (by have := h.lt; simp; omega) (h.told.not_box h.box (by decide))).trans (Below.heap_alloc _ _ _ h.lt)
  have ap : ∀ {y n c : Nat}, y ≠ tb → ∀ q, (Value.slice (some ⟨tb, 0, none⟩) s.told.length tc).ownBlock = some q → (Value.slice (some ⟨y, 0, none⟩) n c).ownBlock = some q → False := fun hy q e1 e2 => by
    simp [Value.ownBlock] at e1 e2
    omega
  have lv : ∀ {y n c : Nat} {l : List Int}, OwnInts w W0.heap.size (.slice (some ⟨y, 0, none⟩) n c) l → y < w.heap.size := fun hy => (World.ownsRow.lt hy _ rfl).2
  have hr := h.reads
  obtain ⟨_, _, _, _, _, _, ⟨c9, hc9⟩, _⟩ := hr
  have lr : rb < w.heap.size := (Array.getElem?_eq_some_iff.1 hc9).1
  have v1 := grown_other h.vals hg2 (ap h.d3)
  have v2 := grown_other h.cells hg2 (ap h.d6)
  have v3 := grown_other h.path hg2 (ap h.d10.symm)
  have rr : wa.heap[rb]? = w.heap[rb]? := (hg.block rb (by simp; omega) (by simpa using h.d8)).trans (Below.heap_alloc _ _ _ lr)
  have hbx := hPa.trans h.box
  have hb := h.below.trans (h.told.grown h.below.size hg2)
  have nr := not_row hbx (by decide) ⟨c9, rr.trans hc9⟩
  have l1 := lv h.vals
  have l2 := lv h.cells
  have l3 := lv h.path
  have e1 := h.d3
  have e2 := h.d6
  have e3 := h.d10.symm
  have e4 := h.d8
  refine ⟨hPa, v1, FrR.grown h.told hg2, heap_setCell_same _ _ _ _ _ _ hbx |>.trans (by simp), own_far v1 ⟨_, hbx⟩ (by decide), own_far v2 ⟨_, hbx⟩ (by decide), (h.reads.moved rr).moved (heap_setCell_other _ _ _ _ (fun e => nr e.symm)), own_far hown ⟨_, hbx⟩ (by decide) |> fun q => by simpa using q, own_far v3 ⟨_, hbx⟩ (by decide), h.d1, h.d2, by omega, h.d4, h.d5, by omega, h.d7, by omega, h.d9, by omega, hb.setCell (p := ⟨P, 3, none⟩) h.hP _, h.hP⟩
/-- What an append to what was gone leaves. -/
theorem SAt.path_grown (h : SAt W0 w P vn s vb vc cb cc rv rb tb tc pb pc) {x : Int} {wa : World} {g cap : Nat} (hown : OwnInts wa W0.heap.size (.slice (some ⟨g, 0, none⟩) (s.path.length + 1) cap) (s.path ++ [x])) (hg : (w.alloc (.cells #[.int .i64 x] 3)).grownBy wa (some pb)) (hat : g = pb ∨ g = w.heap.size + 1) :
    wa.heap[P]? = w.heap[P]? ∧ OwnInts wa W0.heap.size (.slice (some ⟨vb, 0, none⟩) vn vc) (listN vn s.vals) ∧ FrR P P w wa ∧ SAt W0 (wa.setCell ⟨P, 4, none⟩ (.slice (some ⟨g, 0, none⟩) (s.path.length + 1) cap)) P vn { s with path := s.path ++ [x] } vb vc cb cc rv rb tb tc g cap := by
  have hg2 : (w.alloc (.cells #[.int .i64 x] 3)).grownBy wa (Value.slice (some ⟨pb, 0, none⟩) s.path.length pc).ownBlock := hg
  have hPa : wa.heap[P]? = w.heap[P]? := (hg2.block P (by have := h.lt; simp; omega) (h.path.not_box h.box (by decide))).trans (Below.heap_alloc _ _ _ h.lt)
  have ap : ∀ {y n c : Nat}, y ≠ pb → ∀ q, (Value.slice (some ⟨pb, 0, none⟩) s.path.length pc).ownBlock = some q → (Value.slice (some ⟨y, 0, none⟩) n c).ownBlock = some q → False := fun hy q e1 e2 => by
    simp [Value.ownBlock] at e1 e2
    omega
  have lv : ∀ {y n c : Nat} {l : List Int}, OwnInts w W0.heap.size (.slice (some ⟨y, 0, none⟩) n c) l → y < w.heap.size := fun hy => (World.ownsRow.lt hy _ rfl).2
  have hr := h.reads
  obtain ⟨_, _, _, _, _, _, ⟨c9, hc9⟩, _⟩ := hr
  have lr : rb < w.heap.size := (Array.getElem?_eq_some_iff.1 hc9).1
  have v1 := grown_other h.vals hg2 (ap h.d4)
  have v2 := grown_other h.cells hg2 (ap h.d7)
  have v3 := grown_other h.told hg2 (ap h.d10)
  have rr : wa.heap[rb]? = w.heap[rb]? := (hg.block rb (by simp; omega) (by simpa using h.d9)).trans (Below.heap_alloc _ _ _ lr)
  have hbx := hPa.trans h.box
  have hb := h.below.trans (h.path.grown h.below.size hg2)
  have nr := not_row hbx (by decide) ⟨c9, rr.trans hc9⟩
  have l1 := lv h.vals
  have l2 := lv h.cells
  have l3 := lv h.told
  have e1 := h.d4
  have e2 := h.d7
  have e3 := h.d10
  have e4 := h.d9
  refine ⟨hPa, v1, FrR.grown h.path hg2, heap_setCell_same _ _ _ _ _ _ hbx |>.trans (by simp), own_far v1 ⟨_, hbx⟩ (by decide), own_far v2 ⟨_, hbx⟩ (by decide), (h.reads.moved rr).moved (heap_setCell_other _ _ _ _ (fun e => nr e.symm)), own_far v3 ⟨_, hbx⟩ (by decide), own_far hown ⟨_, hbx⟩ (by decide) |> fun q => by simpa using q, h.d1, h.d2, h.d3, by omega, h.d5, h.d6, by omega, h.d8, by omega, by omega, hb.setCell (p := ⟨P, 4, none⟩) h.hP _, h.hP⟩
end
end Go.Proofs.YtebcocehdjoafaaDoor
