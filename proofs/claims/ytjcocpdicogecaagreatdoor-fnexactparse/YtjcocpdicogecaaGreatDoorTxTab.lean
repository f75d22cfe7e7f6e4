/- The program's tables in memory: forms, names of steps, names of words, and the library's powers of ten. -/
import Derived.Test.YtjcocpdicogecaaGreatDoorMaSt
import Derived.Test.YtjcocpdicogecaaGreatDoorTxDef
import Derived.Lib.LaidTab
import Derived.WalkSmall
import Derived.Carry
namespace Go.Proofs.YtjcocpdicogecaaGreatDoor
open Go.ChangeShapes Go.WideShapes Go.ChangeAt Go.RowKit
set_option linter.unusedVariables false

/-- A text of so many bytes. -/
def bs (l : List UInt8) : ByteArray := ⟨l.toArray⟩
theorem bs_inj {a b : List UInt8} (h : bs a = bs b) : a = b := by
  unfold bs at h
  have h1 := congrArg (fun x : ByteArray => x.data.toList) h
  simpa using h1
theorem bs_list (l : List UInt8) : (bs l).data.toList = l := by simp [bs]
theorem bs_of (s : ByteArray) : bs s.data.toList = s := by
  unfold bs
  simp
theorem bs_size (l : List UInt8) : (bs l).size = l.length := by
  show (bs l).data.size = _
  simp [bs]
theorem bs_app (a b : List UInt8) : bs a ++ bs b = bs (a ++ b) := by
  apply Go.WideShapes.bytes_inj
  simp [bs, ByteArray.data_append]
theorem ret_bs {a b : List UInt8} (h : a = b) : Ending.returned (.string (bs a)) = .returned (.string (bs b)) := by rw [h]

def wNm (i : Nat) : List UInt8 := if i = 0 then [] else opNm (i + 11)
def NTab (w : World) : Prop := ∀ i : Nat, i < 12 → w.cell? ⟨2, i, none⟩ = some (.string (bs (opNm i)))
def WTab (w : World) : Prop := ∀ i : Nat, i < 11 → w.cell? ⟨3, i, none⟩ = some (.string (bs (wNm i)))

structure Tabs (w : World) : Prop where
  ft : FTab w
  nt : NTab w
  wt : WTab w
  pt : Lib.TabIs Tryz.prog w "internal/strconv.uint64pow10" .u64 Lib.pow10Tab
theorem gPow : Tryz.prog.globalNamed "internal/strconv.uint64pow10" = some 9 := by kernel_rfl
theorem NTab.lt {w : World} (h : NTab w) : 2 < w.heap.size := World.block_lt_of_cell? w _ (h 0 (by omega))
theorem WTab.lt {w : World} (h : WTab w) : 3 < w.heap.size := World.block_lt_of_cell? w _ (h 0 (by omega))
theorem FTab.lt {w : World} (h : FTab w) : 1 < w.heap.size := World.block_lt_of_cell? w _ (h 0 (by omega)).1
theorem Tabs.plt {w : World} (h : Tabs w) : 9 < w.heap.size := by
  have h9 := h.pt.cell gPow 0 (by rw [Lib.pow10Tab_length]; omega)
  exact World.block_lt_of_cell? w _ h9
theorem Tabs.under {lo : Nat} {w w' : World} (h : Tabs w) (hb : Below lo w w') (h0 : 1 < lo) (h1 : 2 < lo) (h2 : 3 < lo) (h3 : 9 < lo) : Tabs w' := by
  refine ⟨fun i hi => ?_, fun i hi => ?_, fun i hi => ?_, var?_below hb gPow h3 h.pt⟩
  · obtain ⟨a, b, c, d⟩ := h.ft i hi
    exact ⟨(hb.cell (p := ⟨1, i * 4, none⟩) h0).trans a, (hb.cell (p := ⟨1, i * 4 + 1, none⟩) h0).trans b, (hb.cell (p := ⟨1, i * 4 + 2, none⟩) h0).trans c, (hb.cell (p := ⟨1, i * 4 + 3, none⟩) h0).trans d⟩
  · exact (hb.cell (p := ⟨2, i, none⟩) h1).trans (h.nt i hi)
  · exact (hb.cell (p := ⟨3, i, none⟩) h2).trans (h.wt i hi)
theorem Tabs.keep {w w' : World} (h : Tabs w) (hb : Below w.heap.size w w') : Tabs w' := h.under hb h.ft.lt h.nt.lt h.wt.lt h.plt
end Go.Proofs.YtjcocpdicogecaaGreatDoor
