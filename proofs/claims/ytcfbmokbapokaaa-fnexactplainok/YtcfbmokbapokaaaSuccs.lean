/- The program's Succs: the blocks that follow, for every program and every number. -/
import Derived.Test.YtcfbmokbapokaaaGraphDef
import Derived.Test.YtcfbmokbapokaaaGoes
import Derived.Test.YtcfbmokbapokaaaShape7
import Derived.Maps.AppendAt
namespace Go.Proofs.Ytcfbmokbapokaaa
open Go.ChangeShapes Go.WideShapes Go.ChangeAt Go.RowKit Go.Shelf
set_option linter.unusedVariables false
attribute [local go_sem] Oper.semAt_some

theorem info_int : (Try.prog.info? 3).map (fun i => (i.zero, i.size, i.bytes)) = some (some (.int .i64 0), 1, 8) := by kernel_rfl

/-- The end of a block of a program, as it lies. -/
theorem FnAt.end {w : World} {ba : Option Addr} {n bcap : Nat} {vals : Int} {F : FnD} (h : FnAt w (.agg #[.slice ba n bcap, .int .i64 vals]) F) {j : Nat} (hj : j < n) :
    ∃ bb off x, ba = some ⟨bb, off, none⟩ ∧ F.blocks[j]? = some x ∧ w.cell? ⟨bb, off + j * 6 + 2, none⟩ = some (.int .i64 x.term.k) ∧ w.cell? ⟨bb, off + j * 6 + 3, none⟩ = some (.int .i64 x.term.a) ∧ w.cell? ⟨bb, off + j * 6 + 4, none⟩ = some (.int .i64 x.term.t) ∧ w.cell? ⟨bb, off + j * 6 + 5, none⟩ = some (.int .i64 x.term.e) := by
  obtain ⟨bv, hv, a, cap, rfl, hm, hc⟩ := h
  simp at hv
  obtain ⟨⟨rfl, rfl, rfl⟩, _⟩ := hv
  obtain ⟨bb, off, rfl, _, hd⟩ := hc (by omega)
  have hx : F.blocks[j]? = some F.blocks[j] := List.getElem?_eq_getElem hj
  obtain ⟨pv, lv, _, _, h1, h2, h3, h4, _⟩ := hd j _ hx
  exact ⟨bb, off, _, rfl, hx, h1, h2, h3, h4⟩

end Go.Proofs.Ytcfbmokbapokaaa
