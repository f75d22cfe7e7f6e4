/- A list of numbers, or of flags, appended to an empty one: a copy of the call's own; the program's copy of a set. -/
import Derived.Test.YtjfogpbhacadbaaLSetMK
import Derived.ArgAppend
import Derived.Lib.AppendZeros
namespace Go.Proofs.Ytjfogpbhacadbaa
open Go.ChangeShapes Go.WideShapes Go.ChangeAt Go.RowKit
set_option linter.unusedVariables false

theorem cinfo_int : (Try.prog.info? 3).map (fun i => (i.zero, i.size, i.bytes)) = some (some (.int .i64 0), 1, 8) := by kernel_rfl

set_option maxRecDepth 100000 in
theorem add_ints (g lo : Nat) (v : Value) (l : List Int) (w : World) (h : IntsAt w v l) (hn : l.length ≤ 1048576) (hg : OwnInts w lo (.slice (some ⟨g, 0, none⟩) 0 0) []) (hlo : lo ≤ w.heap.size) (ty : TypeId) :
    ∃ v' w', (Builtin.append_ #[72, 72] ty #[.slice (some ⟨g, 0, none⟩) 0 0, v]).run Try.prog w = .ok v' w' ∧ (∃ a' cap', v' = .slice a' l.length cap') ∧ OwnInts w' lo v' l ∧ Below w.heap.size w w' := by
  obtain ⟨a, cap, rfl, hm, hc⟩ := h
  obtain ⟨i0, hi, hz0, hz1, hz2⟩ := info_parts cinfo_int
  by_cases h0 : l.length = 0
  · refine ⟨.slice (some ⟨g, 0, none⟩) 0 0, w, ?_, ⟨_, _, by rw [h0]⟩, ?_, Below.refl _ _⟩
    · rw [h0]
      cases a with
      | none => simp [Builtin.append_, run_underlying Try.underlying72, sizeOf, typeInfo, hi, Builtin.lenOf, Builtin.firstCells, go_sem]
      | some ad => simp [Builtin.append_, run_underlying Try.underlying72, sizeOf, typeInfo, hi, Builtin.lenOf, Builtin.firstCells, go_sem]
    · rw [List.length_eq_zero_iff.1 h0]
      exact hg
  · have hmx : 2000000 ≤ maxLen := by decide
    obtain ⟨b, off, rfl, hE⟩ := hc (by omega)
    obtain ⟨v', w', hrun, hown, hgr⟩ := run_append_arg_grows (P := Try.prog) w 72 ty 3 i0 (.int .i64 0) 1 8 Try.underlying72 hi hz0 hz1 hz2 rfl (by decide) ⟨g, 0, none⟩ 0 0 [] rfl (fun j u h => by simp at h) ⟨b, off, none⟩ l.length cap (l.map (fun x => Value.int .i64 x)) (by simp) (fun j u hu => by
      have hj : j < l.length := by
        rcases Nat.lt_or_ge j l.length with h | h
        · exact h
        · rw [List.getElem?_eq_none (by simpa using h)] at hu; cases hu
      rw [Addr.add_lit, hE j hj, ← hu]
      simp [hj]) (by omega) (by omega) (by omega)
    rw [Nat.zero_add, List.nil_append] at hown
    have hb : Below w.heap.size w w' := (Below.refl w.heap.size w).grown hgr (Nat.le_refl _) (fun j ej => by cases ej)
    have hO : OwnInts w' lo v' l := OwnInts.low (show OwnInts w' w.heap.size v' l from hown) hlo
    refine ⟨v', w', hrun, ?_, hO, hb⟩
    rcases hO.shape with ⟨rfl, rfl⟩ | ⟨g2, c2, rfl⟩
    · simp at h0
    · exact ⟨_, _, rfl⟩

def GivesSet (w : World) (l : List Int) (n : Nat) (e : Ending) (w' : World) : Prop := ∃ a c, e = .returned (.agg #[.slice a n c]) ∧ OwnInts w' w.heap.size (.slice a n c) l ∧ Below w.heap.size w w'

set_option maxRecDepth 100000 in
set_option maxHeartbeats 4000000 in
theorem copy_any (sa : Option Addr) (n scap : Nat) (l : List Int) (w : World) (h : IntsAt w (.slice sa n scap) l) (hl : l.length = n) (hn : l.length ≤ 80) :
    Calls Try.prog 44 #[.agg #[.slice sa n scap]] w fun e w' => GivesSet w l n e w' := by
  have HI2 : Hid (IntsAt w (.slice sa n scap) l) := h
  have HN : Hid (l.length = n) := hl
  have HN80 : Hid (l.length ≤ 80) := hn
  clear h hl hn
  obtain ⟨wA, hwA⟩ : ∃ wA, (w.alloc (.cells #[.slice sa n scap] 74)).alloc (.cells #[.slice none 0 0] 74) = wA := ⟨_, rfl⟩
  have BA : Hid (Below w.heap.size w wA) := by rw [← hwA]; repeat (first | exact Below.refl _ _ | apply Below.drew | refine Below.alloc ?_ (by simp <;> omega) _ | refine Below.setCell ?_ (by simp <;> omega) _)
  have hsz : wA.heap.size = w.heap.size + 2 := by rw [← hwA]; simp
  have a0 : wA.cell? ⟨w.heap.size, 0, none⟩ = some (.slice sa n scap) := by rw [← hwA]; simp [go_sem]
  have a1 : wA.cell? ⟨w.heap.size + 1, 0, none⟩ = some (.slice none 0 0) := by rw [← hwA]; simp [go_sem]
  have a2 : wA.frozen? ⟨w.heap.size + 1, 0, none⟩ = false := by rw [← hwA]; simp [go_sem]
  obtain ⟨wB, hwB⟩ : ∃ wB, wA.alloc (.cells #[] 3) = wB := ⟨_, rfl⟩
  have BB : Hid (Below wA.heap.size wA wB) := by rw [← hwB]; exact Bel.alloc _ _
  have OB : OwnInts wB w.heap.size (.slice (some ⟨wA.heap.size, 0, none⟩) 0 0) [] := by rw [← hwB]; exact OwnInts.low (ownInts_new wA) (by omega)
  have hszB : wB.heap.size = w.heap.size + 3 := by rw [← hwB]; simp; omega
  have I3 : IntsAt wB (.slice sa n scap) l := (HI2.out.keep BA.out).keep BB.out
  obtain ⟨v', wC, hrun, ⟨a', c', rfl⟩, hO, BC⟩ := add_ints wA.heap.size w.heap.size (.slice sa n scap) l wB I3 (by have := HN80.out; omega) OB (by omega) 72
  rw [HN.out] at hO hrun
  rw [hsz] at hrun
  have HO : Hid (OwnInts wC w.heap.size (.slice a' n c') l) := hO
  have HBC : Hid (Below wB.heap.size wB wC) := BC
  have c0 := Bel.keeps BC (Bel.keeps BB.out a1)
  have hfC : wC.frozen? ⟨w.heap.size + 1, 0, none⟩ = false := by
    rw [World.frozen?_of_block (w := wB) (a := ⟨w.heap.size + 1, 0, none⟩) (BC.block _ (by simp; omega)), World.frozen?_of_block (w := wA) (a := ⟨w.heap.size + 1, 0, none⟩) (BB.out.block _ (by simp; omega))]; exact a2
  have b0 := Bel.keeps BB.out a0
  clear OB I3 BC hO
  go_enter Try.func44, Try.ntmps44
  go_wp2_with (at_builtin; refine Lib.wpList_append_run _ rfl _ _ _ _ rfl _ _ rfl rfl _ _ hrun ?_)
  have rc : (wC.setCell ⟨w.heap.size + 1, 0, none⟩ (.slice a' n c')).cell? ⟨w.heap.size + 1, 0, none⟩ = some (.slice a' n c') := World.cell?_setCell_same' _ _ _ (by rw [c0]; rfl)
  have hne : (Value.slice a' n c').ownBlock ≠ some (w.heap.size + 1) := fun e => by
    have hb : wC.heap[w.heap.size + 1]? = some (.cells #[.slice none 0 0] 74 (0, 0)) := by
      rw [HBC.out.block _ (by omega), BB.out.block _ (by omega), ← hwA]
      have := World.alloc_heap_new (w.alloc (.cells #[.slice sa n scap] 74)) (.cells #[.slice none 0 0] 74)
      rwa [World.size_alloc] at this
    rcases HO.out.2 with ⟨h0, _⟩ | ⟨g, cap, cur, h0, _, hg, _⟩
    · rw [h0] at e; simp [Value.ownBlock] at e
    · rw [h0] at e
      simp [Value.ownBlock] at e
      rw [e, hb] at hg
      simp at hg
  refine bodyPost_ret (v := .agg #[.slice a' n c']) (by simp [results, Try.results44, go_sem, rc]) rfl ?_
  exact ⟨_, _, rfl, HO.out.putAt hne _ _, (Bel.after BA.out (Bel.after BB.out HBC.out)).setCell (p := ⟨w.heap.size + 1, 0, none⟩) (by simp) _⟩
end Go.Proofs.Ytjfogpbhacadbaa
