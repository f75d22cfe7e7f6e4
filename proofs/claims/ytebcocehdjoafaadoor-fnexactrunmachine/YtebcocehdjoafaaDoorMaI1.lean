/- The parts of the program's machine: fuel, cells, what is read and what is told, the stop. -/
import Derived.Test.YtebcocehdjoafaaDoorMaMem
namespace Go.Proofs.YtebcocehdjoafaaDoor
open Go.ChangeShapes Go.WideShapes Go.ChangeAt Go.RowKit Go.Shelf
set_option linter.unusedVariables false

section
variable {W0 : World} {M : Nat} {m : MacS} {x : MacE}

theorem mburn_none (w : World) (h : MacIs W0 w M m x) (hf : x.fuel = 0) :
    Calls Tryd.prog 49 #[.pointer (some ⟨M, 0, none⟩)] w fun e w' => e = .returned (.bool false) ∧ w' = w := by
  obtain ⟨rv, tv, h⟩ := h
  have c1 := h.cells.c1
  rw [hf] at c1
  clear h
  go_enter Tryd.func49, Tryd.ntmps49
  go_wp2
  go_ret
  exact ⟨rfl, rfl⟩

theorem mburn_one (w : World) (h : MacIs W0 w M m x) {k : Nat} (hf : x.fuel = k + 1) (hk : k ≤ 40000) :
    Calls Tryd.prog 49 #[.pointer (some ⟨M, 0, none⟩)] w fun e w' => e = .returned (.bool true) ∧ MacTo W0 M w m { x with fuel := k } w' := by
  obtain ⟨rv, tv, h⟩ := h
  obtain ⟨q, HM⟩ : ∃ q : Int, Hid (q = (x.fuel : Int)) := ⟨_, rfl⟩
  have c1 := h.cells.c1
  have f1 := h.frozen 1
  have HH : Hid (MacAt W0 w M m x rv tv) := h
  rw [← HM.out] at c1
  have hm0 : (q == 0) = false := by have := HM.out; simp; omega
  have hm1 : 1 ≤ q := by have := HM.out; omega
  have hm2 : q ≤ 40001 := by have := HM.out; omega
  clear h
  go_enter Tryd.func49, Tryd.ntmps49
  go_wp2
  go_ret
  have e : q - 1 = (k : Int) := by have := HM.out; omega
  refine ⟨rfl, ⟨rv, tv, ?_⟩, FrR.setR _ _ _ _ _⟩
  rw [e]
  exact HH.out.setFuel k

theorem mread_any (w : World) (h : MacIs W0 w M m x) :
    Calls Tryd.prog 72 #[.pointer (some ⟨M, 0, none⟩)] w fun e w' => e = .returned (.int .i64 (m.reads.headD 0)) ∧ MacTo W0 M w { m with reads := m.reads.tail } x w' := by
  obtain ⟨rv, tv, h⟩ := h
  have c0 := h.cells.c0
  have f0 := h.frozen 0
  have HH : Hid (MacAt W0 w M m x rv tv) := h
  obtain ⟨a, cap, rfl, hcap, hcm, hc⟩ := h.reads
  cases hl : m.reads with
  | nil =>
    rw [hl] at c0
    have HL : Hid (m.reads = []) := hl
    clear hc h hcap hcm
    go_enter Tryd.func72, Tryd.ntmps72
    go_wp2
    go_ret
    refine ⟨rfl, ⟨.slice a m.reads.length cap, tv, ?_⟩, FrR.refl _ _ _⟩
    have e : { m with reads := [] } = m := by rw [← HL.out]
    show MacAt W0 w M { m with reads := [] } x _ tv
    rw [e]
    exact HH.out
  | cons y l =>
    rw [hl] at c0 hc hcap
    obtain ⟨b, off, rfl, hd⟩ := hc (by simp)
    have q0 : w.cell? ⟨b, off, none⟩ = some (.int .i64 y) := by
      have := hd 0 (by simp)
      exact Bel.keeps h.below (by simpa using this)
    obtain ⟨n, HN⟩ : ∃ n, Hid ((y :: l).length = n) := ⟨_, rfl⟩
    rw [HN.out] at c0 hcap
    have hn : 1 ≤ n := by have := HN.out; simp at this; omega
    have hn0 : ((n : Int) == 0) = false := by simp; omega
    have HD : Hid (∀ i, i < (y :: l).length → W0.cell? ⟨b, off + i, none⟩ = some (.int .i64 ((y :: l).getD i 0))) := hd
    have HL : Hid (m.reads = y :: l) := hl
    clear hc h hd hl
    go_enter Tryd.func72, Tryd.ntmps72
    go_wp2
    · go_ret
      refine ⟨rfl, ⟨_, tv, HH.out.setReads (l := l) ?_⟩, FrR.setR _ _ _ _ _⟩
      have hl0 : l = [] := by
        have := HN.out
        simp at this
        exact List.eq_nil_of_length_eq_zero (by omega)
      subst hl0
      exact ⟨_, _, by rw [← HN.out]; rfl, by simp, by omega, fun hp => absurd hp (by simp)⟩
    · go_ret
      refine ⟨rfl, ⟨_, tv, HH.out.setReads (l := l) ?_⟩, FrR.setR _ _ _ _ _⟩
      have hnl : n - 1 = l.length := by have := HN.out; simp at this; omega
      refine ⟨_, _, by rw [hnl], by omega, by omega, fun hp => ⟨b, off + 1, rfl, fun i hi => ?_⟩⟩
      have := HD.out (i + 1) (by simp; omega)
      have e : off + (i + 1) = off + 1 + i := by omega
      rw [e] at this
      simpa [List.getD] using this

/-- What an append to what was told leaves of the machine. -/
theorem mgrown {w : World} {rv tv : Value} (h : MacAt W0 w M m x rv tv) {o : Obj} {wa : World} (hg : (w.alloc o).grownBy wa tv.ownBlock) : MacCells wa M m.regs m.slots m.cells (x.fuel : Int) (m.pc : Int) x.over x.how x.en rv tv ∧ Below W0.heap.size W0 wa := by
  obtain ⟨c, hc⟩ := h.cells.row
  have l1 := h.cells.lt
  refine ⟨h.cells.moved ?_, h.below.trans (h.told.grown h.below.size hg)⟩
  exact (hg.block M (by simp; omega) (h.told.not_box hc (by decide))).trans (Below.heap_alloc _ _ _ l1)

set_option maxRecDepth 100000 in
set_option maxHeartbeats 1000000 in
theorem mtell_any (y : Int) (w : World) (h : MacIs W0 w M m x) (hl : m.told.length ≤ 40000) :
    Calls Tryd.prog 71 #[.pointer (some ⟨M, 0, none⟩), .int .i64 y] w fun e w' => (∃ v, e = .returned v) ∧ MacTo W0 M w { m with told := m.told ++ [y] } x w' := by
  obtain ⟨rv, tv, h⟩ := h
  have HH : Hid (MacAt W0 w M m x rv tv) := h
  have c10 := h.cells.c10
  have hRl := h.cells.lt
  obtain ⟨i0, hi, hz0, hz1, hz2⟩ := info_parts info_int
  have hmx : 100000 ≤ maxLen := by decide
  clear h
  go_enter Tryd.func71, Tryd.ntmps71
  go_wp2_with (at_builtin; refine wpList_append_own_at _ rfl _ _ 39 rfl W0.heap.size 3 i0 (.int .i64 0) 1 8 Tryd.underlying39 hi hz0 hz1 hz2 rfl (by decide) _ _ _ rfl (World.ownsRow.alloc HH.out.told _) ⟨w.heap.size, 0, none⟩ 1 1 [.int .i64 y] rfl rfl (cell_one_new _ _ _) (by simp [Value.oneCell']) (by omega) (by omega) (by have := HH.out.below.size; simp; omega) ?_; intro v' wa hown' hgrow _ hat; obtain ⟨g', cap', rfl⟩ := ownsRow_succ hown'; have HO' : Hid (OwnInts wa W0.heap.size (.slice (some ⟨g', 0, none⟩) (m.told.length + 1) cap') (m.told ++ [y])) := OwnInts.next hown'; have HG : Hid ((w.alloc (.cells #[.int .i64 y] 3)).grownBy wa tv.ownBlock) := hgrow; have ka := (mgrown HH.out HG.out).1; have c10' := ka.c10; have f10' := frozen_of_cells ka.row 10; clear hown' hgrow ka c10 hat)
  go_end0
  obtain ⟨ka, hb⟩ := mgrown HH.out HG.out
  exact ⟨⟨_, rfl⟩, ⟨rv, _, ka.setTold _, HH.out.reads, own_far HO'.out ka.row (by decide), hb.setCell (p := ⟨M, 10, none⟩) HH.out.hM _, HH.out.hM⟩, (FrR.grown HH.out.told HG.out).trans (FrR.setR _ _ _ _ _)⟩

theorem mcell_yes (a : Nat) (ha : a < 8) (w : World) :
    Calls Tryd.prog 70 #[.pointer (some ⟨M, 0, none⟩), .int .i64 (a : Int)] w fun e w' => e = .returned (.pointer (some ⟨M, 2 + a, none⟩)) ∧ w' = w := by
  have h0 : ¬ (a : Int) < 0 := by omega
  have h1 : ¬ (8 : Int) ≤ (a : Int) := by omega
  have h2 : (a : Int) < 8 := by omega
  go_enter Tryd.func70, Tryd.ntmps70
  go_wp2
  go_ret
  exact ⟨rfl, rfl⟩

theorem mcell_no (a : Int) (ha : ¬ cellOk a) (w : World) :
    Calls Tryd.prog 70 #[.pointer (some ⟨M, 0, none⟩), .int .i64 a] w fun e w' => e = .returned (.pointer none) ∧ w' = w := by
  by_cases h0 : a < 0
  · clear ha
    go_enter Tryd.func70, Tryd.ntmps70
    go_wp2
    go_ret
    exact ⟨rfl, rfl⟩
  · have h1 : (8 : Int) ≤ a := by unfold cellOk at ha; omega
    clear ha
    go_enter Tryd.func70, Tryd.ntmps70
    go_wp2
    go_ret
    exact ⟨rfl, rfl⟩

set_option maxHeartbeats 1000000 in
theorem mstop_any (hw en : Int) (w : World) (h : MacIs W0 w M m x) :
    Calls Tryd.prog 50 #[.pointer (some ⟨M, 0, none⟩), .int .i64 hw, .int .i64 en] w fun e w' => (∃ v, e = .returned v) ∧ MacTo W0 M w m ⟨x.fuel, true, hw, en⟩ w' := by
  obtain ⟨rv, tv, h⟩ := h
  have HH : Hid (MacAt W0 w M m x rv tv) := h
  have c60 := h.cells.c60
  have c61 := h.cells.c61
  have c62 := h.cells.c62
  have f60 := h.frozen 60
  have f61 := h.frozen 61
  have f62 := h.frozen 62
  clear h
  go_enter Tryd.func50, Tryd.ntmps50
  go_wp2
  go_end0
  exact ⟨⟨_, rfl⟩, ⟨rv, tv, ((HH.out.setOver true).setHow hw).setEnd en⟩, ((FrR.setR _ _ _ _ _).trans (FrR.setR _ _ _ _ _)).trans (FrR.setR _ _ _ _ _)⟩
end
end Go.Proofs.YtebcocehdjoafaaDoor
