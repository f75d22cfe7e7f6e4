/- Run and Path, of the program: what runDo tells. -/
import Derived.Test.YtkpddakmcnknjaaImplAll
import Derived.Test.YtkpddakmcnknjaaImplNew
import Derived.Test.YtkpddakmcnknjaaShape7
namespace Go.Proofs.Ytkpddakmcnknjaa
open Go.ChangeShapes Go.WideShapes Go.ChangeAt Go.RowKit Go.Shelf
set_option linter.unusedVariables false

open Classical in
/-- What Run answers. -/
noncomputable def runOf (F : FnD) (reads : List Int) (fuel : Int) : List Int × Int × Int := if FnShape F ∧ 0 ≤ fuel then ((runDo wordV F reads fuel).2.2.told, (runDo wordV F reads fuel).1, (runDo wordV F reads fuel).2.1) else ([], 3, 0)
open Classical in
/-- What Path answers. -/
noncomputable def pathOf (F : FnD) (reads : List Int) (fuel : Int) : List Int := if FnShape F ∧ 0 ≤ fuel then (runDo wordV F reads fuel).2.2.path else []
/-- A run is told, in new memory. -/
def GivesTold (w : World) (p : List Int × Int × Int) (e : Ending) (w' : World) : Prop := ∃ v, e = .returned (.tuple #[v, .int .i64 p.2.1, .int .i64 p.2.2]) ∧ OwnInts w' w.heap.size v p.1 ∧ Below w.heap.size w w'
theorem start_room (reads : List Int) {fuel : Int} (h : 0 ≤ fuel) : Room (startDo reads fuel) ∧ (startDo reads fuel).path.length + (startDo reads fuel).fuel ≤ 5000 ∧ (startDo reads fuel).fuel < 5001 := by
  have := startDo_fuel reads h
  unfold Room
  simp only [startDo] at *
  simp
  omega

set_option maxRecDepth 100000 in
set_option maxHeartbeats 2000000 in
theorem impl_run (v rv : Value) (F : FnD) (reads : List Int) (fuel : Int) (w : World) (hF : FnAt w v F) (hr : ReadsAt w rv reads) :
    Calls Try.prog 11 #[v, rv, .int .i64 fuel] w fun e w' => GivesTold w (runOf F reads fuel) e w' := by
  have HF : Hid (FnAt w v F) := hF
  obtain ⟨n, HN⟩ : ∃ n, Hid (F.blocks.length = n) := ⟨_, rfl⟩
  obtain ⟨vals, HV⟩ : ∃ x, Hid (F.values = x) := ⟨_, rfl⟩
  obtain ⟨ba, bcap, rfl⟩ := hF.out HN.out HV.out
  have HRD : Hid (ReadsAt w rv reads) := hr
  obtain ⟨ra, rcap, rfl, _, _, _⟩ := hr
  obtain ⟨rn, HRN⟩ : ∃ n, Hid (reads.length = n) := ⟨_, rfl⟩
  rw [HRN.out] at HRD ⊢
  clear hF
  go_enter Try.func11, Try.ntmps11
  go_wp2_with fail
  refine (impl_shapeOk _ F _ (HF.out.later (Bel.alloc _ _))).mono ?_
  rintro e w1 ⟨t, rfl, ht, b1⟩
  have c0 := box_cell b1 0
  have c1 := box_cell b1 1
  simp at c0 c1
  have B1 : Hid (Below w.heap.size w w1) := Bel.after (Bel.alloc _ _) b1
  have HT : Hid (t = true ↔ FnShape F) := ht
  clear b1 ht
  generalize w.heap.size = FB at c0 c1 ⊢
  cases t with
  | false =>
    have hno : ¬ FnShape F := fun h => by have := HT.out.2 h; cases this
    have HO : Hid (runOf F reads fuel = ([], 3, 0)) := if_neg (fun h => hno h.1)
    clear hno
    go_wp2_with fail
    refine bodyPost_ret (v := .tuple #[.slice (some ⟨w1.heap.size, 0, none⟩) 0 0, .int .i64 3, .int .i64 0]) (by simp [results, Try.results11, go_sem]) rfl ?_
    rw [HO.out]
    exact ⟨_, rfl, ownInts_nil rfl B1.out.size, Bel.after B1.out (Bel.alloc _ _)⟩
  | true =>
    have HS : Hid (FnShape F) := HT.out.1 rfl
    by_cases hf : 0 ≤ fuel
    · have hf2 : ¬ fuel < 0 := by omega
      have HO : Hid (runOf F reads fuel = ((runDo wordV F reads fuel).2.2.told, (runDo wordV F reads fuel).1, (runDo wordV F reads fuel).2.1)) := if_pos ⟨HS.out, hf⟩
      go_wp2_with fail
      refine (newRun_any ba n bcap vals _ reads fuel hf _ (HRD.out.keep B1.out)).mono ?_
      rintro e w2 ⟨R, S, rfl, h2⟩
      have HR2 : Hid (RunIs w1 w2 R S (.slice ba n bcap) vals (startDo reads fuel) (-1) 0) := h2
      clear h2
      go_wp2_with fail
      have hroom := start_room reads hf
      refine (all_any (W0 := w1) (R := R) (S := S) (bv := .slice ba n bcap) (vals := vals) F (HF.out.later B1.out) HS.out HV.out 5001 (startDo reads fuel) 0 _ HR2.out hroom.2.2 hroom.1 hroom.2.1).mono ?_
      rintro e w3 ⟨rfl, fr, pl, h3⟩
      have HO3 : Hid (RunIs w1 w3 R S (.slice ba n bcap) vals (runDo wordV F reads fuel).2.2 fr pl) := h3
      have HO4 : Hid (runOf F reads fuel = ((tellN wordV F 5001 0 (-1) (startDo reads fuel)).2.2.told, (tellN wordV F 5001 0 (-1) (startDo reads fuel)).1, (tellN wordV F 5001 0 (-1) (startDo reads fuel)).2.1)) := HO.out
      obtain ⟨r, HRR⟩ : ∃ r, Hid (tellN wordV F 5001 0 (-1) (startDo reads fuel) = r) := ⟨_, rfl⟩
      rw [HRR.out] at HO4 h3 ⊢
      obtain ⟨how, en, sE⟩ := r
      dsimp only at HO4 h3 ⊢
      obtain ⟨rv3, tv3, pv3, h4⟩ := h3
      have k10 := h4.cells.c10
      have HT3 : Hid (OwnInts w3 w1.heap.size tv3 sE.told) := h4.told
      have HB3 : Hid (Below w1.heap.size w1 w3) := h4.below
      clear h4 hroom HO HO3 HR2
      go_wp2_with fail
      refine bodyPost_ret (v := .tuple #[tv3, .int .i64 how, .int .i64 en]) (by simp [results, Try.results11, go_sem]) rfl ?_
      rw [HO4.out]
      exact ⟨tv3, rfl, HT3.out.low B1.out.size, Bel.after B1.out HB3.out⟩
    · have hf2 : fuel < 0 := by omega
      have HO : Hid (runOf F reads fuel = ([], 3, 0)) := if_neg (fun h => hf h.2)
      clear hf
      go_wp2_with fail
      refine bodyPost_ret (v := .tuple #[.slice (some ⟨w1.heap.size, 0, none⟩) 0 0, .int .i64 3, .int .i64 0]) (by simp [results, Try.results11, go_sem]) rfl ?_
      rw [HO.out]
      exact ⟨_, rfl, ownInts_nil rfl B1.out.size, Bel.after B1.out (Bel.alloc _ _)⟩

set_option maxRecDepth 100000 in
set_option maxHeartbeats 2000000 in
theorem impl_path (v rv : Value) (F : FnD) (reads : List Int) (fuel : Int) (w : World) (hF : FnAt w v F) (hr : ReadsAt w rv reads) :
    Calls Try.prog 16 #[v, rv, .int .i64 fuel] w fun e w' => GivesOwn w (pathOf F reads fuel) e w' := by
  have HF : Hid (FnAt w v F) := hF
  obtain ⟨n, HN⟩ : ∃ n, Hid (F.blocks.length = n) := ⟨_, rfl⟩
  obtain ⟨vals, HV⟩ : ∃ x, Hid (F.values = x) := ⟨_, rfl⟩
  obtain ⟨ba, bcap, rfl⟩ := hF.out HN.out HV.out
  have HRD : Hid (ReadsAt w rv reads) := hr
  obtain ⟨ra, rcap, rfl, _, _, _⟩ := hr
  obtain ⟨rn, HRN⟩ : ∃ n, Hid (reads.length = n) := ⟨_, rfl⟩
  rw [HRN.out] at HRD ⊢
  clear hF
  go_enter Try.func16, Try.ntmps16
  go_wp2_with fail
  refine (impl_shapeOk _ F _ (HF.out.later (Bel.alloc _ _))).mono ?_
  rintro e w1 ⟨t, rfl, ht, b1⟩
  have c0 := box_cell b1 0
  have c1 := box_cell b1 1
  simp at c0 c1
  have B1 : Hid (Below w.heap.size w w1) := Bel.after (Bel.alloc _ _) b1
  have HT : Hid (t = true ↔ FnShape F) := ht
  clear b1 ht
  generalize w.heap.size = FB at c0 c1 ⊢
  cases t with
  | false =>
    have hno : ¬ FnShape F := fun h => by have := HT.out.2 h; cases this
    have HO : Hid (pathOf F reads fuel = []) := if_neg (fun h => hno h.1)
    clear hno
    go_wp2_with fail
    go_ret
    rw [HO.out]
    exact ⟨_, rfl, ownInts_nil rfl B1.out.size, Bel.after B1.out (Bel.alloc _ _)⟩
  | true =>
    have HS : Hid (FnShape F) := HT.out.1 rfl
    by_cases hf : 0 ≤ fuel
    · have hf2 : ¬ fuel < 0 := by omega
      have HO : Hid (pathOf F reads fuel = (tellN wordV F 5001 0 (-1) (startDo reads fuel)).2.2.path) := if_pos ⟨HS.out, hf⟩
      go_wp2_with fail
      refine (newRun_any ba n bcap vals _ reads fuel hf _ (HRD.out.keep B1.out)).mono ?_
      rintro e w2 ⟨R, S, rfl, h2⟩
      have HR2 : Hid (RunIs w1 w2 R S (.slice ba n bcap) vals (startDo reads fuel) (-1) 0) := h2
      clear h2
      go_wp2_with fail
      have hroom := start_room reads hf
      refine (all_any (W0 := w1) (R := R) (S := S) (bv := .slice ba n bcap) (vals := vals) F (HF.out.later B1.out) HS.out HV.out 5001 (startDo reads fuel) 0 _ HR2.out hroom.2.2 hroom.1 hroom.2.1).mono ?_
      rintro e w3 ⟨rfl, fr, pl, h3⟩
      obtain ⟨r, HRR⟩ : ∃ r, Hid (tellN wordV F 5001 0 (-1) (startDo reads fuel) = r) := ⟨_, rfl⟩
      rw [HRR.out] at HO h3 ⊢
      obtain ⟨how, en, sE⟩ := r
      dsimp only at HO h3 ⊢
      obtain ⟨rv3, tv3, pv3, h4⟩ := h3
      have k94 := h4.cells.c94
      have HT3 : Hid (OwnInts w3 w1.heap.size pv3 sE.path) := h4.path
      have HB3 : Hid (Below w1.heap.size w1 w3) := h4.below
      clear h4 hroom HR2
      go_wp2_with fail
      go_ret
      rw [HO.out]
      exact ⟨pv3, rfl, HT3.out.low B1.out.size, Bel.after B1.out HB3.out⟩
    · have hf2 : fuel < 0 := by omega
      have HO : Hid (pathOf F reads fuel = []) := if_neg (fun h => hf h.2)
      clear hf
      go_wp2_with fail
      go_ret
      rw [HO.out]
      exact ⟨_, rfl, ownInts_nil rfl B1.out.size, Bel.after B1.out (Bel.alloc _ _)⟩
end Go.Proofs.Ytkpddakmcnknjaa
