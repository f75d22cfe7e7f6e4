/- Run and Path, of the model: what runDo tells. -/
import Derived.Test.YtkpddakmcnknjaaImplRunP
import Derived.Test.YtkpddakmcnknjaaSpecAll
import Derived.Test.YtkpddakmcnknjaaSpecNew
import Derived.Test.YtkpddakmcnknjaaShape8
namespace Go.Proofs.Ytkpddakmcnknjaa
open Go.ChangeShapes Go.WideShapes Go.ChangeAt Go.RowKit Go.Shelf
set_option linter.unusedVariables false

set_option maxRecDepth 100000 in
set_option maxHeartbeats 2000000 in
theorem spec_run (v rv : Value) (F : FnD) (reads : List Int) (fuel : Int) (w : World) (hF : FnAt w v F) (hr : ReadsAt w rv reads) (hrl : reads.length ≤ 2000000) :
    Calls Try.prog 12 #[v, rv, .int .i64 fuel] w fun e w' => GivesTold w (runOf F reads fuel) e w' := by
  have HF : Hid (FnAt w v F) := hF
  obtain ⟨n, HN⟩ : ∃ n, Hid (F.blocks.length = n) := ⟨_, rfl⟩
  obtain ⟨vals, HV⟩ : ∃ x, Hid (F.values = x) := ⟨_, rfl⟩
  obtain ⟨ba, bcap, rfl⟩ := hF.out HN.out HV.out
  have HRD : Hid (ReadsAt w rv reads) := hr
  obtain ⟨ra, rcap, rfl, _, _, _⟩ := hr
  obtain ⟨rn, HRN⟩ : ∃ n, Hid (reads.length = n) := ⟨_, rfl⟩
  rw [HRN.out] at HRD ⊢
  have HRL : Hid (reads.length ≤ 2000000) := hrl
  clear hF hrl
  go_enter Try.func12, Try.ntmps12
  go_wp2_with fail
  refine (spec_shapeOk _ F _ (HF.out.later (Bel.alloc _ _))).mono ?_
  rintro e w1 ⟨t, rfl, ht, b1⟩
  have c0 := box_cell b1 0
  have c1 := box_cell b1 1
  simp at c0 c1
  have B1 : Hid (Below w.heap.size w w1) := Bel.after (Bel.alloc _ _) b1
  have HT : Hid (t = true ↔ FnShape F) := ht
  clear b1 ht
  generalize w.heap.size = FB at c0 c1 ⊢
  cases t with
  | false =>
    have hno : ¬ FnShape F := fun h => by have := HT.out.2 h; cases this
    have HO : Hid (runOf F reads fuel = ([], 3, 0)) := if_neg (fun h => hno h.1)
    clear hno
    go_wp2_with fail
    refine bodyPost_ret (v := .tuple #[.slice (some ⟨w1.heap.size, 0, none⟩) 0 0, .int .i64 3, .int .i64 0]) (by simp [results, Try.results12, go_sem]) rfl ?_
    rw [HO.out]
    exact ⟨_, rfl, ownInts_nil rfl B1.out.size, Bel.after B1.out (Bel.alloc _ _)⟩
  | true =>
    have HS : Hid (FnShape F) := HT.out.1 rfl
    obtain ⟨vn, hvn⟩ : ∃ vn : Nat, (vn : Int) = vals := ⟨vals.toNat, by have h1 := HS.out.2.2.1; rw [HV.out] at h1; omega⟩
    subst hvn
    have hv80 : vn ≤ 80 := by have h1 := HS.out.2.2.2.1; rw [HV.out] at h1; omega
    by_cases hf : 0 ≤ fuel
    · have hf2 : ¬ fuel < 0 := by omega
      have HO : Hid (runOf F reads fuel = ((runDo wordV F reads fuel).2.2.told, (runDo wordV F reads fuel).1, (runDo wordV F reads fuel).2.1)) := if_pos ⟨HS.out, hf⟩
      go_wp2_with fail
      refine (l6New_any vn hv80 _ reads fuel hf HRL.out _ (HRD.out.keep B1.out)).mono ?_
      rintro e w2 ⟨P, rfl, h2⟩
      have c0 := Bel.keeps h2.below c0
      have c1 := Bel.keeps h2.below c1
      have HR2 : Hid (SIs w1 w2 P vn (startDo reads fuel)) := h2
      clear h2
      go_wp2_with fail
      have hroom := start_room reads hf
      refine (sall_any (W0 := w1) (P := P) (vn := vn) F ba n bcap (vn : Int) (HF.out.later B1.out) HS.out HV.out rfl 5001 (startDo reads fuel) _ HR2.out hroom.2.2 hroom.1 hroom.2.1).mono ?_
      rintro e w3 ⟨rfl, h3⟩
      have HO4 : Hid (runOf F reads fuel = ((tellN wordV F 5001 0 (-1) (startDo reads fuel)).2.2.told, (tellN wordV F 5001 0 (-1) (startDo reads fuel)).1, (tellN wordV F 5001 0 (-1) (startDo reads fuel)).2.1)) := HO.out
      obtain ⟨r, HRR⟩ : ∃ r, Hid (tellN wordV F 5001 0 (-1) (startDo reads fuel) = r) := ⟨_, rfl⟩
      rw [HRR.out] at HO4 h3 ⊢
      obtain ⟨how, en, sE⟩ := r
      dsimp only at HO4 h3 ⊢
      obtain ⟨vb, vc, cb, cc, rv3, rb, tb, tc, pb, pc, h4⟩ := h3
      have k3 := h4.cell.2.2.2.1
      obtain ⟨tn, HTN⟩ : ∃ q, Hid (sE.told.length = q) := ⟨_, rfl⟩
      have HT3 : Hid (OwnInts w3 w1.heap.size (.slice (some ⟨tb, 0, none⟩) tn tc) sE.told) := by rw [← HTN.out]; exact h4.told
      rw [HTN.out] at k3
      have HB3 : Hid (Below w1.heap.size w1 w3) := h4.below
      clear h4 hroom HO HR2
      go_wp2_with fail
      refine bodyPost_ret (v := .tuple #[.slice (some ⟨tb, 0, none⟩) tn tc, .int .i64 how, .int .i64 en]) (by simp [results, Try.results12, go_sem]) rfl ?_
      rw [HO4.out]
      exact ⟨_, rfl, HT3.out.low B1.out.size, Bel.after B1.out HB3.out⟩
    · have hf2 : fuel < 0 := by omega
      have HO : Hid (runOf F reads fuel = ([], 3, 0)) := if_neg (fun h => hf h.2)
      clear hf
      go_wp2_with fail
      refine bodyPost_ret (v := .tuple #[.slice (some ⟨w1.heap.size, 0, none⟩) 0 0, .int .i64 3, .int .i64 0]) (by simp [results, Try.results12, go_sem]) rfl ?_
      rw [HO.out]
      exact ⟨_, rfl, ownInts_nil rfl B1.out.size, Bel.after B1.out (Bel.alloc _ _)⟩

set_option maxRecDepth 100000 in
set_option maxHeartbeats 2000000 in
theorem spec_path (v rv : Value) (F : FnD) (reads : List Int) (fuel : Int) (w : World) (hF : FnAt w v F) (hr : ReadsAt w rv reads) (hrl : reads.length ≤ 2000000) :
    Calls Try.prog 17 #[v, rv, .int .i64 fuel] w fun e w' => GivesOwn w (pathOf F reads fuel) e w' := by
  have HF : Hid (FnAt w v F) := hF
  obtain ⟨n, HN⟩ : ∃ n, Hid (F.blocks.length = n) := ⟨_, rfl⟩
  obtain ⟨vals, HV⟩ : ∃ x, Hid (F.values = x) := ⟨_, rfl⟩
  obtain ⟨ba, bcap, rfl⟩ := hF.out HN.out HV.out
  have HRD : Hid (ReadsAt w rv reads) := hr
  obtain ⟨ra, rcap, rfl, _, _, _⟩ := hr
  obtain ⟨rn, HRN⟩ : ∃ n, Hid (reads.length = n) := ⟨_, rfl⟩
  rw [HRN.out] at HRD ⊢
  have HRL : Hid (reads.length ≤ 2000000) := hrl
  clear hF hrl
  go_enter Try.func17, Try.ntmps17
  go_wp2_with fail
  refine (spec_shapeOk _ F _ (HF.out.later (Bel.alloc _ _))).mono ?_
  rintro e w1 ⟨t, rfl, ht, b1⟩
  have c0 := box_cell b1 0
  have c1 := box_cell b1 1
  simp at c0 c1
  have B1 : Hid (Below w.heap.size w w1) := Bel.after (Bel.alloc _ _) b1
  have HT : Hid (t = true ↔ FnShape F) := ht
  clear b1 ht
  generalize w.heap.size = FB at c0 c1 ⊢
  cases t with
  | false =>
    have hno : ¬ FnShape F := fun h => by have := HT.out.2 h; cases this
    have HO : Hid (pathOf F reads fuel = []) := if_neg (fun h => hno h.1)
    clear hno
    go_wp2_with fail
    go_ret
    rw [HO.out]
    exact ⟨_, rfl, ownInts_nil rfl B1.out.size, Bel.after B1.out (Bel.alloc _ _)⟩
  | true =>
    have HS : Hid (FnShape F) := HT.out.1 rfl
    obtain ⟨vn, hvn⟩ : ∃ vn : Nat, (vn : Int) = vals := ⟨vals.toNat, by have h1 := HS.out.2.2.1; rw [HV.out] at h1; omega⟩
    subst hvn
    have hv80 : vn ≤ 80 := by have h1 := HS.out.2.2.2.1; rw [HV.out] at h1; omega
    by_cases hf : 0 ≤ fuel
    · have hf2 : ¬ fuel < 0 := by omega
      have HO : Hid (pathOf F reads fuel = (tellN wordV F 5001 0 (-1) (startDo reads fuel)).2.2.path) := if_pos ⟨HS.out, hf⟩
      go_wp2_with fail
      refine (l6New_any vn hv80 _ reads fuel hf HRL.out _ (HRD.out.keep B1.out)).mono ?_
      rintro e w2 ⟨P, rfl, h2⟩
      have c0 := Bel.keeps h2.below c0
      have c1 := Bel.keeps h2.below c1
      have HR2 : Hid (SIs w1 w2 P vn (startDo reads fuel)) := h2
      clear h2
      go_wp2_with fail
      have hroom := start_room reads hf
      refine (sall_any (W0 := w1) (P := P) (vn := vn) F ba n bcap (vn : Int) (HF.out.later B1.out) HS.out HV.out rfl 5001 (startDo reads fuel) _ HR2.out hroom.2.2 hroom.1 hroom.2.1).mono ?_
      rintro e w3 ⟨rfl, h3⟩
      obtain ⟨r, HRR⟩ : ∃ r, Hid (tellN wordV F 5001 0 (-1) (startDo reads fuel) = r) := ⟨_, rfl⟩
      rw [HRR.out] at HO h3 ⊢
      obtain ⟨how, en, sE⟩ := r
      dsimp only at HO h3 ⊢
      obtain ⟨vb, vc, cb, cc, rv3, rb, tb, tc, pb, pc, h4⟩ := h3
      have k4 := h4.cell.2.2.2.2.1
      obtain ⟨pn, HPN⟩ : ∃ q, Hid (sE.path.length = q) := ⟨_, rfl⟩
      have HT3 : Hid (OwnInts w3 w1.heap.size (.slice (some ⟨pb, 0, none⟩) pn pc) sE.path) := by rw [← HPN.out]; exact h4.path
      rw [HPN.out] at k4
      have HB3 : Hid (Below w1.heap.size w1 w3) := h4.below
      clear h4 hroom HR2
      go_wp2_with fail
      go_ret
      rw [HO.out]
      exact ⟨_, rfl, HT3.out.low B1.out.size, Bel.after B1.out HB3.out⟩
    · have hf2 : fuel < 0 := by omega
      have HO : Hid (pathOf F reads fuel = []) := if_neg (fun h => hf h.2)
      clear hf
      go_wp2_with fail
      go_ret
      rw [HO.out]
      exact ⟨_, rfl, ownInts_nil rfl B1.out.size, Bel.after B1.out (Bel.alloc _ _)⟩
end Go.Proofs.Ytkpddakmcnknjaa
