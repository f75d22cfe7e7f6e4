/- A run begins: the program's newWorld and newRun. Run and Path, of the program: what runDo tells. A run of the model goes on till the end: l6Run. A run of the model begins: l6New. Run and Path, of the model: what runDo tells. How much a run tells at most. The draw: a program and a block. The draws of the laws over the graph. The draw: a program, what it reads, and fuel. Small functions of the laws. What the laws of the run want: cases of what is told, lists cut short. -/
import Derived.Test.YtkpddakmcnknjaaImplPhis
import Derived.Test.YtkpddakmcnknjaaImplAll
import Derived.Test.YtkpddakmcnknjaaShape7
import Derived.Test.YtkpddakmcnknjaaSpecPhis
import Derived.Test.YtkpddakmcnknjaaSpecMem
import Derived.Test.YtkpddakmcnknjaaRegI
import Derived.Deep.OwnRows
import Derived.ArgAppend
import Derived.Test.YtkpddakmcnknjaaShape8
import Derived.Test.YtkpddakmcnknjaaGen12
import Derived.Test.YtkpddakmcnknjaaRunMem
import Derived.Deep.RegionHeld3
import Derived.Test.YtkpddakmcnknjaaOwn
import Derived.WalkKit
namespace Go.Proofs.Ytkpddakmcnknjaa
open Go.ChangeShapes Go.WideShapes Go.ChangeAt Go.RowKit Go.Shelf
set_option linter.unusedVariables false

/-- A world as a value. -/
def worldV (rv : Value) (fuel : Int) (tv : Value) : Value := .agg #[rv, .int .i64 fuel, .int .i64 0, .int .i64 0, .int .i64 0, .int .i64 0, .int .i64 0, .int .i64 0, .int .i64 0, .int .i64 0, tv]

set_option maxRecDepth 100000 in
set_option maxHeartbeats 2000000 in
theorem newWorld_any (ra : Option Addr) (rn rcap : Nat) (fuel : Int) (w : World) :
    Calls Try.prog 47 #[.slice ra rn rcap, .int .i64 fuel] w fun e w' => ∃ g, e = .returned (.agg #[.slice ra rn rcap, .int .i64 fuel, .int .i64 0, .int .i64 0, .int .i64 0, .int .i64 0, .int .i64 0, .int .i64 0, .int .i64 0, .int .i64 0, .slice (some ⟨g, 0, none⟩) 0 0]) ∧ w.heap.size ≤ g ∧ w'.heap[g]? = some (.cells #[] 3 (0, 0)) ∧ Below w.heap.size w w' := by
  go_enter Try.func47, Try.ntmps47
  go_wp2
  refine bodyPost_ret (v := .agg #[.slice ra rn rcap, .int .i64 fuel, .int .i64 0, .int .i64 0, .int .i64 0, .int .i64 0, .int .i64 0, .int .i64 0, .int .i64 0, .int .i64 0, .slice (some ⟨w.heap.size + 1, 0, none⟩) 0 0]) (row_results rfl rfl ((Below.heap_alloc _ _ _ (by simp)).trans (World.alloc_heap_new w _)) Try.underlying61 rfl (by kernel_rfl)) rfl ?_
  exact ⟨w.heap.size + 1, rfl, by omega, heap_last (by simp), by repeat (first | exact Below.refl _ _ | apply Below.drew | refine Below.alloc ?_ (by simp <;> omega) _ | refine Below.setCell ?_ (by simp <;> omega) _)⟩

/-- The cells of a run that begins. -/
def runC (rv : Value) (fuel : Int) (tv bv : Value) (vals : Int) (S : Nat) (pv : Value) : List Value :=
  [rv, .int .i64 fuel, .int .i64 0, .int .i64 0, .int .i64 0, .int .i64 0, .int .i64 0, .int .i64 0, .int .i64 0, .int .i64 0, tv, bv, .int .i64 vals, .pointer (some ⟨S, 0, none⟩)] ++ ((List.range 80).map (fun _ => Value.int .i64 0) ++ [pv])
theorem runC_is (rv : Value) (fuel : Int) (tv bv : Value) (vals : Int) (S : Nat) (pv : Value) : (((((((((((((((Try.zeroCells65.setIfInBounds 0 rv).setIfInBounds 1 (.int .i64 fuel)).setIfInBounds 2 (.int .i64 0)).setIfInBounds 3 (.int .i64 0)).setIfInBounds 4 (.int .i64 0)).setIfInBounds 5 (.int .i64 0)).setIfInBounds 6 (.int .i64 0)).setIfInBounds 7 (.int .i64 0)).setIfInBounds 8 (.int .i64 0)).setIfInBounds 9 (.int .i64 0)).setIfInBounds 10 tv).setIfInBounds 11 bv).setIfInBounds 12 (.int .i64 vals)).setIfInBounds 13 (.pointer (some ⟨S, 0, none⟩))).setIfInBounds 94 pv) = (runC rv fuel tv bv vals S pv).toArray := by kernel_rfl
theorem runC_val (rv : Value) (fuel : Int) (tv bv : Value) (vals : Int) (S : Nat) (pv : Value) {i : Nat} (h : i < 80) : (runC rv fuel tv bv vals S pv)[14 + i]? = some (.int .i64 0) := by
  unfold runC
  rw [List.getElem?_append_right (by simp), List.getElem?_append_left (by simp; omega)]
  simp [h]
theorem runC_last (rv : Value) (fuel : Int) (tv bv : Value) (vals : Int) (S : Nat) (pv : Value) : (runC rv fuel tv bv vals S pv)[94]? = some pv := by
  unfold runC
  rw [List.getElem?_append_right (by simp), List.getElem?_append_right (by simp)]
  simp
theorem runC_cell (rv : Value) (fuel : Int) (tv bv : Value) (vals : Int) (S : Nat) (pv : Value) {i : Nat} (h : i < 8) : (runC rv fuel tv bv vals S pv)[2 + i]? = some (.int .i64 0) := by
  unfold runC
  rw [List.getElem?_append_left (by simp; omega)]
  have : i = 0 ∨ i = 1 ∨ i = 2 ∨ i = 3 ∨ i = 4 ∨ i = 5 ∨ i = 6 ∨ i = 7 := by omega
  rcases this with rfl | rfl | rfl | rfl | rfl | rfl | rfl | rfl <;> rfl
theorem run_begins {w W : World} {R S g g2 : Nat} {rv bv : Value} {vals fuel : Int} {reads : List Int} (fn : Nat) (hfn : (fn : Int) = fuel) (hS : W.heap[S]? = some (.cells #[.int .i64 (-1), .int .i64 0] 87 (0, 0))) (hg : W.heap[g]? = some (.cells #[] 3 (0, 0))) (hg2 : W.heap[g2]? = some (.cells #[] 3 (0, 0))) (hne : g ≠ g2)
    (hSl : w.heap.size ≤ S) (hgl : w.heap.size ≤ g) (hg2l : w.heap.size ≤ g2) (hb : Below w.heap.size w W) (hr : ReadsAt w rv reads) (hRW : W.heap.size = R) :
    RunIs w (W.alloc (.cells (((((((((((((((Try.zeroCells65.setIfInBounds 0 rv).setIfInBounds 1 (.int .i64 fuel)).setIfInBounds 2 (.int .i64 0)).setIfInBounds 3 (.int .i64 0)).setIfInBounds 4 (.int .i64 0)).setIfInBounds 5 (.int .i64 0)).setIfInBounds 6 (.int .i64 0)).setIfInBounds 7 (.int .i64 0)).setIfInBounds 8 (.int .i64 0)).setIfInBounds 9 (.int .i64 0)).setIfInBounds 10 (.slice (some ⟨g, 0, none⟩) 0 0)).setIfInBounds 11 bv).setIfInBounds 12 (.int .i64 vals)).setIfInBounds 13 (.pointer (some ⟨S, 0, none⟩))).setIfInBounds 94 (.slice (some ⟨g2, 0, none⟩) 0 0)) 65)) R S bv vals ⟨fun _ => 0, fun _ => 0, reads, [], [], fn⟩ (-1) 0 := by
  subst hRW
  have hSW := (Array.getElem?_eq_some_iff.1 hS).1
  have hgW := (Array.getElem?_eq_some_iff.1 hg).1
  have hg2W := (Array.getElem?_eq_some_iff.1 hg2).1
  rw [runC_is]
  have hR := World.alloc_heap_new W (.cells (runC rv fuel (.slice (some ⟨g, 0, none⟩) 0 0) bv vals S (.slice (some ⟨g2, 0, none⟩) 0 0)).toArray 65)
  have hc : ∀ o v, (runC rv fuel (.slice (some ⟨g, 0, none⟩) 0 0) bv vals S (.slice (some ⟨g2, 0, none⟩) 0 0))[o]? = some v → (W.alloc (.cells (runC rv fuel (.slice (some ⟨g, 0, none⟩) 0 0) bv vals S (.slice (some ⟨g2, 0, none⟩) 0 0)).toArray 65)).cell? ⟨W.heap.size, o, none⟩ = some v := fun o v h => by
    simp only [World.cell?]; rw [hR]; simpa using h
  have hS2 := (Below.heap_alloc W (.cells (runC rv fuel (.slice (some ⟨g, 0, none⟩) 0 0) bv vals S (.slice (some ⟨g2, 0, none⟩) 0 0)).toArray 65) S hSW).trans hS
  have own : ∀ q, W.heap[q]? = some (.cells #[] 3 (0, 0)) → w.heap.size ≤ q → OwnInts (W.alloc (.cells (runC rv fuel (.slice (some ⟨g, 0, none⟩) 0 0) bv vals S (.slice (some ⟨g2, 0, none⟩) 0 0)).toArray 65)) w.heap.size (.slice (some ⟨q, 0, none⟩) 0 0) [] := fun q hq hl =>
    ⟨rfl, .inr ⟨q, 0, #[], rfl, hl, (Below.heap_alloc W _ q (Array.getElem?_eq_some_iff.1 hq).1).trans hq, Nat.le_refl _, Nat.zero_le _, rfl, rfl⟩⟩
  refine ⟨rv, .slice (some ⟨g, 0, none⟩) 0 0, .slice (some ⟨g2, 0, none⟩) 0 0, ⟨⟨_, hR⟩, ⟨_, hS2⟩, hc 0 _ rfl, hc 1 _ (by rw [← hfn]; rfl), fun i hi => hc _ _ (runC_cell _ _ _ _ _ _ _ hi), hc 10 _ rfl, hc 11 _ rfl, hc 12 _ rfl, hc 13 _ rfl, fun i hi => hc _ _ (runC_val _ _ _ _ _ _ _ hi), hc 94 _ (runC_last _ _ _ _ _ _ _), ?_, ?_, by omega⟩, hr, own g hg hgl, own g2 hg2 hg2l, ?_, hb.alloc hb.size _, hb.size, hSl⟩
  · simp [World.cell?, hS2]
  · simp [World.cell?, hS2]
  · intro q e1 e2
    have e3 : g = q := by simpa [Value.ownBlock] using e1
    have e4 : g2 = q := by simpa [Value.ownBlock] using e2
    omega

/-- A run is given. -/
def GivesRun (w : World) (bv : Value) (vals : Int) (s : RunS) (e : Ending) (w' : World) : Prop := ∃ R S, e = .returned (.pointer (some ⟨R, 0, none⟩)) ∧ RunIs w w' R S bv vals s (-1) 0
theorem givesRun {w w' : World} {bv : Value} {vals : Int} {s : RunS} {R S : Nat} (h : RunIs w w' R S bv vals s (-1) 0) : GivesRun w bv vals s (.returned (.pointer (some ⟨R, 0, none⟩))) w' := ⟨R, S, rfl, h⟩

set_option maxRecDepth 100000 in
set_option maxHeartbeats 4000000 in
theorem newRun_any (ba : Option Addr) (n bcap : Nat) (vals : Int) (rv : Value) (reads : List Int) (fuel : Int) (hf : 0 ≤ fuel) (w : World) (hr : ReadsAt w rv reads) :
    Calls Try.prog 31 #[.agg #[.slice ba n bcap, .int .i64 vals], rv, .int .i64 fuel] w fun e w' => GivesRun w (.slice ba n bcap) vals (startDo reads fuel) e w' := by
  obtain ⟨ra, rcap, rfl, hr1, hr2, hr3⟩ := id hr
  obtain ⟨rn, HRN⟩ : ∃ n, Hid (reads.length = n) := ⟨_, rfl⟩
  rw [HRN.out] at hr ⊢
  have HRD : Hid (ReadsAt w (.slice ra rn rcap) reads) := hr
  obtain ⟨fq, HFQ⟩ : ∃ fq : Nat, Hid ((min fuel 5000).toNat = fq) := ⟨_, rfl⟩
  have HST : Hid (startDo reads fuel = ⟨fun _ => 0, fun _ => 0, reads, [], [], fq⟩) := by
    show startDo reads fuel = _
    unfold startDo
    rw [HFQ.out]
  rw [HST.out]
  clear hr hr1 hr2 hr3
  by_cases hfu : fuel ≤ 5000
  · have HFE : Hid ((fq : Int) = fuel) := by have := HFQ.out; show (fq : Int) = fuel; omega
    go_enter Try.func31, Try.ntmps31
    go_wp2
    rename_i Q9 K9 hK9
    obtain ⟨x0, x1⟩ := box2 w (.slice ba n bcap) (.int .i64 vals) 26
    have HB0 : Hid (Below w.heap.size w (w.alloc (.cells #[.slice ba n bcap, .int .i64 vals] 26))) := Bel.alloc _ _
    have hB : w.heap.size < (w.alloc (.cells #[.slice ba n bcap, .int .i64 vals] 26)).heap.size := by simp
    have hws : w.heap.size < (w.alloc (.cells #[.slice ba n bcap, .int .i64 vals] 26)).heap.size := by simp
    generalize w.alloc (.cells #[.slice ba n bcap, .int .i64 vals] 26) = w0 at x0 x1 hB hws HB0 ⊢
    generalize hBw : w.heap.size = B at x0 x1 hB ⊢
    clear hBw
    go_region_held3 (fun w' => w'.cell? ⟨B, 0, none⟩ = some (.slice ba n bcap) ∧ w'.cell? ⟨B, 1, none⟩ = some (.int .i64 vals)) (first | exact ⟨z0, z1⟩ | go_keep) (first | (go_at_call 47; refine (newWorld_any ra rn rcap _ _).mono ?_; rintro e w1 ⟨g, rfl, hg, hx, hb⟩; have z0 : w1.cell? ⟨B, 0, none⟩ = some (.slice ba n bcap) := Bel.keeps hb (by go_keep); have z1 : w1.cell? ⟨B, 1, none⟩ = some (.int .i64 vals) := Bel.keeps hb (by go_keep); have hs1 := hb.size; have HX : Hid (w1.heap[g]? = some (.cells #[] 3 (0, 0))) := hx; have B1 : Hid (Below w.heap.size w w1) := (Below.trans (by repeat (first | exact HB0.out | apply Below.drew | refine Below.alloc ?_ (by first | omega | (simp; omega)) _)) (hb.mono (by first | omega | (simp [heap_drew]; omega)))); have HBK : Hid (Below _ _ w1) := hb; have hxl := (Array.getElem?_eq_some_iff.1 hx).1; clear hx hb; try simp [heap_drew] at hs1; try simp [heap_drew] at hg))
    all_goals
      rename_i hheld
      clear hheld
      simp only [Exit.then]
      refine hK9 _ _ (wp_ret ?_)
      show bodyPost _ _ _ _ _ _
      refine bodyPost_ret (results_tmp rfl _ _ _) rfl ?_
      exact givesRun (run_begins fq HFE.out (by repeat (first | exact heap_last (by simp) | exact HX.out | refine (Below.heap_alloc _ _ _ (by first | omega | (simp; done) | (simp; omega))).trans ?_ | rw [heap_drew] | refine (HBK.out.block _ (by first | omega | (simp [heap_drew]; omega) | simp [heap_drew])).trans ?_)) (by repeat (first | exact HX.out | refine (Below.heap_alloc _ _ _ (by first | omega | (simp; done) | (simp; omega))).trans ?_ | rw [heap_drew])) (by repeat (first | exact heap_last (by simp) | refine (Below.heap_alloc _ _ _ (by first | omega | (simp; done) | (simp; omega))).trans ?_ | rw [heap_drew] | refine (HBK.out.block _ (by first | omega | (simp [heap_drew]; omega) | simp [heap_drew])).trans ?_)) (by omega) (by omega) (by omega) (by omega) (by repeat (first | exact B1.out | exact HB0.out | apply Below.drew | refine Below.alloc ?_ (by first | omega | (simp; omega)) _)) HRD.out (by simp))
  · have HFE : Hid ((fq : Int) = 5000) := by have := HFQ.out; show (fq : Int) = 5000; omega
    go_enter Try.func31, Try.ntmps31
    go_wp2
    rename_i Q9 K9 hK9
    obtain ⟨x0, x1⟩ := box2 w (.slice ba n bcap) (.int .i64 vals) 26
    have HB0 : Hid (Below w.heap.size w (w.alloc (.cells #[.slice ba n bcap, .int .i64 vals] 26))) := Bel.alloc _ _
    have hB : w.heap.size < (w.alloc (.cells #[.slice ba n bcap, .int .i64 vals] 26)).heap.size := by simp
    have hws : w.heap.size < (w.alloc (.cells #[.slice ba n bcap, .int .i64 vals] 26)).heap.size := by simp
    generalize w.alloc (.cells #[.slice ba n bcap, .int .i64 vals] 26) = w0 at x0 x1 hB hws HB0 ⊢
    generalize hBw : w.heap.size = B at x0 x1 hB ⊢
    clear hBw
    go_region_held3 (fun w' => w'.cell? ⟨B, 0, none⟩ = some (.slice ba n bcap) ∧ w'.cell? ⟨B, 1, none⟩ = some (.int .i64 vals)) (first | exact ⟨z0, z1⟩ | go_keep) (first | (go_at_call 47; refine (newWorld_any ra rn rcap _ _).mono ?_; rintro e w1 ⟨g, rfl, hg, hx, hb⟩; have z0 : w1.cell? ⟨B, 0, none⟩ = some (.slice ba n bcap) := Bel.keeps hb (by go_keep); have z1 : w1.cell? ⟨B, 1, none⟩ = some (.int .i64 vals) := Bel.keeps hb (by go_keep); have hs1 := hb.size; have HX : Hid (w1.heap[g]? = some (.cells #[] 3 (0, 0))) := hx; have B1 : Hid (Below w.heap.size w w1) := (Below.trans (by repeat (first | exact HB0.out | apply Below.drew | refine Below.alloc ?_ (by first | omega | (simp; omega)) _)) (hb.mono (by first | omega | (simp [heap_drew]; omega)))); have HBK : Hid (Below _ _ w1) := hb; have hxl := (Array.getElem?_eq_some_iff.1 hx).1; clear hx hb; try simp [heap_drew] at hs1; try simp [heap_drew] at hg))
    all_goals
      rename_i hheld
      clear hheld
      simp only [Exit.then]
      refine hK9 _ _ (wp_ret ?_)
      show bodyPost _ _ _ _ _ _
      refine bodyPost_ret (results_tmp rfl _ _ _) rfl ?_
      exact givesRun (run_begins fq HFE.out (by repeat (first | exact heap_last (by simp) | exact HX.out | refine (Below.heap_alloc _ _ _ (by first | omega | (simp; done) | (simp; omega))).trans ?_ | rw [heap_drew] | refine (HBK.out.block _ (by first | omega | (simp [heap_drew]; omega) | simp [heap_drew])).trans ?_)) (by repeat (first | exact HX.out | refine (Below.heap_alloc _ _ _ (by first | omega | (simp; done) | (simp; omega))).trans ?_ | rw [heap_drew])) (by repeat (first | exact heap_last (by simp) | refine (Below.heap_alloc _ _ _ (by first | omega | (simp; done) | (simp; omega))).trans ?_ | rw [heap_drew] | refine (HBK.out.block _ (by first | omega | (simp [heap_drew]; omega) | simp [heap_drew])).trans ?_)) (by omega) (by omega) (by omega) (by omega) (by repeat (first | exact B1.out | exact HB0.out | apply Below.drew | refine Below.alloc ?_ (by first | omega | (simp; omega)) _)) HRD.out (by simp))
end Go.Proofs.Ytkpddakmcnknjaa

namespace Go.Proofs.Ytkpddakmcnknjaa
open Go.ChangeShapes Go.WideShapes Go.ChangeAt Go.RowKit Go.Shelf
set_option linter.unusedVariables false

open Classical in
/-- What Run answers. -/
noncomputable def runOf (F : FnD) (reads : List Int) (fuel : Int) : List Int × Int × Int := if FnShape F ∧ 0 ≤ fuel then ((runDo wordV F reads fuel).2.2.told, (runDo wordV F reads fuel).1, (runDo wordV F reads fuel).2.1) else ([], 3, 0)
open Classical in
/-- What Path answers. -/
noncomputable def pathOf (F : FnD) (reads : List Int) (fuel : Int) : List Int := if FnShape F ∧ 0 ≤ fuel then (runDo wordV F reads fuel).2.2.path else []
/-- A run is told, in new memory. -/
def GivesTold (w : World) (p : List Int × Int × Int) (e : Ending) (w' : World) : Prop := ∃ v, e = .returned (.tuple #[v, .int .i64 p.2.1, .int .i64 p.2.2]) ∧ OwnInts w' w.heap.size v p.1 ∧ Below w.heap.size w w'
theorem start_room (reads : List Int) {fuel : Int} (h : 0 ≤ fuel) : Room (startDo reads fuel) ∧ (startDo reads fuel).path.length + (startDo reads fuel).fuel ≤ 5000 ∧ (startDo reads fuel).fuel < 5001 := by
  have := startDo_fuel reads h
  unfold Room
  simp only [startDo] at *
  simp
  omega

set_option maxRecDepth 100000 in
set_option maxHeartbeats 2000000 in
theorem impl_run (v rv : Value) (F : FnD) (reads : List Int) (fuel : Int) (w : World) (hF : FnAt w v F) (hr : ReadsAt w rv reads) :
    Calls Try.prog 11 #[v, rv, .int .i64 fuel] w fun e w' => GivesTold w (runOf F reads fuel) e w' := by
  have HF : Hid (FnAt w v F) := hF
  obtain ⟨n, HN⟩ : ∃ n, Hid (F.blocks.length = n) := ⟨_, rfl⟩
  obtain ⟨vals, HV⟩ : ∃ x, Hid (F.values = x) := ⟨_, rfl⟩
  obtain ⟨ba, bcap, rfl⟩ := hF.out HN.out HV.out
  have HRD : Hid (ReadsAt w rv reads) := hr
  obtain ⟨ra, rcap, rfl, _, _, _⟩ := hr
  obtain ⟨rn, HRN⟩ : ∃ n, Hid (reads.length = n) := ⟨_, rfl⟩
  rw [HRN.out] at HRD ⊢
  clear hF
  go_enter Try.func11, Try.ntmps11
  go_wp2_with fail
  refine (impl_shapeOk _ F _ (HF.out.later (Bel.alloc _ _))).mono ?_
  rintro e w1 ⟨t, rfl, ht, b1⟩
  have c0 := box_cell b1 0
  have c1 := box_cell b1 1
  simp at c0 c1
  have B1 : Hid (Below w.heap.size w w1) := Bel.after (Bel.alloc _ _) b1
  have HT : Hid (t = true ↔ FnShape F) := ht
  clear b1 ht
  generalize w.heap.size = FB at c0 c1 ⊢
  cases t with
  | false =>
    have hno : ¬ FnShape F := fun h => by have := HT.out.2 h; cases this
    have HO : Hid (runOf F reads fuel = ([], 3, 0)) := if_neg (fun h => hno h.1)
    clear hno
    go_wp2_with fail
    refine bodyPost_ret (v := .tuple #[.slice (some ⟨w1.heap.size, 0, none⟩) 0 0, .int .i64 3, .int .i64 0]) (by simp [results, Try.results11, go_sem]) rfl ?_
    rw [HO.out]
    exact ⟨_, rfl, ownInts_nil rfl B1.out.size, Bel.after B1.out (Bel.alloc _ _)⟩
  | true =>
    have HS : Hid (FnShape F) := HT.out.1 rfl
    by_cases hf : 0 ≤ fuel
    · have hf2 : ¬ fuel < 0 := by omega
      have HO : Hid (runOf F reads fuel = ((runDo wordV F reads fuel).2.2.told, (runDo wordV F reads fuel).1, (runDo wordV F reads fuel).2.1)) := if_pos ⟨HS.out, hf⟩
      go_wp2_with fail
      refine (newRun_any ba n bcap vals _ reads fuel hf _ (HRD.out.keep B1.out)).mono ?_
      rintro e w2 ⟨R, S, rfl, h2⟩
      have HR2 : Hid (RunIs w1 w2 R S (.slice ba n bcap) vals (startDo reads fuel) (-1) 0) := h2
      clear h2
      go_wp2_with fail
      have hroom := start_room reads hf
      refine (all_any (W0 := w1) (R := R) (S := S) (bv := .slice ba n bcap) (vals := vals) F (HF.out.later B1.out) HS.out HV.out 5001 (startDo reads fuel) 0 _ HR2.out hroom.2.2 hroom.1 hroom.2.1).mono ?_
      rintro e w3 ⟨rfl, fr, pl, h3⟩
      have HO3 : Hid (RunIs w1 w3 R S (.slice ba n bcap) vals (runDo wordV F reads fuel).2.2 fr pl) := h3
      have HO4 : Hid (runOf F reads fuel = ((tellN wordV F 5001 0 (-1) (startDo reads fuel)).2.2.told, (tellN wordV F 5001 0 (-1) (startDo reads fuel)).1, (tellN wordV F 5001 0 (-1) (startDo reads fuel)).2.1)) := HO.out
      obtain ⟨r, HRR⟩ : ∃ r, Hid (tellN wordV F 5001 0 (-1) (startDo reads fuel) = r) := ⟨_, rfl⟩
      rw [HRR.out] at HO4 h3 ⊢
      obtain ⟨how, en, sE⟩ := r
      dsimp only at HO4 h3 ⊢
      obtain ⟨rv3, tv3, pv3, h4⟩ := h3
      have k10 := h4.cells.c10
      have HT3 : Hid (OwnInts w3 w1.heap.size tv3 sE.told) := h4.told
      have HB3 : Hid (Below w1.heap.size w1 w3) := h4.below
      clear h4 hroom HO HO3 HR2
      go_wp2_with fail
      refine bodyPost_ret (v := .tuple #[tv3, .int .i64 how, .int .i64 en]) (by simp [results, Try.results11, go_sem]) rfl ?_
      rw [HO4.out]
      exact ⟨tv3, rfl, HT3.out.low B1.out.size, Bel.after B1.out HB3.out⟩
    · have hf2 : fuel < 0 := by omega
      have HO : Hid (runOf F reads fuel = ([], 3, 0)) := if_neg (fun h => hf h.2)
      clear hf
      go_wp2_with fail
      refine bodyPost_ret (v := .tuple #[.slice (some ⟨w1.heap.size, 0, none⟩) 0 0, .int .i64 3, .int .i64 0]) (by simp [results, Try.results11, go_sem]) rfl ?_
      rw [HO.out]
      exact ⟨_, rfl, ownInts_nil rfl B1.out.size, Bel.after B1.out (Bel.alloc _ _)⟩

set_option maxRecDepth 100000 in
set_option maxHeartbeats 2000000 in
theorem impl_path (v rv : Value) (F : FnD) (reads : List Int) (fuel : Int) (w : World) (hF : FnAt w v F) (hr : ReadsAt w rv reads) :
    Calls Try.prog 16 #[v, rv, .int .i64 fuel] w fun e w' => GivesOwn w (pathOf F reads fuel) e w' := by
  have HF : Hid (FnAt w v F) := hF
  obtain ⟨n, HN⟩ : ∃ n, Hid (F.blocks.length = n) := ⟨_, rfl⟩
  obtain ⟨vals, HV⟩ : ∃ x, Hid (F.values = x) := ⟨_, rfl⟩
  obtain ⟨ba, bcap, rfl⟩ := hF.out HN.out HV.out
  have HRD : Hid (ReadsAt w rv reads) := hr
  obtain ⟨ra, rcap, rfl, _, _, _⟩ := hr
  obtain ⟨rn, HRN⟩ : ∃ n, Hid (reads.length = n) := ⟨_, rfl⟩
  rw [HRN.out] at HRD ⊢
  clear hF
  go_enter Try.func16, Try.ntmps16
  go_wp2_with fail
  refine (impl_shapeOk _ F _ (HF.out.later (Bel.alloc _ _))).mono ?_
  rintro e w1 ⟨t, rfl, ht, b1⟩
  have c0 := box_cell b1 0
  have c1 := box_cell b1 1
  simp at c0 c1
  have B1 : Hid (Below w.heap.size w w1) := Bel.after (Bel.alloc _ _) b1
  have HT : Hid (t = true ↔ FnShape F) := ht
  clear b1 ht
  generalize w.heap.size = FB at c0 c1 ⊢
  cases t with
  | false =>
    have hno : ¬ FnShape F := fun h => by have := HT.out.2 h; cases this
    have HO : Hid (pathOf F reads fuel = []) := if_neg (fun h => hno h.1)
    clear hno
    go_wp2_with fail
    go_ret
    rw [HO.out]
    exact ⟨_, rfl, ownInts_nil rfl B1.out.size, Bel.after B1.out (Bel.alloc _ _)⟩
  | true =>
    have HS : Hid (FnShape F) := HT.out.1 rfl
    by_cases hf : 0 ≤ fuel
    · have hf2 : ¬ fuel < 0 := by omega
      have HO : Hid (pathOf F reads fuel = (tellN wordV F 5001 0 (-1) (startDo reads fuel)).2.2.path) := if_pos ⟨HS.out, hf⟩
      go_wp2_with fail
      refine (newRun_any ba n bcap vals _ reads fuel hf _ (HRD.out.keep B1.out)).mono ?_
      rintro e w2 ⟨R, S, rfl, h2⟩
      have HR2 : Hid (RunIs w1 w2 R S (.slice ba n bcap) vals (startDo reads fuel) (-1) 0) := h2
      clear h2
      go_wp2_with fail
      have hroom := start_room reads hf
      refine (all_any (W0 := w1) (R := R) (S := S) (bv := .slice ba n bcap) (vals := vals) F (HF.out.later B1.out) HS.out HV.out 5001 (startDo reads fuel) 0 _ HR2.out hroom.2.2 hroom.1 hroom.2.1).mono ?_
      rintro e w3 ⟨rfl, fr, pl, h3⟩
      obtain ⟨r, HRR⟩ : ∃ r, Hid (tellN wordV F 5001 0 (-1) (startDo reads fuel) = r) := ⟨_, rfl⟩
      rw [HRR.out] at HO h3 ⊢
      obtain ⟨how, en, sE⟩ := r
      dsimp only at HO h3 ⊢
      obtain ⟨rv3, tv3, pv3, h4⟩ := h3
      have k94 := h4.cells.c94
      have HT3 : Hid (OwnInts w3 w1.heap.size pv3 sE.path) := h4.path
      have HB3 : Hid (Below w1.heap.size w1 w3) := h4.below
      clear h4 hroom HR2
      go_wp2_with fail
      go_ret
      rw [HO.out]
      exact ⟨pv3, rfl, HT3.out.low B1.out.size, Bel.after B1.out HB3.out⟩
    · have hf2 : fuel < 0 := by omega
      have HO : Hid (pathOf F reads fuel = []) := if_neg (fun h => hf h.2)
      clear hf
      go_wp2_with fail
      go_ret
      rw [HO.out]
      exact ⟨_, rfl, ownInts_nil rfl B1.out.size, Bel.after B1.out (Bel.alloc _ _)⟩
end Go.Proofs.Ytkpddakmcnknjaa

namespace Go.Proofs.Ytkpddakmcnknjaa
open Go.ChangeShapes Go.WideShapes Go.ChangeAt Go.RowKit Go.Shelf
set_option linter.unusedVariables false

def fuelS (P : Nat) (w : World) : Nat := match w.cell? ⟨P, 5, none⟩ with | some v => (intOf v).toNat | none => 0
theorem fuelS_run {W0 w : World} {P vn : Nat} {s : RunS} (h : SIs W0 w P vn s) : fuelS P w = s.fuel := by
  obtain ⟨_, _, _, _, _, _, _, _, _, _, h⟩ := h
  simp [fuelS, h.cell.2.2.2.2.2, intOf]
theorem SIs.below {W0 w : World} {P vn : Nat} {s : RunS} (h : SIs W0 w P vn s) : Below W0.heap.size W0 w := by
  obtain ⟨_, _, _, _, _, _, _, _, _, _, h⟩ := h
  exact h.below
theorem SIs.lt {W0 w : World} {P vn : Nat} {s : RunS} (h : SIs W0 w P vn s) : P < w.heap.size := by
  obtain ⟨_, _, _, _, _, _, _, _, _, _, h⟩ := h
  exact h.lt
theorem SIs.setFuel {W0 w : World} {P vn : Nat} {s : RunS} (h : SIs W0 w P vn s) (k : Nat) : SIs W0 (w.setCell ⟨P, 5, none⟩ (.int .i64 (k : Int))) P vn { s with fuel := k } := by
  obtain ⟨_, _, _, _, _, _, _, _, _, _, h⟩ := h
  exact ⟨_, _, _, _, _, _, _, _, _, _, h.setFuel k⟩

section
variable {W0 : World} {P vn : Nat}

set_option maxRecDepth 100000 in
set_option maxHeartbeats 8000000 in
theorem sall_any (F : FnD) (ba : Option Addr) (n bcap : Nat) (vals : Int) (hF : FnAt W0 (.agg #[.slice ba n bcap, .int .i64 vals]) F) (hS : FnShape F) (hvs : F.values = vals) (hvn : (vn : Int) = vals) (K : Nat) (st : RunS) (w : World) (h : SIs W0 w P vn st) (hk : st.fuel < K) (hroom : Room st) (hp0 : st.path.length + st.fuel ≤ 5000) :
    Calls Try.prog 35 #[.pointer (some ⟨P, 0, none⟩), .agg #[.slice ba n bcap, .int .i64 vals]] w fun e w' => e = .returned (.tuple #[.int .i64 (tellN wordV F K 0 (-1) st).1, .int .i64 (tellN wordV F K 0 (-1) st).2.1]) ∧ SIs W0 w' P vn (tellN wordV F K 0 (-1) st).2.2 := by
  obtain ⟨⟨how, en, sE⟩, HRES⟩ : ∃ r, Hid (tellN wordV F K 0 (-1) st = r) := ⟨_, rfl⟩
  rw [HRES.out]
  dsimp only
  have HVN : Hid ((vn : Int) = vals) := hvn
  have hv80 : vn ≤ 80 := by have := hS.2.2.2.1; omega
  have HBO : Hid (∀ (j : Nat) b, F.blocks[j]? = some b → BlockOk (F.blocks.length : Int) vals b) := by
    show ∀ (j : Nat) b, F.blocks[j]? = some b → BlockOk (F.blocks.length : Int) vals b
    rw [← hvs]; exact hS.2.2.2.2
  have HN1 : Hid (1 ≤ F.blocks.length) := hS.1
  have HH0 : Hid (SIs W0 w P vn st) := h
  have HROOM : Hid (Room st) := hroom
  obtain ⟨bv', he, a0, cap0, hbv, hm, hc⟩ := hF
  have hn : n = F.blocks.length := by
    have e1 : (.slice ba n bcap : Value) = bv' := by simp at he; exact he.1
    rw [hbv] at e1
    simp at e1
    exact e1.2.1
  have ea : ba = a0 := by
    have e1 : (.slice ba n bcap : Value) = bv' := by simp at he; exact he.1
    rw [hbv] at e1
    simp at e1
    exact e1.1
  have HC : Hid (0 < n → ∃ b off, ba = some ⟨b, off, none⟩ ∧ 0 ≤ b ∧ ∀ i x, F.blocks[i]? = some x → BlockAt 0 W0 b (off + i * 6) x) := by
    show 0 < n → _
    rw [hn, ea]
    exact hc
  have HNN : Hid (F.blocks.length = n) := hn.symm
  obtain ⟨b, off, rfl, _, hel⟩ := HC.out (by have := HN1.out; omega)
  have HEL : Hid (∀ i x, F.blocks[i]? = some x → BlockAt 0 W0 b (off + i * 6) x) := hel
  obtain ⟨i0, hi, hz0, hz1, hz2⟩ := info_parts info_int
  have hmx : 100000 ≤ maxLen := by decide
  clear hS h hroom he hbv hc hn ea hvn HC hel hm
  have fb := World.alloc_heap_new w (.cells #[.slice (some ⟨b, off, none⟩) n bcap, .int .i64 vals] 26)
  have HR0 : Hid (SIs W0 (w.alloc (.cells #[.slice (some ⟨b, off, none⟩) n bcap, .int .i64 vals] 26)) P vn st) := HH0.out.later (Bel.alloc w _)
  have hPF : w.heap.size ≠ P := by have := HH0.out.lt; omega
  go_enter Try.func35, Try.ntmps35
  go_wp2_with fail
  generalize w.alloc (.cells #[.slice (some ⟨b, off, none⟩) n bcap, .int .i64 vals] 26) = w0 at fb HR0 ⊢
  generalize w.heap.size = FB at fb hPF ⊢
  have HFB : Hid (w0.heap[FB]? = some (.cells #[.slice (some ⟨b, off, none⟩) n bcap, .int .i64 vals] 26 (0, 0))) := fb
  clear fb
  go_loopw [6, 7] (fun nx frv wr => ∃ (a : Nat) (fr : Int) (s : RunS) (k : Nat), nx = .int .i64 (a : Int) ∧ frv = .int .i64 fr ∧ a < n ∧ s.fuel < k ∧ Room s ∧ s.path.length + s.fuel ≤ 5000 ∧ SIs W0 wr P vn s ∧ FrR P P w0 wr ∧ tellN wordV F k a fr s = (how, en, sE)) (fun _ _ wr => fuelS P wr)
  case atStart => exact ⟨0, -1, st, K, rfl, rfl, by have := HN1.out; have := HNN.out; omega, hk, HROOM.out, hp0, HR0.out, FrR.refl _ _ _, HRES.out⟩
  case round =>
    obtain ⟨a, fr, s, k, rfl, rfl, ha, hsk, hro, hpa, hr, hfr, hte⟩ := hrel
    obtain ⟨x, hx⟩ : ∃ x, F.blocks[a]? = some x := ⟨_, List.getElem?_eq_getElem (by have := HNN.out; omega)⟩
    have HX : Hid (F.blocks[a]? = some x) := hx
    have HRO : Hid (Room s) := hro
    have HPA : Hid (s.path.length + s.fuel ≤ 5000) := hpa
    have HBO2 : Hid (BlockOk (F.blocks.length : Int) vals x) := HBO.out a x hx
    obtain ⟨k', rfl⟩ : ∃ k', k = k' + 1 := ⟨k - 1, by omega⟩
    have HTE : Hid (tellN wordV F (k' + 1) a fr s = (how, en, sE)) := hte
    have HSK : Hid (s.fuel < k' + 1) := hsk
    have HFR : Hid (FrR P P w0 wr) := hfr
    have HFU0 : Hid (fuelS P wr = s.fuel) := fuelS_run hr
    have hfb := hfr.box HFB.out hPF hPF (by decide)
    have f0 : wr.cell? ⟨FB, 0, none⟩ = some (.slice (some ⟨b, off, none⟩) n bcap) := by simp [World.cell?, hfb]
    obtain ⟨pv, lv, b0, b1, b2, b3, b4, b5, hps, hls⟩ := HEL.out a x hx
    obtain ⟨pa, pcap, rfl, hpm, hpc⟩ := id hps
    obtain ⟨la, lcap, rfl, hlm, hlc⟩ := id hls
    have hbel := hr.below
    have d0 := Bel.keeps hbel b0
    have d1 := Bel.keeps hbel b1
    have d2 := Bel.keeps hbel b2
    have d3 := Bel.keeps hbel b3
    have d4 := Bel.keeps hbel b4
    have d5 := Bel.keeps hbel b5
    have hb2 : b < wr.heap.size := World.block_lt_of_cell? wr _ d0
    obtain ⟨np, HNP⟩ : ∃ n, Hid (x.phis.length = n) := ⟨_, rfl⟩
    obtain ⟨nl, HNL⟩ : ∃ n, Hid (x.list.length = n) := ⟨_, rfl⟩
    have HPS : Hid (ListAt 0 2 (PhiAt 0) W0 (.slice pa np pcap) x.phis) := by rw [← HNP.out]; exact hps
    have HLC : Hid (0 < nl → ∃ b off, la = some ⟨b, off, none⟩ ∧ 0 ≤ b ∧ ∀ i y, x.list[i]? = some y → InsAt W0 b (off + i * 5) y) := by rw [← HNL.out]; exact hlc
    rw [HNP.out] at d0
    rw [HNL.out] at d1 hlm
    have ha2 : (a : Int) < (n : Int) := by omega
    obtain ⟨vb, vc, cb, cc, rv, rb, tb, tc, pb, pc, h1⟩ := hr
    have HS1 : Hid (SAt W0 wr P vn s vb vc cb cc rv rb tb tc pb pc) := h1
    have p4 := h1.cell.2.2.2.2.1
    have hPl := h1.lt
    clear hx hro hpa hsk hte hfr hfb b0 b1 b2 b3 b4 b5 hps hls hpc hlc hbel h1
    have H1 : Hid (SAt W0 (wr.alloc (.cells #[.slice pa np pcap, .slice la nl lcap, .int .i64 x.term.k, .int .i64 x.term.a, .int .i64 x.term.t, .int .i64 x.term.e] 42)) P vn s vb vc cb cc rv rb tb tc pb pc) := HS1.out.later (Bel.alloc wr _)
    have HB1 : Hid ((wr.alloc (.cells #[.slice pa np pcap, .slice la nl lcap, .int .i64 x.term.k, .int .i64 x.term.a, .int .i64 x.term.t, .int .i64 x.term.e] 42)).heap[wr.heap.size]? = some (.cells #[.slice pa np pcap, .slice la nl lcap, .int .i64 x.term.k, .int .i64 x.term.a, .int .i64 x.term.t, .int .i64 x.term.e] 42 (0, 0))) := World.alloc_heap_new wr _
    have HF1 : Hid (FrR P P w0 (wr.alloc (.cells #[.slice pa np pcap, .slice la nl lcap, .int .i64 x.term.k, .int .i64 x.term.a, .int .i64 x.term.t, .int .i64 x.term.e] 42))) := HFR.out.trans (FrR.ofBelow (Bel.alloc wr _))
    have hPB : wr.heap.size ≠ P := by omega
    have hpl5 : s.path.length ≤ 5000 := by have := HPA.out; omega
    go_wp2_with (at_builtin; refine wpList_append_own_at _ rfl _ _ 27 rfl W0.heap.size 3 i0 (.int .i64 0) 1 8 Try.underlying27 hi hz0 hz1 hz2 rfl (by decide) _ _ _ rfl (World.ownsRow.alloc H1.out.path _) ⟨wr.heap.size + 1, 0, none⟩ 1 1 [.int .i64 (a : Int)] (by simp [Act.eval]) rfl (by have := cell_one_new (wr.alloc (.cells #[.slice pa np pcap, .slice la nl lcap, .int .i64 x.term.k, .int .i64 x.term.a, .int .i64 x.term.t, .int .i64 x.term.e] 42)) (.int .i64 (a : Int)) 3; simpa using this) (by simp [Value.oneCell']) (by omega) (by omega) (by have := H1.out.below.size; simp at this ⊢; omega) ?_; intro v' wa hown' hgrow _ hat; obtain ⟨g', cap', rfl⟩ := ownsRow_succ hown'; have hat2 : g' = pb ∨ g' = (wr.alloc (.cells #[.slice pa np pcap, .slice la nl lcap, .int .i64 x.term.k, .int .i64 x.term.a, .int .i64 x.term.t, .int .i64 x.term.e] 42)).heap.size + 1 := (by have hat1 : (some g' : Option Nat) = some pb ∨ (some g' : Option Nat) = some ((wr.alloc (.cells #[.slice pa np pcap, .slice la nl lcap, .int .i64 x.term.k, .int .i64 x.term.a, .int .i64 x.term.t, .int .i64 x.term.e] 42)).alloc (.cells #[.int .i64 (a : Int)] 3)).heap.size := hat; rcases hat1 with e | e; exact .inl (by simpa using e); exact .inr (by simpa using e)); obtain ⟨ea, va, fa, sa⟩ := H1.out.path_grown (OwnInts.next hown') hgrow hat2; have SA : Hid (SAt W0 (wa.setCell ⟨P, 4, none⟩ (.slice (some ⟨g', 0, none⟩) (s.path.length + 1) cap')) P vn { s with path := s.path ++ [(a : Int)] } vb vc cb cc rv rb tb tc g' cap') := sa; have FA : Hid (FrR P P w0 wa) := HF1.out.trans fa; have xb := fa.box HB1.out hPB hPB (by decide); have XB : Hid (wa.heap[wr.heap.size]? = some (.cells #[.slice pa np pcap, .slice la nl lcap, .int .i64 x.term.k, .int .i64 x.term.a, .int .i64 x.term.t, .int .i64 x.term.e] 42 (0, 0))) := xb; have k0 : wa.cell? ⟨wr.heap.size, 0, none⟩ = some (.slice pa np pcap) := (by simp [World.cell?, xb]); have k1 : wa.cell? ⟨wr.heap.size, 1, none⟩ = some (.slice la nl lcap) := (by simp [World.cell?, xb]); have k2 : wa.cell? ⟨wr.heap.size, 2, none⟩ = some (.int .i64 x.term.k) := (by simp [World.cell?, xb]); have k3 : wa.cell? ⟨wr.heap.size, 3, none⟩ = some (.int .i64 x.term.a) := (by simp [World.cell?, xb]); have k4 : wa.cell? ⟨wr.heap.size, 4, none⟩ = some (.int .i64 x.term.t) := (by simp [World.cell?, xb]); have k5 : wa.cell? ⟨wr.heap.size, 5, none⟩ = some (.int .i64 x.term.e) := (by simp [World.cell?, xb]); have q4 : wa.cell? ⟨P, 4, none⟩ = some (.slice (some ⟨pb, 0, none⟩) s.path.length pc) := (cell_of_heap ea 4).trans (H1.out.cell.2.2.2.2.1); have qf : wa.frozen? ⟨P, 4, none⟩ = false := frozen_of_cells ⟨_, ea.trans H1.out.box⟩ 4; clear hown' hgrow hat hat2 va fa sa xb ea p4)
    refine (sphis_any (W0 := W0) (s := { s with path := s.path ++ [(a : Int)] }) (F.blocks.length : Int) vals HVN.out hv80 pa np pcap (.slice la nl lcap) x.term.k x.term.a x.term.t x.term.e fr la nl lcap rfl x.phis HPS.out HBO2.out.2.2.1 _ ⟨_, _, _, _, _, _, _, _, _, _, SA.out⟩).mono ?_
    rintro e w2 ⟨⟨v2, rfl⟩, h2, f2⟩
    have HR2 : Hid (SIs W0 w2 P vn (enterDo x a fr s)) := h2
    have HF2 : Hid (FrR P P w0 w2) := FA.out.trans ((FrR.setR P P 4 _ wa).trans f2)
    have hbx2 := f2.box (B := wr.heap.size) ((heap_setCell_other _ _ _ _ hPB).trans XB.out) hPB hPB (by decide)
    have HBX : Hid (w2.heap[wr.heap.size]? = some (.cells #[.slice pa np pcap, .slice la nl lcap, .int .i64 x.term.k, .int .i64 x.term.a, .int .i64 x.term.t, .int .i64 x.term.e] 42 (0, 0))) := hbx2
    have HRO1 : Hid (Room (enterDo x a fr s)) := by
      have h1 := HRO.out
      have h2 := HPA.out
      show Room (enterDo x a fr s)
      refine ⟨h1.1, ?_⟩
      show (s.path ++ [(a : Int)]).length + s.fuel ≤ 5001
      rw [List.length_append, List.length_singleton]
      omega
    clear h2 f2 hbx2 SA FA XB k0 k1 k2 k3 k4 k5 q4 qf H1 HB1 HF1 HS1 d0 d1 d2 d3 d4 d5 f0 hb2 hPl
    generalize wr.heap.size = B at *
    go_wp2_with fail
    go_loopw [9] (fun i wr => ∃ (j : Nat) (s2 : RunS), i = .int .i64 (j : Int) ∧ j ≤ nl ∧ SIs W0 wr P vn s2 ∧ FrR P P w2 wr ∧ Room s2 ∧ s2.fuel ≤ s.fuel ∧ placesDo wordV (x.list.drop j) s2 = blockDo wordV x a fr s) (fun i _ => nl - (intOf i).toNat)
    case atStart => exact ⟨0, _, rfl, Nat.zero_le _, HR2.out, FrR.refl _ _ _, HRO1.out, Nat.le_refl _, rfl⟩
    case round =>
      obtain ⟨j, s2, rfl, hj, hr, hf, hro, hfu, hpd⟩ := hrel
      have HR3 : Hid (SIs W0 wr P vn s2) := hr
      have HF3 : Hid (FrR P P w2 wr) := hf
      have HRO3 : Hid (Room s2) := hro
      have HFU : Hid (s2.fuel ≤ s.fuel) := hfu
      have HPD : Hid (placesDo wordV (x.list.drop j) s2 = blockDo wordV x a fr s) := hpd
      have hbx := hf.box HBX.out hPB hPB (by decide)
      have HBX3 : Hid (wr.heap[B]? = some (.cells #[.slice pa np pcap, .slice la nl lcap, .int .i64 x.term.k, .int .i64 x.term.a, .int .i64 x.term.t, .int .i64 x.term.e] 42 (0, 0))) := hbx
      have k1 : wr.cell? ⟨B, 1, none⟩ = some (.slice la nl lcap) := by simp [World.cell?, hbx]
      have hbel : Hid (Below W0.heap.size W0 wr) := hr.below
      obtain ⟨vb3, vc3, cb3, cc3, rv3, rb3, tb3, tc3, pb3, pc3, h3⟩ := hr
      have p5 := h3.cell.2.2.2.2.2
      have g5 := h3.frozen 5
      obtain ⟨fl, HFL⟩ : ∃ q : Int, Hid (q = (s2.fuel : Int)) := ⟨_, rfl⟩
      rw [← HFL.out] at p5
      clear hf hro hfu hpd hbx h3
      by_cases hlt : (j : Int) < (nl : Int)
      · have HLT : Hid (j < nl) := by show j < nl; omega
        obtain ⟨lb, loff, rfl, _, hcc⟩ := HLC.out (by omega)
        obtain ⟨y, hy⟩ : ∃ y, x.list[j]? = some y := ⟨_, List.getElem?_eq_getElem (by have := HNL.out; omega)⟩
        obtain ⟨q0, q1, q2, q3, q4⟩ := hcc j y hy
        have r0 := Bel.keeps hbel.out q0
        have r1 := Bel.keeps hbel.out q1
        have r2 := Bel.keeps hbel.out q2
        have r3 := Bel.keeps hbel.out q3
        have r4 := Bel.keeps hbel.out q4
        have hlP : P ≠ lb := by have := World.block_lt_of_cell? W0 _ q0; have := HR3.out.lt; obtain ⟨_, _, _, _, _, _, _, _, _, _, h9⟩ := HR3.out; have := h9.hP; simp at *; omega
        have HY : Hid (x.list[j]? = some y) := hy
        have HYO : Hid (placeOkV vals y = true) := HBO2.out.2.2.2.1 j y hy
        have hpy : placesDo wordV (x.list.drop j) s2 = if (stepDo y s2).1 = 0 then placesDo wordV (x.list.drop (j + 1)) (stepDo y s2).2 else stepDo y s2 := by rw [drop_at HY.out]; exact placesDo_step
        have HPY : Hid (blockDo wordV x a fr s = if (stepDo y s2).1 = 0 then placesDo wordV (x.list.drop (j + 1)) (stepDo y s2).2 else stepDo y s2) := HPD.out.symm.trans hpy
        clear hpy q0 q1 q2 q3 q4 hy hcc
        by_cases hf0 : fl = 0
        · subst hf0
          go_wp2_with fail
          refine bodyPost_ret (v := .tuple #[.int .i64 1, .int .i64 0]) (by simp [results, Try.results35, go_sem]) rfl ?_
          have hz : s2.fuel = 0 := by have := HFL.out; omega
          have hst : stepDo y s2 = (1, s2) := if_pos hz
          have hb : blockDo wordV x a fr s = (1, s2) := by rw [HPY.out, hst]; rfl
          have ht := HTE.out
          rw [tellN_succ _ _ _ _ _ _ HX.out, hb] at ht
          simp at ht
          obtain ⟨t1, t2, t3⟩ := ht
          rw [← t1, ← t2, ← t3]
          exact ⟨rfl, HR3.out⟩
        · obtain ⟨kf, hkf⟩ : ∃ kf : Nat, s2.fuel = kf + 1 := ⟨s2.fuel - 1, by have := HFL.out; omega⟩
          have hfe : fl - 1 = (kf : Int) := by have := HFL.out; omega
          have HFE : Hid (fl - 1 = (kf : Int)) := hfe
          have HKF : Hid (s2.fuel = kf + 1) := hkf
          have hm0 : (fl == 0) = false := by simp [hf0]
          have hm1 : 1 ≤ fl := by have := HFL.out; omega
          have hm2 : fl ≤ 5001 := by have := HFL.out; have := HRO3.out.1; omega
          have HSE : Hid (stepDo y s2 = insDo wordV y { s2 with fuel := kf }) := by
            show stepDo y s2 = _
            unfold stepDo
            rw [if_neg (by omega)]
            have : s2.fuel - 1 = kf := by omega
            rw [this]
          have htl : s2.told.length ≤ 5000 := by have := HRO3.out.1; omega
          have hBP : P ≠ B := fun e => hPB e.symm
          have k1' := far_block (o := 5) (v := .int .i64 (fl - 1)) k1 hBP
          have r0' := far_block (o := 5) (v := .int .i64 (fl - 1)) r0 hlP
          have r1' := far_block (o := 5) (v := .int .i64 (fl - 1)) r1 hlP
          have r2' := far_block (o := 5) (v := .int .i64 (fl - 1)) r2 hlP
          have r3' := far_block (o := 5) (v := .int .i64 (fl - 1)) r3 hlP
          have r4' := far_block (o := 5) (v := .int .i64 (fl - 1)) r4 hlP
          clear hfe hkf hf0
          go_wp2_with fail
          have hs4 : SIs W0 (wr.setCell ⟨P, 5, none⟩ (.int .i64 (fl - 1))) P vn { s2 with fuel := kf } := by
            rw [HFE.out]
            exact HR3.out.setFuel kf
          refine (sIns_any (W0 := W0) (s := { s2 with fuel := kf }) vals y HVN.out HYO.out _ hs4 htl).mono ?_
          rintro e w4 ⟨rfl, h4, f4⟩
          rw [← HSE.out] at h4 ⊢
          have HR4 : Hid (SIs W0 w4 P vn (stepDo y s2).2) := h4
          have HF4 : Hid (FrR P P w2 w4) := HF3.out.trans ((FrR.setR P P 5 _ wr).trans f4)
          obtain ⟨hq, HHQ⟩ : ∃ q, Hid ((stepDo y s2).1 = q) := ⟨_, rfl⟩
          rw [HHQ.out]
          clear h4 f4 hs4 k1' r0' r1' r2' r3' r4' r0 r1 r2 r3 r4 k1 p5 g5
          by_cases hq0 : hq = 0
          · subst hq0
            obtain ⟨hro4, hfu4⟩ := stepDo_room HRO3.out HHQ.out
            have HRO4 : Hid (Room (stepDo y s2).2) := hro4
            have HFU4 : Hid ((stepDo y s2).2.fuel + 1 = s2.fuel) := hfu4
            clear hro4 hfu4
            go_wp2_with fail
            go_roundw
            case rel =>
              refine ⟨j + 1, (stepDo y s2).2, by go_num, by have := HLT.out; omega, HR4.out, HF4.out, HRO4.out, by have := HFU.out; have := HFU4.out; omega, ?_⟩
              rw [HPY.out, if_pos HHQ.out]
            case measure =>
              have := HLT.out
              simp [intOf]
              omega
          · have hq1 : (hq == 0) = false := by simp [hq0]
            go_wp2_with fail
            refine bodyPost_ret (v := .tuple #[.int .i64 hq, .int .i64 0]) (by simp [results, Try.results35, go_sem]) rfl ?_
            have hb : blockDo wordV x a fr s = stepDo y s2 := by rw [HPY.out, if_neg (by rw [HHQ.out]; exact hq0)]
            have ht := HTE.out
            rw [tellN_succ _ _ _ _ _ _ HX.out, hb, if_pos (by rw [HHQ.out]; exact hq0)] at ht
            simp only [Prod.mk.injEq] at ht
            obtain ⟨t1, t2, t3⟩ := ht
            rw [← t1, ← t2, ← t3, HHQ.out]
            exact ⟨rfl, HR4.out⟩
      · have HBD : Hid (blockDo wordV x a fr s = (0, s2)) := by
          have h9 := HPD.out
          rw [List.drop_eq_nil_of_le (by have := HNL.out; omega)] at h9
          exact h9.symm
        by_cases hf0 : fl = 0
        · subst hf0
          go_wp2_with fail
          refine bodyPost_ret (v := .tuple #[.int .i64 1, .int .i64 0]) (by simp [results, Try.results35, go_sem]) rfl ?_
          have hz : s2.fuel = 0 := by have := HFL.out; omega
          have ht := HTE.out
          rw [tellN_succ _ _ _ _ _ _ HX.out, HBD.out] at ht
          simp [hz] at ht
          obtain ⟨t1, t2, t3⟩ := ht
          rw [← t1, ← t2, ← t3]
          exact ⟨rfl, HR3.out⟩
        · obtain ⟨kf, hkf⟩ : ∃ kf : Nat, s2.fuel = kf + 1 := ⟨s2.fuel - 1, by have := HFL.out; omega⟩
          have hfe : fl - 1 = (kf : Int) := by have := HFL.out; omega
          have HFE : Hid (fl - 1 = (kf : Int)) := hfe
          have HKF : Hid (s2.fuel = kf + 1) := hkf
          have hs0 : ¬ s2.fuel = 0 := by omega
          have HTT : Hid (x.term.k ≠ 3 → tellN wordV F k' (nextDo x.term s2).toNat (a : Int) { s2 with fuel := kf } = (how, en, sE)) := fun h3 => by
            have ht := HTE.out
            rw [tellN_succ _ _ _ _ _ _ HX.out, HBD.out] at ht
            have e9 : s2.fuel - 1 = kf := by have := HKF.out; omega
            simp only [ne_eq, not_true, if_false, h3, if_neg hs0, e9] at ht
            exact ht
          have HT3 : Hid (x.term.k = 3 → (0, s2.val x.term.a, ({ s2 with fuel := kf } : RunS)) = (how, en, sE)) := fun h3 => by
            have ht := HTE.out
            rw [tellN_succ _ _ _ _ _ _ HX.out, HBD.out] at ht
            have e9 : s2.fuel - 1 = kf := by have := HKF.out; omega
            simp only [ne_eq, not_true, if_false, h3, if_true, if_neg hs0, e9] at ht
            exact ht
          have HNEW : Hid (Room { s2 with fuel := kf } ∧ s2.path.length + kf ≤ 5000 ∧ kf < k' ∧ kf < s.fuel) := by
            have h1 := HRO3.out
            have h2 := HKF.out
            have h3 := HFU.out
            have h4 := HSK.out
            unfold Room at h1
            refine ⟨⟨?_, ?_⟩, ?_, ?_, ?_⟩
            · show s2.told.length + kf ≤ 5000; omega
            · show s2.path.length + kf ≤ 5001; omega
            · omega
            · omega
            · omega
          have hm0 : (fl == 0) = false := by simp [hf0]
          have hm1 : 1 ≤ fl := by have := HFL.out; omega
          have hm2 : fl ≤ 5001 := by have := HFL.out; have := HRO3.out.1; omega
          have hbx := HBX3.out
          have k2 : wr.cell? ⟨B, 2, none⟩ = some (.int .i64 x.term.k) := by simp [World.cell?, hbx]
          have k3 : wr.cell? ⟨B, 3, none⟩ = some (.int .i64 x.term.a) := by simp [World.cell?, hbx]
          have k4 : wr.cell? ⟨B, 4, none⟩ = some (.int .i64 x.term.t) := by simp [World.cell?, hbx]
          have k5 : wr.cell? ⟨B, 5, none⟩ = some (.int .i64 x.term.e) := by simp [World.cell?, hbx]
          have hs5 : SIs W0 (wr.setCell ⟨P, 5, none⟩ (.int .i64 (fl - 1))) P vn { s2 with fuel := kf } := by
            rw [HFE.out]
            exact HR3.out.setFuel kf
          have HR5 : Hid (SIs W0 (wr.setCell ⟨P, 5, none⟩ (.int .i64 (fl - 1))) P vn { s2 with fuel := kf }) := hs5
          have HF5 : Hid (FrR P P w0 (wr.setCell ⟨P, 5, none⟩ (.int .i64 (fl - 1)))) := HF2.out.trans (HF3.out.trans (FrR.setR P P 5 _ wr))
          have hBP : P ≠ B := fun e => hPB e.symm
          clear hkf hf0 hs5 hbx hfe hs0
          rcases term_cases HBO2.out.2.2.2.2 with ⟨e1, e2, e3⟩ | ⟨e1, e2, e3, e4, e5, e6⟩ | ⟨e1, e2⟩
          · have HTJ := HTT.out (by rw [e1]; decide)
            have HTJ2 : Hid (tellN wordV F k' x.term.t.toNat (a : Int) { s2 with fuel := kf } = (how, en, sE)) := by
              have e9 : nextDo x.term s2 = x.term.t := by simp [nextDo, e1]
              rw [e9] at HTJ
              exact HTJ
            rw [e1] at k2
            have HE : Hid (0 ≤ x.term.t ∧ x.term.t < (F.blocks.length : Int)) := ⟨e2, e3⟩
            clear HTJ e1 e2 e3
            have k2' := far_block (o := 5) (v := .int .i64 (fl - 1)) k2 hBP
            have k3' := far_block (o := 5) (v := .int .i64 (fl - 1)) k3 hBP
            have k4' := far_block (o := 5) (v := .int .i64 (fl - 1)) k4 hBP
            have k5' := far_block (o := 5) (v := .int .i64 (fl - 1)) k5 hBP
            go_wp2_with fail
            have tx := World.alloc_heap_new (wr.setCell ⟨P, 5, none⟩ (.int .i64 (fl - 1))) (.cells #[.int .i64 1, .int .i64 x.term.a, .int .i64 x.term.t, .int .i64 x.term.e] 38)
            have HR6 : Hid (SIs W0 ((wr.setCell ⟨P, 5, none⟩ (.int .i64 (fl - 1))).alloc (.cells #[.int .i64 1, .int .i64 x.term.a, .int .i64 x.term.t, .int .i64 x.term.e] 38)) P vn { s2 with fuel := kf }) := HR5.out.later (Bel.alloc _ _)
            have HF6 : Hid (FrR P P w0 ((wr.setCell ⟨P, 5, none⟩ (.int .i64 (fl - 1))).alloc (.cells #[.int .i64 1, .int .i64 x.term.a, .int .i64 x.term.t, .int .i64 x.term.e] 38))) := HF5.out.trans (FrR.ofBelow (Bel.alloc _ _))
            have hsz : (wr.setCell ⟨P, 5, none⟩ (.int .i64 (fl - 1))).heap.size = wr.heap.size := by simp
            rw [hsz] at tx
            generalize (wr.setCell ⟨P, 5, none⟩ (.int .i64 (fl - 1))).alloc (.cells #[.int .i64 1, .int .i64 x.term.a, .int .i64 x.term.t, .int .i64 x.term.e] 38) = w6 at tx HR6 HF6 ⊢
            clear hsz
            generalize wr.heap.size = C at tx ⊢
            have y0 : w6.cell? ⟨C, 0, none⟩ = some (.int .i64 1) := by simp [World.cell?, tx]
            have y1 : w6.cell? ⟨C, 1, none⟩ = some (.int .i64 x.term.a) := by simp [World.cell?, tx]
            have y2 : w6.cell? ⟨C, 2, none⟩ = some (.int .i64 x.term.t) := by simp [World.cell?, tx]
            have y3 : w6.cell? ⟨C, 3, none⟩ = some (.int .i64 x.term.e) := by simp [World.cell?, tx]
            clear tx HR5 HF5 k2 k3 k4 k5 k2' k3' k4' k5' k1 p5 g5
            go_wp2_with fail
            refine wp_region_held_drew (S := (fun w' => w'.cell? ⟨C, 0, none⟩ = some (.int .i64 1))) (by kernel_rfl) y0 (fun hS => ?_)
            refine wpAnyH_take (i := 0) (oi := { dst := some 90, op := Op.fieldAddr 38 (Operand.tmp 11) 0, type := 0, pos := "l06_run.go:86", after := #[], guard := none }) (v := .pointer (some ⟨C, 0, none⟩)) rfl (by kernel_rfl) (by kernel_rfl) (by kernel_rfl) (fun _ _ _ h => h) (Or.inl ⟨by rfl, fun W hW => by go_simp⟩) hS ?_
            simp only [Act.put, List.setIfInBounds_toArray, List.set_cons_zero, List.set_cons_succ]
            refine wpAnyH_take (i := 1) (oi := { dst := some 91, op := Op.load 3 (Operand.tmp 90), type := 3, pos := "l06_run.go:86", after := #[{ on := 0, ground := Ground.data }], guard := none }) (v := .int .i64 1) rfl (by kernel_rfl) (by kernel_rfl) (by kernel_rfl) (fun _ _ _ h => h) (Or.inl ⟨by rfl, fun W hW => by go_simp⟩) hS ?_
            simp only [Act.put, List.setIfInBounds_toArray, List.set_cons_zero, List.set_cons_succ]
            refine wpAnyH_take (i := 2) (oi := { dst := some 92, op := Op.binOp BinOp.eql 3 (Operand.tmp 91) (Operand.const (Value.int IntKind.i64 2)) 3, type := 4, pos := "l06_run.go:86", after := #[{ on := 1, ground := Ground.data }], guard := none }) (v := .bool false) rfl (by kernel_rfl) (by kernel_rfl) (by kernel_rfl) (fun _ _ _ h => h) (Or.inl ⟨by rfl, fun W hW => by go_simp⟩) hS ?_
            simp only [Act.put, List.setIfInBounds_toArray, List.set_cons_zero, List.set_cons_succ]
            refine wpAnyH_take (i := 3) (oi := { dst := some 93, op := Op.move (Operand.tmp 92), type := 4, pos := "l06_run.go:86", after := #[{ on := 2, ground := Ground.data }], guard := none }) (v := .bool false) rfl (by kernel_rfl) (by kernel_rfl) (by kernel_rfl) (fun _ _ _ h => h) (Or.inl ⟨by rfl, fun W hW => by go_simp⟩) hS ?_
            simp only [Act.put, List.setIfInBounds_toArray, List.set_cons_zero, List.set_cons_succ]
            refine wpAnyH_take (i := 4) (oi := { dst := some 94, op := Op.move (Operand.tmp 0), type := 66, pos := "l06_run.go:86", after := #[{ on := 3, ground := Ground.guard }], guard := some (3, true) }) (v := undef) rfl (by kernel_rfl) (by kernel_rfl) (by kernel_rfl) (fun _ _ _ h => h) (Or.inr ⟨by rfl, rfl⟩) hS ?_
            simp only [Act.put, List.setIfInBounds_toArray, List.set_cons_zero, List.set_cons_succ]
            refine wpAnyH_take (i := 5) (oi := { dst := some 95, op := Op.nilCheck (Operand.tmp 94), type := 0, pos := "l06_run.go:86", after := #[{ on := 4, ground := Ground.data }, { on := 3, ground := Ground.guard }], guard := some (3, true) }) (v := undef) rfl (by kernel_rfl) (by kernel_rfl) (by kernel_rfl) (fun _ _ _ h => h) (Or.inr ⟨by rfl, rfl⟩) hS ?_
            simp only [Act.put, List.setIfInBounds_toArray, List.set_cons_zero, List.set_cons_succ]
            refine wpAnyH_take (i := 6) (oi := { dst := some 96, op := Op.fieldAddr 70 (Operand.tmp 95) 0, type := 0, pos := "l06_run.go:86", after := #[{ on := 5, ground := Ground.data }, { on := 3, ground := Ground.guard }], guard := some (3, true) }) (v := undef) rfl (by kernel_rfl) (by kernel_rfl) (by kernel_rfl) (fun _ _ _ h => h) (Or.inr ⟨by rfl, rfl⟩) hS ?_
            simp only [Act.put, List.setIfInBounds_toArray, List.set_cons_zero, List.set_cons_succ]
            refine wpAnyH_take (i := 7) (oi := { dst := some 97, op := Op.load 27 (Operand.tmp 96), type := 27, pos := "l06_run.go:86", after := #[{ on := 6, ground := Ground.data }, { on := 3, ground := Ground.guard }], guard := some (3, true) }) (v := undef) rfl (by kernel_rfl) (by kernel_rfl) (by kernel_rfl) (fun _ _ _ h => h) (Or.inr ⟨by rfl, rfl⟩) hS ?_
            simp only [Act.put, List.setIfInBounds_toArray, List.set_cons_zero, List.set_cons_succ]
            refine wpAnyH_take (i := 8) (oi := { dst := some 98, op := Op.fieldAddr 38 (Operand.tmp 11) 1, type := 0, pos := "l06_run.go:86", after := #[{ on := 3, ground := Ground.guard }], guard := some (3, true) }) (v := undef) rfl (by kernel_rfl) (by kernel_rfl) (by kernel_rfl) (fun _ _ _ h => h) (Or.inr ⟨by rfl, rfl⟩) hS ?_
            simp only [Act.put, List.setIfInBounds_toArray, List.set_cons_zero, List.set_cons_succ]
            refine wpAnyH_take (i := 9) (oi := { dst := some 99, op := Op.load 3 (Operand.tmp 98), type := 3, pos := "l06_run.go:86", after := #[{ on := 8, ground := Ground.data }, { on := 3, ground := Ground.guard }], guard := some (3, true) }) (v := undef) rfl (by kernel_rfl) (by kernel_rfl) (by kernel_rfl) (fun _ _ _ h => h) (Or.inr ⟨by rfl, rfl⟩) hS ?_
            simp only [Act.put, List.setIfInBounds_toArray, List.set_cons_zero, List.set_cons_succ]
            refine wpAnyH_take (i := 10) (oi := { dst := some 100, op := Op.indexAddr 27 (Operand.tmp 97) (Operand.tmp 99), type := 0, pos := "l06_run.go:86", after := #[{ on := 7, ground := Ground.data }, { on := 9, ground := Ground.data }, { on := 3, ground := Ground.guard }], guard := some (3, true) }) (v := undef) rfl (by kernel_rfl) (by kernel_rfl) (by kernel_rfl) (fun _ _ _ h => h) (Or.inr ⟨by rfl, rfl⟩) hS ?_
            simp only [Act.put, List.setIfInBounds_toArray, List.set_cons_zero, List.set_cons_succ]
            refine wpAnyH_take (i := 11) (oi := { dst := some 101, op := Op.load 3 (Operand.tmp 100), type := 3, pos := "l06_run.go:86", after := #[{ on := 10, ground := Ground.data }, { on := 3, ground := Ground.guard }], guard := some (3, true) }) (v := undef) rfl (by kernel_rfl) (by kernel_rfl) (by kernel_rfl) (fun _ _ _ h => h) (Or.inr ⟨by rfl, rfl⟩) hS ?_
            simp only [Act.put, List.setIfInBounds_toArray, List.set_cons_zero, List.set_cons_succ]
            refine wpAnyH_take (i := 12) (oi := { dst := some 102, op := Op.binOp BinOp.eql 3 (Operand.tmp 101) (Operand.const (Value.int IntKind.i64 0)) 3, type := 4, pos := "l06_run.go:86", after := #[{ on := 11, ground := Ground.data }, { on := 3, ground := Ground.guard }], guard := some (3, true) }) (v := undef) rfl (by kernel_rfl) (by kernel_rfl) (by kernel_rfl) (fun _ _ _ h => h) (Or.inr ⟨by rfl, rfl⟩) hS ?_
            simp only [Act.put, List.setIfInBounds_toArray, List.set_cons_zero, List.set_cons_succ]
            refine wpAnyH_take (i := 13) (oi := { dst := some 103, op := Op.pick (Operand.tmp 93) (Operand.tmp 102) (Operand.const (Value.bool false)), type := 4, pos := "l06_run.go:86", after := #[{ on := 3, ground := Ground.data }, { on := 12, ground := Ground.data }], guard := none }) (v := .bool false) rfl (by kernel_rfl) (by kernel_rfl) (by kernel_rfl) (fun _ _ _ h => h) (Or.inl ⟨by rfl, fun W hW => by go_simp⟩) hS ?_
            simp only [Act.put, List.setIfInBounds_toArray, List.set_cons_zero, List.set_cons_succ]
            refine wpAnyH_done (by kernel_rfl) ?_ _
            simp only [Exit.then]
            go_at_K
            go_wp2_with fail
            go_roundw
            case rel =>
              refine ⟨x.term.t.toNat, (a : Int), { s2 with fuel := kf }, k', ?_, rfl, by have := HE.out; have := HNN.out; omega, HNEW.out.2.2.1, HNEW.out.1, HNEW.out.2.1, HR6.out.later (Below.refl _ _).drew, HF6.out.trans (FrR.drew P P _), HTJ2.out⟩
              rw [Int.toNat_of_nonneg HE.out.1]
            case measure =>
              rw [fuelS_run (HR6.out.later (Below.refl _ _).drew), HFU0.out]
              exact HNEW.out.2.2.2
          · obtain ⟨an, han, han8⟩ := val_natV e6 HVN.out
            have HTJ := HTT.out (by rw [e1]; decide)
            have HTJ2 : Hid (tellN wordV F k' (if s2.vals an = 0 then x.term.e else x.term.t).toNat (a : Int) { s2 with fuel := kf } = (how, en, sE)) := by
              have e9 : nextDo x.term s2 = if s2.vals an = 0 then x.term.e else x.term.t := by
                simp only [nextDo, e1, RunS.val, han, Int.toNat_natCast, true_and]
              rw [e9] at HTJ
              exact HTJ
            rw [e1] at k2
            rw [han] at k3
            clear han
            have HET : Hid (0 ≤ x.term.t ∧ x.term.t < (F.blocks.length : Int)) := ⟨e2, e3⟩
            have HEE : Hid (0 ≤ x.term.e ∧ x.term.e < (F.blocks.length : Int)) := ⟨e4, e5⟩
            clear HTJ e1 e2 e3 e4 e5 e6
            have k2' := far_block (o := 5) (v := .int .i64 (fl - 1)) k2 hBP
            have k3' := far_block (o := 5) (v := .int .i64 (fl - 1)) k3 hBP
            have k4' := far_block (o := 5) (v := .int .i64 (fl - 1)) k4 hBP
            have k5' := far_block (o := 5) (v := .int .i64 (fl - 1)) k5 hBP
            go_wp2_with fail
            have tx := World.alloc_heap_new (wr.setCell ⟨P, 5, none⟩ (.int .i64 (fl - 1))) (.cells #[.int .i64 2, .int .i64 (an : Int), .int .i64 x.term.t, .int .i64 x.term.e] 38)
            have HR6 : Hid (SIs W0 ((wr.setCell ⟨P, 5, none⟩ (.int .i64 (fl - 1))).alloc (.cells #[.int .i64 2, .int .i64 (an : Int), .int .i64 x.term.t, .int .i64 x.term.e] 38)) P vn { s2 with fuel := kf }) := HR5.out.later (Bel.alloc _ _)
            have HF6 : Hid (FrR P P w0 ((wr.setCell ⟨P, 5, none⟩ (.int .i64 (fl - 1))).alloc (.cells #[.int .i64 2, .int .i64 (an : Int), .int .i64 x.term.t, .int .i64 x.term.e] 38))) := HF5.out.trans (FrR.ofBelow (Bel.alloc _ _))
            have hsz : (wr.setCell ⟨P, 5, none⟩ (.int .i64 (fl - 1))).heap.size = wr.heap.size := by simp
            rw [hsz] at tx
            generalize (wr.setCell ⟨P, 5, none⟩ (.int .i64 (fl - 1))).alloc (.cells #[.int .i64 2, .int .i64 (an : Int), .int .i64 x.term.t, .int .i64 x.term.e] 38) = w6 at tx HR6 HF6 ⊢
            clear hsz
            generalize wr.heap.size = C at tx ⊢
            have y0 : w6.cell? ⟨C, 0, none⟩ = some (.int .i64 2) := by simp [World.cell?, tx]
            have y1 : w6.cell? ⟨C, 1, none⟩ = some (.int .i64 (an : Int)) := by simp [World.cell?, tx]
            have y2 : w6.cell? ⟨C, 2, none⟩ = some (.int .i64 x.term.t) := by simp [World.cell?, tx]
            have y3 : w6.cell? ⟨C, 3, none⟩ = some (.int .i64 x.term.e) := by simp [World.cell?, tx]
            clear tx HR5 HF5 k2 k3 k4 k5 k2' k3' k4' k5' k1 p5 g5
            go_wp2_with fail
            obtain ⟨vb6, vc6, cb6, cc6, rv6, rb6, tb6, tc6, pb6, pc6, h6⟩ := HR6.out
            have c6 := h6.cell.1
            have cv := h6.valAt han8
            obtain ⟨yv, HYV⟩ : ∃ q, Hid (s2.vals an = q) := ⟨_, rfl⟩
            simp only [HYV.out] at cv
            rw [HYV.out] at HTJ2
            have han2 : (an : Int) < (vn : Int) := by omega
            clear h6
            by_cases hyv : yv = 0
            · subst hyv
              go_region_held3 (fun w' => w'.cell? ⟨C, 0, none⟩ = some (.int .i64 2) ∧ w'.cell? ⟨C, 1, none⟩ = some (.int .i64 (an : Int)) ∧ w'.cell? ⟨P, 0, none⟩ = some (.slice (some ⟨vb6, 0, none⟩) vn vc6) ∧ w'.cell? ⟨vb6, an, none⟩ = some (.int .i64 0)) (go_keep) (fail)
              simp only [Exit.then]
              go_at_K
              go_wp2_with fail
              go_roundw
              case rel =>
                have h9 := HTJ2.out
                rw [if_pos rfl] at h9
                refine ⟨x.term.e.toNat, (a : Int), { s2 with fuel := kf }, k', ?_, rfl, by have := HEE.out; have := HNN.out; omega, HNEW.out.2.2.1, HNEW.out.1, HNEW.out.2.1, HR6.out.later (Below.refl _ _).drew, HF6.out.trans (FrR.drew P P _), h9⟩
                rw [Int.toNat_of_nonneg HEE.out.1]
              case measure =>
                rw [fuelS_run (HR6.out.later (Below.refl _ _).drew), HFU0.out]
                exact HNEW.out.2.2.2
            · have hy1 : (yv == 0) = false := by simp [hyv]
              go_region_held3 (fun w' => w'.cell? ⟨C, 0, none⟩ = some (.int .i64 2) ∧ w'.cell? ⟨C, 1, none⟩ = some (.int .i64 (an : Int)) ∧ w'.cell? ⟨P, 0, none⟩ = some (.slice (some ⟨vb6, 0, none⟩) vn vc6) ∧ w'.cell? ⟨vb6, an, none⟩ = some (.int .i64 yv)) (go_keep) (fail)
              simp only [Exit.then]
              go_at_K
              go_wp2_with fail
              go_roundw
              case rel =>
                have h9 := HTJ2.out
                rw [if_neg hyv] at h9
                refine ⟨x.term.t.toNat, (a : Int), { s2 with fuel := kf }, k', ?_, rfl, by have := HET.out; have := HNN.out; omega, HNEW.out.2.2.1, HNEW.out.1, HNEW.out.2.1, HR6.out.later (Below.refl _ _).drew, HF6.out.trans (FrR.drew P P _), h9⟩
                rw [Int.toNat_of_nonneg HET.out.1]
              case measure =>
                rw [fuelS_run (HR6.out.later (Below.refl _ _).drew), HFU0.out]
                exact HNEW.out.2.2.2
          · obtain ⟨an, han, han8⟩ := val_natV e2 HVN.out
            have HTB : Hid ((0, s2.vals an, ({ s2 with fuel := kf } : RunS)) = (how, en, sE)) := by
              have h9 := HT3.out e1
              have e9 : s2.val x.term.a = s2.vals an := by simp [RunS.val, han]
              rw [e9] at h9
              exact h9
            rw [e1] at k2
            rw [han] at k3
            clear han e1 e2
            have k2' := far_block (o := 5) (v := .int .i64 (fl - 1)) k2 hBP
            have k3' := far_block (o := 5) (v := .int .i64 (fl - 1)) k3 hBP
            have k4' := far_block (o := 5) (v := .int .i64 (fl - 1)) k4 hBP
            have k5' := far_block (o := 5) (v := .int .i64 (fl - 1)) k5 hBP
            go_wp2_with fail
            have tx := World.alloc_heap_new (wr.setCell ⟨P, 5, none⟩ (.int .i64 (fl - 1))) (.cells #[.int .i64 3, .int .i64 (an : Int), .int .i64 x.term.t, .int .i64 x.term.e] 38)
            have HR6 : Hid (SIs W0 ((wr.setCell ⟨P, 5, none⟩ (.int .i64 (fl - 1))).alloc (.cells #[.int .i64 3, .int .i64 (an : Int), .int .i64 x.term.t, .int .i64 x.term.e] 38)) P vn { s2 with fuel := kf }) := HR5.out.later (Bel.alloc _ _)
            have HF6 : Hid (FrR P P w0 ((wr.setCell ⟨P, 5, none⟩ (.int .i64 (fl - 1))).alloc (.cells #[.int .i64 3, .int .i64 (an : Int), .int .i64 x.term.t, .int .i64 x.term.e] 38))) := HF5.out.trans (FrR.ofBelow (Bel.alloc _ _))
            have hsz : (wr.setCell ⟨P, 5, none⟩ (.int .i64 (fl - 1))).heap.size = wr.heap.size := by simp
            rw [hsz] at tx
            generalize (wr.setCell ⟨P, 5, none⟩ (.int .i64 (fl - 1))).alloc (.cells #[.int .i64 3, .int .i64 (an : Int), .int .i64 x.term.t, .int .i64 x.term.e] 38) = w6 at tx HR6 HF6 ⊢
            clear hsz
            generalize wr.heap.size = C at tx ⊢
            have y0 : w6.cell? ⟨C, 0, none⟩ = some (.int .i64 3) := by simp [World.cell?, tx]
            have y1 : w6.cell? ⟨C, 1, none⟩ = some (.int .i64 (an : Int)) := by simp [World.cell?, tx]
            have y2 : w6.cell? ⟨C, 2, none⟩ = some (.int .i64 x.term.t) := by simp [World.cell?, tx]
            have y3 : w6.cell? ⟨C, 3, none⟩ = some (.int .i64 x.term.e) := by simp [World.cell?, tx]
            clear tx HR5 HF5 k2 k3 k4 k5 k2' k3' k4' k5' k1 p5 g5
            go_wp2_with fail
            obtain ⟨vb6, vc6, cb6, cc6, rv6, rb6, tb6, tc6, pb6, pc6, h6⟩ := HR6.out
            have c6 := h6.cell.1
            have cv := h6.valAt han8
            obtain ⟨yv, HYV⟩ : ∃ q, Hid (s2.vals an = q) := ⟨_, rfl⟩
            simp only [HYV.out] at cv
            have han2 : (an : Int) < (vn : Int) := by omega
            clear h6
            go_region_held3 (fun w' => w'.cell? ⟨C, 1, none⟩ = some (.int .i64 (an : Int)) ∧ w'.cell? ⟨P, 0, none⟩ = some (.slice (some ⟨vb6, 0, none⟩) vn vc6) ∧ w'.cell? ⟨vb6, an, none⟩ = some (.int .i64 yv)) (go_keep) (fail)
            simp only [Exit.then]
            go_at_K
            go_wp2_with fail
            refine bodyPost_ret (v := .tuple #[.int .i64 0, .int .i64 yv]) (by simp [results, Try.results35, go_sem]) rfl ?_
            have ht := HTB.out
            rw [HYV.out] at ht
            simp only [Prod.mk.injEq] at ht
            obtain ⟨t1, t2, t3⟩ := ht
            rw [← t1, ← t2, ← t3]
            exact ⟨rfl, HR6.out.later (Below.refl _ _).drew⟩
end
end Go.Proofs.Ytkpddakmcnknjaa

namespace Go.Proofs.Ytkpddakmcnknjaa
open Go.ChangeShapes Go.WideShapes Go.ChangeAt Go.RowKit Go.Shelf
set_option linter.unusedVariables false

section
variable {P : Program} {Q : Exit → Act → World → Prop} {o : Oper} {a : Act} {K : Act → World → Prop} {w : World}
theorem wp_moveN {x : Operand} {v : Value} (ho : o.op = .move x) (hx : a.eval x = v) (h : K (a.put o.dst v) w) : o.wp P a w K Q := wp_value_of (by simp [execOp, ho, hx]) h
theorem run_makeOp {x y : Operand} {t : TypeId} {p q v : Value} {w' : World} (ho : o.op = .makeSlice t x y) (hx : a.eval x = p) (hy : a.eval y = q) (h : (Instr.makeSlice t p q).run P w = .ok v w') : (execOp a.eval o).run P w = .ok (.value v) w' := by
  simp [execOp, ho, hx, hy, h]
theorem run_boxOp {x : Operand} {t : TypeId} {p v : Value} {w' : World} (ho : o.op = .box t x) (hx : a.eval x = p) (h : (Instr.box t p).run P w = .ok v w') : (execOp a.eval o).run P w = .ok (.value v) w' := by
  simp [execOp, ho, hx, h]
theorem run_appendOp {x y : Operand} {t : TypeId} {p q v : Value} {w' : World} (ho : o.op = Op.call { callee := Callee.builtin Builtin.append, args := #[x, y], argTypes := #[t, t] }) (hx : a.eval x = p) (hy : a.eval y = q) (h : (Builtin.append_ #[t, t] o.type #[p, q]).run P w = .ok v w') : (execOp a.eval o).run P w = .ok (.value v) w' := by
  simp [execOp, ho, resolve, invoke, builtin, hx, hy, h]
theorem run_build6 {x0 x1 x2 x3 x4 x5 : Operand} {t : TypeId} {v0 v1 v2 v3 v4 v5 v : Value} {w' : World} (ho : o.op = .build t #[(0, x0), (1, x1), (2, x2), (3, x3), (4, x4), (5, x5)]) (h0 : a.eval x0 = v0) (h1 : a.eval x1 = v1) (h2 : a.eval x2 = v2) (h3 : a.eval x3 = v3) (h4 : a.eval x4 = v4) (h5 : a.eval x5 = v5) (h : (Instr.build t #[(0, v0), (1, v1), (2, v2), (3, v3), (4, v4), (5, v5)]).run P w = .ok v w') : (execOp a.eval o).run P w = .ok (.value v) w' := by
  simp [execOp, ho, h0, h1, h2, h3, h4, h5, h]
theorem run_assignOp {x : Operand} {v : Value} (ho : o.op = .assign x) (hx : a.eval x = v) : (execOp a.eval o).run P w = .ok (.value v) w := by
  simp [execOp, ho, hx]
theorem wp_call_of2 {f : FuncId} {args : Array Value} {post : Ending → World → Prop} (he : (execOp a.eval o).run P w = .ok (.enter f args) w) (hc : Calls P f args w post) (h : ∀ e w', post e w' → ∃ v, e = .returned v ∧ K (a.put o.dst v) w') : o.wp P a w K Q := wp_call_of he hc h
end
theorem run_empty {o : Oper} {a : Act} (ho : o.op = .buildSlice 27 0 #[]) (w : World) : (execOp a.eval o).run Try.prog w = .ok (.value (.slice (some ⟨w.heap.size, 0, none⟩) 0 0)) (w.alloc (.cells #[] 3)) := by
  simp [execOp, ho, Instr.buildSlice, go_sem]
theorem make_ints (n : Nat) (hn : n ≤ 1048576) (w : World) : (Instr.makeSlice 27 (.int .i64 (n : Int)) (.int .i64 (n : Int))).run Try.prog w = .ok (.slice (some ⟨w.heap.size, 0, none⟩) n n) (w.alloc (.cells (madeCells #[.int .i64 0] n) 3)) :=
  run_make_row' 27 3 (.int .i64 0) 8 Try.underlying27 (by kernel_rfl) rfl .i64 .i64 n (by omega) (by omega) w
theorem own_made {w : World} {lo : Nat} (n : Nat) (hn : n ≤ 1048576) (hlo : lo ≤ w.heap.size) : OwnInts (w.alloc (.cells (madeCells #[.int .i64 0] n) 3)) lo (.slice (some ⟨w.heap.size, 0, none⟩) n n) (listN n (fun _ => 0)) := by
  have hm : n ≤ maxLen := by have : 1048576 ≤ maxLen := by decide
                             omega
  refine ⟨by simp [listN_len], .inr ⟨w.heap.size, n, madeCells #[.int .i64 0] n, by rw [listN_len], hlo, World.alloc_heap_new w _, by rw [listN_len]; exact Nat.le_refl _, hm, by simp [size_madeCells], ?_⟩⟩
  rw [toList_madeCells_one, listN_len]
  simp [listN]
  exact (List.eq_replicate_iff.2 ⟨by simp, by simp⟩).symm
theorem build_state (vb vn vc cb cc rb rn rc tb pb : Nat) (z : Nat) (fq : Int) (w : World) : (Instr.build 70 #[(0, .slice (some ⟨vb, 0, none⟩) vn vc), (1, .slice (some ⟨cb, 0, none⟩) 8 cc), (2, .slice (some ⟨rb, 0, none⟩) rn rc), (3, .slice (some ⟨tb, 0, none⟩) z z), (4, .slice (some ⟨pb, 0, none⟩) z z), (5, .int .i64 fq)]).run Try.prog w = .ok (.agg #[.slice (some ⟨vb, 0, none⟩) vn vc, .slice (some ⟨cb, 0, none⟩) 8 cc, .slice (some ⟨rb, 0, none⟩) rn rc, .slice (some ⟨tb, 0, none⟩) z z, .slice (some ⟨pb, 0, none⟩) z z, .int .i64 fq]) w := by kernel_rfl
theorem box_state (vb vn vc cb cc rb rn rc tb pb : Nat) (z : Nat) (fq : Int) (w : World) : (Instr.box 70 (.agg #[.slice (some ⟨vb, 0, none⟩) vn vc, .slice (some ⟨cb, 0, none⟩) 8 cc, .slice (some ⟨rb, 0, none⟩) rn rc, .slice (some ⟨tb, 0, none⟩) z z, .slice (some ⟨pb, 0, none⟩) z z, .int .i64 fq])).run Try.prog w = .ok (.pointer (some ⟨w.heap.size, 0, none⟩)) (w.alloc (.cells #[.slice (some ⟨vb, 0, none⟩) vn vc, .slice (some ⟨cb, 0, none⟩) 8 cc, .slice (some ⟨rb, 0, none⟩) rn rc, .slice (some ⟨tb, 0, none⟩) z z, .slice (some ⟨pb, 0, none⟩) z z, .int .i64 fq] 70)) := by
  simp [Instr.box, go_sem]
theorem min_5000 (fuel : Int) (w : World) : Calls Try.prog 56 #[.int .i64 fuel, .int .i64 5000] w fun e w' => e = .returned (.int .i64 (min fuel 5000)) ∧ w' = w := by
  by_cases h : fuel < 5000
  · have e : min fuel 5000 = fuel := by omega
    rw [e]
    go_enter Try.func56, Try.ntmps56
    go_wp2
    go_ret
    exact ⟨rfl, rfl⟩
  · have e : min fuel 5000 = 5000 := by omega
    rw [e]
    go_enter Try.func56, Try.ntmps56
    go_wp2
    go_ret
    exact ⟨rfl, rfl⟩
theorem ReadsIn.later {w w' : World} {lo rb : Nat} {rv : Value} {l : List Int} (h : ReadsIn w lo rv rb l) (hb : Below w.heap.size w w') : ReadsIn w' lo rv rb l := by
  have h2 := h
  obtain ⟨_, _, _, _, _, _, ⟨c, hc⟩, _⟩ := h2
  exact h.moved (hb.block _ (Array.getElem?_eq_some_iff.1 hc).1)
theorem ReadsAt.keep2 {W0 w : World} {v : Value} {l : List Int} (h : ReadsAt W0 v l) (hb : Below W0.heap.size W0 w) : ReadsAt w v l := h.keep hb
/-- The parts of a run that begins. -/
structure NewParts (W0 w : World) (vn rn : Nat) (reads : List Int) (vb cb rb rc tb pb : Nat) : Prop where
  vals : OwnInts w W0.heap.size (.slice (some ⟨vb, 0, none⟩) vn vn) (listN vn (fun _ => 0))
  cells : OwnInts w W0.heap.size (.slice (some ⟨cb, 0, none⟩) 8 8) (listN 8 (fun _ => 0))
  reads : ReadsIn w W0.heap.size (.slice (some ⟨rb, 0, none⟩) rn rc) rb reads
  told : OwnInts w W0.heap.size (.slice (some ⟨tb, 0, none⟩) 0 0) []
  path : OwnInts w W0.heap.size (.slice (some ⟨pb, 0, none⟩) 0 0) []
  d1 : vb ≠ cb
  d2 : vb ≠ rb
  d3 : vb ≠ tb
  d4 : vb ≠ pb
  d5 : cb ≠ rb
  d6 : cb ≠ tb
  d7 : cb ≠ pb
  d8 : rb ≠ tb
  d9 : rb ≠ pb
  d10 : tb ≠ pb
theorem NewParts.later {W0 w w' : World} {vn rn : Nat} {reads : List Int} {vb cb rb rc tb pb : Nat} (h : NewParts W0 w vn rn reads vb cb rb rc tb pb) (hb : Below w.heap.size w w') : NewParts W0 w' vn rn reads vb cb rb rc tb pb :=
  ⟨h.vals.keep hb, h.cells.keep hb, h.reads.later hb, h.told.keep hb, h.path.keep hb, h.d1, h.d2, h.d3, h.d4, h.d5, h.d6, h.d7, h.d8, h.d9, h.d10⟩
theorem NewParts.begins {W0 w : World} {vn rn fq : Nat} {reads : List Int} {vb cb rb rc tb pb : Nat} (h : NewParts W0 w vn rn reads vb cb rb rc tb pb) (hS : Below W0.heap.size W0 w) (hrn : reads.length = rn) :
    SIs W0 (w.alloc (.cells #[.slice (some ⟨vb, 0, none⟩) vn vn, .slice (some ⟨cb, 0, none⟩) 8 8, .slice (some ⟨rb, 0, none⟩) rn rc, .slice (some ⟨tb, 0, none⟩) 0 0, .slice (some ⟨pb, 0, none⟩) 0 0, .int .i64 (fq : Int)] 70)) w.heap.size vn ⟨fun _ => 0, fun _ => 0, reads, [], [], fq⟩ := by
  have hb := Bel.alloc w (.cells #[.slice (some ⟨vb, 0, none⟩) vn vn, .slice (some ⟨cb, 0, none⟩) 8 8, .slice (some ⟨rb, 0, none⟩) rn rc, .slice (some ⟨tb, 0, none⟩) 0 0, .slice (some ⟨pb, 0, none⟩) 0 0, .int .i64 (fq : Int)] 70)
  have h2 := h.later hb
  exact ⟨vb, vn, cb, 8, .slice (some ⟨rb, 0, none⟩) rn rc, rb, tb, 0, pb, 0, World.alloc_heap_new w _, h2.vals, h2.cells, h2.reads, h2.told, h2.path, h.d1, h.d2, h.d3, h.d4, h.d5, h.d6, h.d7, h.d8, h.d9, h.d10, Bel.after hS hb, hS.size⟩
/-- What is left to read is copied. -/
theorem append_reads {W0 w : World} {g rn rcap : Nat} {ra : Option Addr} {reads : List Int} (hg : OwnInts w W0.heap.size (.slice (some ⟨g, 0, none⟩) 0 0) []) (hr : ReadsAt w (.slice ra rn rcap) reads) (hlo : W0.heap.size ≤ w.heap.size) (hrn : reads.length = rn) (hrl : rn ≤ 2000000) (wq : World) (hwq : wq = w) {ty : TypeId} :
    ∃ v w2, (Builtin.append_ #[27, 27] ty #[.slice (some ⟨g, 0, none⟩) 0 0, .slice ra rn rcap]).run Try.prog wq = .ok v w2 ∧ Below w.heap.size w w2 ∧ ∃ g2 cap2, v = .slice (some ⟨g2, 0, none⟩) rn cap2 ∧ ReadsIn w2 W0.heap.size (.slice (some ⟨g2, 0, none⟩) rn cap2) g2 reads ∧ (g2 = g ∨ w.heap.size ≤ g2) := by
  subst hwq
  obtain ⟨i0, hi, hz0, hz1, hz2⟩ := info_parts info_int
  by_cases h0 : rn = 0
  · subst h0
    have hnil : reads = [] := List.eq_nil_of_length_eq_zero hrn
    subst hnil
    refine ⟨_, wq, ?_, Below.refl _ _, g, 0, rfl, ⟨0, 0, rfl, by simp, by omega, own_lo hg, hg.heapOf, fun i hi => by simp at hi⟩, .inl rfl⟩
    cases ra with
    | none => simp [Builtin.append_, run_underlying Try.underlying27, sizeOf, typeInfo, hi, Builtin.lenOf, Builtin.firstCells, go_sem]
    | some ad => simp [Builtin.append_, run_underlying Try.underlying27, sizeOf, typeInfo, hi, Builtin.lenOf, Builtin.firstCells, go_sem]
  · obtain ⟨a, cap, e, h1, h2, h3⟩ := hr
    rw [hrn] at e h3
    obtain ⟨b, off, rfl, hc⟩ := h3 (by omega)
    simp at e
    obtain ⟨rfl, rfl⟩ := e
    have hmx : 100000000 ≤ maxLen := by decide
    have hmm : maxLen ≤ 9223372036854775807 := by decide
    obtain ⟨v', w', hrun, hown, hgr⟩ := run_append_arg_grows (P := Try.prog) wq 27 ty 3 i0 (.int .i64 0) 1 8 Try.underlying27 hi hz0 hz1 hz2 rfl (by decide) ⟨g, 0, none⟩ 0 0 [] rfl (fun j u h => by simp at h) ⟨b, off, none⟩ rn rcap (reads.map (fun x => Value.int .i64 x)) (by simp [hrn]) (fun j u hj => by
      have hjl : j < rn := by
        have := (List.getElem?_eq_some_iff.1 hj).1
        simpa [hrn] using this
      have e : (⟨b, off, none⟩ : Addr).add j = ⟨b, off + j, none⟩ := by unfold Addr.add; split <;> simp_all
      rw [e, hc j hjl]
      have hjr : j < reads.length := by omega
      rw [List.getElem?_map] at hj
      simp [List.getD, hjr] at hj ⊢
      exact hj) (by omega) (by omega) (by omega)
    rcases hown.2 with ⟨hv, hz⟩ | ⟨g2, cap2, cur, hv, hl2, hh, hc1, hc2, hc3, hc4⟩
    · simp at hz
      omega
    · have hb : Below wq.heap.size wq w' := (Below.refl wq.heap.size wq).grown hgr (Nat.le_refl _) (fun j ej => by cases ej)
      subst hv
      refine ⟨_, w', hrun, hb, g2, cap2, by rw [Nat.zero_add], ⟨0, cap2, by rw [hrn], by omega, by omega, by omega, ⟨_, hh⟩, fun i hi => ?_⟩, .inr hl2⟩
      have hown2 : OwnInts w' wq.heap.size (.slice (some ⟨g2, 0, none⟩) rn cap2) reads := by
        unfold OwnInts
        rw [hrn]
        rw [Nat.zero_add, List.nil_append] at hown
        exact hown
      rw [Nat.zero_add]
      exact hown2.cellAt (by omega)

def pairOk (i k : Nat) : Bool := (i == 1 || i == 2 || i == 3 || i == 5 || i == 6 || i == 7) && (k == 1 || k == 2 || k == 3 || k == 5 || k == 6 || k == 7) && !((i == 3 && k == 5) || (i == 5 && k == 3))
def DN (i : Nat) (v : Value) (k : Nat) (u : Value) : Prop := pairOk i k = true → v.ownBlock ≠ u.ownBlock
def ops_l6New : Array Oper := #[{ dst := some 7, op := Op.move (Operand.tmp 0), type := 3, pos := "l06_run.go:93", after := #[], guard := none }, { dst := some 8, op := Op.makeSlice 27 (Operand.tmp 7) (Operand.tmp 7), type := 27, pos := "l06_run.go:93", after := #[{ on := 0, ground := Ground.data }, { on := 0, ground := Ground.data }], guard := none }, { dst := some 9, op := Op.makeSlice 27 (Operand.const (Value.int IntKind.i64 8)) (Operand.const (Value.int IntKind.i64 8)), type := 27, pos := "l06_run.go:93", after := #[], guard := none }, { dst := some 10, op := Op.buildSlice 27 0 #[], type := 27, pos := "l06_run.go:93", after := #[], guard := none }, { dst := some 11, op := Op.move (Operand.tmp 1), type := 27, pos := "l06_run.go:93", after := #[], guard := none }, { dst := some 12, op := Op.call { callee := Callee.builtin Builtin.append, args := #[Operand.tmp 10, Operand.tmp 11], argTypes := #[27, 27] }, type := 27, pos := "l06_run.go:93", after := #[{ on := 3, ground := Ground.data }, { on := 4, ground := Ground.data }], guard := none }, { dst := some 13, op := Op.buildSlice 27 0 #[], type := 27, pos := "l06_run.go:93", after := #[], guard := none }, { dst := some 14, op := Op.buildSlice 27 0 #[], type := 27, pos := "l06_run.go:93", after := #[], guard := none }, { dst := some 15, op := Op.move (Operand.tmp 2), type := 3, pos := "l06_run.go:93", after := #[], guard := none }, { dst := some 16, op := Op.call { callee := Callee.value (Operand.func 56), args := #[Operand.tmp 15, Operand.const (Value.int IntKind.i64 5000)], argTypes := #[3, 3] }, type := 3, pos := "l06_run.go:93", after := #[{ on := 8, ground := Ground.data }, { on := 5, ground := Ground.chain }], guard := none }, { dst := some 17, op := Op.build 70 #[(0, Operand.tmp 8), (1, Operand.tmp 9), (2, Operand.tmp 12), (3, Operand.tmp 13), (4, Operand.tmp 14), (5, Operand.tmp 16)], type := 70, pos := "l06_run.go:93", after := #[{ on := 1, ground := Ground.data }, { on := 2, ground := Ground.data }, { on := 5, ground := Ground.data }, { on := 6, ground := Ground.data }, { on := 7, ground := Ground.data }, { on := 9, ground := Ground.data }], guard := none }, { dst := some 18, op := Op.box 70 (Operand.tmp 17), type := 66, pos := "l06_run.go:93", after := #[{ on := 10, ground := Ground.data }], guard := none }, { dst := some 6, op := Op.assign (Operand.tmp 18), type := 66, pos := "l06_run.go:93", after := #[{ on := 11, ground := Ground.data }, { on := 9, ground := Ground.chain }, { on := 0, ground := Ground.phase }, { on := 1, ground := Ground.phase }, { on := 2, ground := Ground.phase }, { on := 3, ground := Ground.phase }, { on := 4, ground := Ground.phase }, { on := 5, ground := Ground.phase }, { on := 6, ground := Ground.phase }, { on := 7, ground := Ground.phase }, { on := 8, ground := Ground.phase }, { on := 9, ground := Ground.phase }, { on := 10, ground := Ground.phase }, { on := 11, ground := Ground.phase }], guard := none }]
def TL_new (W0 : World) (vn rn fq : Nat) (reads : List Int) (ra : Option Addr) (rcap : Nat) (fuel : Int) : List (Value → World → Prop) := [(fun v w => v = .int .i64 (vn : Int)), (fun v w => ∃ g, v = .slice (some ⟨g, 0, none⟩) vn vn ∧ OwnInts w W0.heap.size (.slice (some ⟨g, 0, none⟩) vn vn) (listN vn (fun _ => 0))), (fun v w => ∃ g, v = .slice (some ⟨g, 0, none⟩) 8 8 ∧ OwnInts w W0.heap.size (.slice (some ⟨g, 0, none⟩) 8 8) (listN 8 (fun _ => 0))), (fun v w => ∃ g, v = .slice (some ⟨g, 0, none⟩) 0 0 ∧ OwnInts w W0.heap.size (.slice (some ⟨g, 0, none⟩) 0 0) []), (fun v w => v = .slice ra rn rcap), (fun v w => ∃ g cap, v = .slice (some ⟨g, 0, none⟩) rn cap ∧ ReadsIn w W0.heap.size (.slice (some ⟨g, 0, none⟩) rn cap) g reads), (fun v w => ∃ g, v = .slice (some ⟨g, 0, none⟩) 0 0 ∧ OwnInts w W0.heap.size (.slice (some ⟨g, 0, none⟩) 0 0) []), (fun v w => ∃ g, v = .slice (some ⟨g, 0, none⟩) 0 0 ∧ OwnInts w W0.heap.size (.slice (some ⟨g, 0, none⟩) 0 0) []), (fun v w => v = .int .i64 fuel), (fun v w => v = .int .i64 (fq : Int)), (fun v w => ∃ vb cb rb rc tb pb, v = .agg #[.slice (some ⟨vb, 0, none⟩) vn vn, .slice (some ⟨cb, 0, none⟩) 8 8, .slice (some ⟨rb, 0, none⟩) rn rc, .slice (some ⟨tb, 0, none⟩) 0 0, .slice (some ⟨pb, 0, none⟩) 0 0, .int .i64 (fq : Int)] ∧ NewParts W0 w vn rn reads vb cb rb rc tb pb), (fun v w => ∃ P, v = .pointer (some ⟨P, 0, none⟩) ∧ SIs W0 w P vn ⟨fun _ => 0, fun _ => 0, reads, [], [], fq⟩)]
def TN (W0 : World) (vn rn fq : Nat) (reads : List Int) (ra : Option Addr) (rcap : Nat) (fuel : Int) (j : Nat) (v : Value) (w : World) : Prop := ((TL_new W0 vn rn fq reads ra rcap fuel).getD j (fun _ _ => True)) v w
theorem TN_stab (W0 : World) (vn rn fq : Nat) (reads : List Int) (ra : Option Addr) (rcap : Nat) (fuel : Int) : ∀ j v w w', TN W0 vn rn fq reads ra rcap fuel j v w → Below w.heap.size w w' → TN W0 vn rn fq reads ra rcap fuel j v w' := by
  intro j v w w' h hf
  by_cases hj : j < 12
  · have hj' : j = 0 ∨ j = 1 ∨ j = 2 ∨ j = 3 ∨ j = 4 ∨ j = 5 ∨ j = 6 ∨ j = 7 ∨ j = 8 ∨ j = 9 ∨ j = 10 ∨ j = 11 := by omega
    rcases hj' with rfl | rfl | rfl | rfl | rfl | rfl | rfl | rfl | rfl | rfl | rfl | rfl
    · exact h
    · obtain ⟨g, h1, h2⟩ := h
      exact ⟨g, h1, h2.keep hf⟩
    · obtain ⟨g, h1, h2⟩ := h
      exact ⟨g, h1, h2.keep hf⟩
    · obtain ⟨g, h1, h2⟩ := h
      exact ⟨g, h1, h2.keep hf⟩
    · exact h
    · obtain ⟨g, c, h1, h2⟩ := h
      exact ⟨g, c, h1, h2.later hf⟩
    · obtain ⟨g, h1, h2⟩ := h
      exact ⟨g, h1, h2.keep hf⟩
    · obtain ⟨g, h1, h2⟩ := h
      exact ⟨g, h1, h2.keep hf⟩
    · exact h
    · exact h
    · obtain ⟨vb, cb, rb, rc, tb, pb, h1, h2⟩ := h
      exact ⟨vb, cb, rb, rc, tb, pb, h1, h2.later hf⟩
    · obtain ⟨P, h1, h2⟩ := h
      exact ⟨P, h1, h2.later hf⟩
  · unfold TN at h ⊢
    have hlen : (TL_new W0 vn rn fq reads ra rcap fuel).length = 12 := rfl
    rw [List.getD_eq_getElem?_getD, List.getElem?_eq_none (by omega)]
    trivial
theorem ob_of {g g' n n' c c' : Nat} (h : (Value.slice (some ⟨g, 0, none⟩) n c).ownBlock ≠ (Value.slice (some ⟨g', 0, none⟩) n' c').ownBlock) : g ≠ g' := fun e => h (by rw [e]; rfl)
theorem pair_left {i k : Nat} (h : pairOk i k = true) : (i = 1 ∨ i = 2 ∨ i = 3 ∨ i = 5 ∨ i = 6 ∨ i = 7) ∧ (k = 1 ∨ k = 2 ∨ k = 3 ∨ k = 5 ∨ k = 6 ∨ k = 7) := by
  simp [pairOk] at h
  omega
section
variable {W0 : World} {vn rn fq : Nat} {reads : List Int} {ra : Option Addr} {rcap : Nat} {fuel : Int}
theorem TN_lt {k : Nat} {u : Value} {w : World} (hk : k = 1 ∨ k = 2 ∨ k = 3 ∨ k = 5 ∨ k = 6 ∨ k = 7) (h : TN W0 vn rn fq reads ra rcap fuel k u w) : ∃ g, u.ownBlock = some g ∧ g < w.heap.size := by
  rcases hk with rfl | rfl | rfl | rfl | rfl | rfl
  · obtain ⟨g, rfl, h⟩ := h
    exact ⟨g, rfl, (World.ownsRow.lt h g rfl).2⟩
  · obtain ⟨g, rfl, h⟩ := h
    exact ⟨g, rfl, (World.ownsRow.lt h g rfl).2⟩
  · obtain ⟨g, rfl, h⟩ := h
    exact ⟨g, rfl, (World.ownsRow.lt h g rfl).2⟩
  · obtain ⟨g, c, rfl, h⟩ := h
    obtain ⟨_, _, _, _, _, _, ⟨c, hc⟩, _⟩ := h
    exact ⟨g, rfl, (Array.getElem?_eq_some_iff.1 hc).1⟩
  · obtain ⟨g, rfl, h⟩ := h
    exact ⟨g, rfl, (World.ownsRow.lt h g rfl).2⟩
  · obtain ⟨g, rfl, h⟩ := h
    exact ⟨g, rfl, (World.ownsRow.lt h g rfl).2⟩
theorem dNew {j g0 : Nat} {v : Value} {w : World} {X : Nat → Value → Prop} (hv : v.ownBlock = some g0) (hg0 : w.heap.size ≤ g0) : ∀ k u, k < 12 → k ≠ j → TN W0 vn rn fq reads ra rcap fuel k u w → X k u → DN j v k u ∧ DN k u j v := by
  intro k u _ _ hT _
  refine ⟨fun h => ?_, fun h => ?_⟩
  · obtain ⟨g, e, hl⟩ := TN_lt (pair_left h).2 hT
    rw [hv, e]
    intro e2
    cases e2
    omega
  · obtain ⟨g, e, hl⟩ := TN_lt (pair_left h).1 hT
    rw [hv, e]
    intro e2
    cases e2
    omega
theorem dNone {j : Nat} {v : Value} {w : World} {X : Nat → Value → Prop} (hj : (j == 1 || j == 2 || j == 3 || j == 5 || j == 6 || j == 7) = false) : ∀ k u, k < 12 → k ≠ j → TN W0 vn rn fq reads ra rcap fuel k u w → X k u → DN j v k u ∧ DN k u j v := by
  intro k u _ _ _ _
  simp at hj
  refine ⟨fun h => ?_, fun h => ?_⟩
  · have := (pair_left h).1
    omega
  · have := (pair_left h).2
    omega
theorem dFive {g n c k : Nat} {u x : Value} (hk5 : k ≠ 5) (hx : x = .slice (some ⟨g, 0, none⟩) 0 0) (h : 3 ≠ k → DN 3 x k u) : DN 5 (.slice (some ⟨g, 0, none⟩) n c) k u ∧ DN k u 5 (.slice (some ⟨g, 0, none⟩) n c) := by
  subst hx
  refine ⟨fun hp => ?_, fun hp => ?_⟩
  · have h1 := (pair_left hp).2
    have hk : k ≠ 3 := fun e => by subst e; simp [pairOk] at hp
    exact h (fun e => hk e.symm) (by simp [pairOk]; omega)
  · have h1 := (pair_left hp).1
    have hk : k ≠ 3 := fun e => by subst e; simp [pairOk] at hp
    exact fun e => h (fun e => hk e.symm) (by simp [pairOk]; omega) e.symm
end

theorem ops_l6New_acyc : ∀ (i : Nat) (o : Oper), ops_l6New[i]? = some o → ∀ e ∈ o.after, e.on < i := by
  have h : (List.range 13).all (fun i => match ops_l6New[i]? with | some o => o.after.all (fun e => decide (e.on < i)) | none => true) = true := by kernel_rfl
  intro i o ho e he
  have hi : i < 13 := (Array.getElem?_eq_some_iff.1 ho).1
  have := List.all_eq_true.1 h i (List.mem_range.2 hi)
  rw [ho] at this
  simp only [Array.all_eq_true'] at this
  simpa using this e he
theorem ops_l6New_plain : ∀ (i : Nat) (o : Oper), ops_l6New[i]? = some o → o.guard = none := by
  have h : (List.range 13).all (fun i => match ops_l6New[i]? with | some o => o.guard.isNone | none => true) = true := by kernel_rfl
  intro i o ho
  have hi : i < 13 := (Array.getElem?_eq_some_iff.1 ho).1
  have := List.all_eq_true.1 h i (List.mem_range.2 hi)
  rw [ho] at this
  simpa using this
theorem ops_l6New_all : ∀ li : Array Bool, Closed .any ops_l6New li → (∀ o, ops_l6New[12]? = some o → ∀ e ∈ o.after, Region.binds .any e = true → li.getD e.on false = true) → ∀ j, j < 12 → li.getD j false = true := by
  intro li hc hl
  have hlast : ∀ i, waitsFor .any ops_l6New 12 i = true → li.getD i false = true := fun i hi => by
    obtain ⟨e, he, hb, h2⟩ := waitsFor_spec hi (Array.getElem?_eq_getElem (by decide : 12 < ops_l6New.size))
    rw [← h2]
    exact hl _ (Array.getElem?_eq_getElem (by decide : 12 < ops_l6New.size)) e he hb
  have hback : ∀ j i, j < 12 → li.getD j false = true → waitsFor .any ops_l6New j i = true → li.getD i false = true := fun j i hj hjl hi => by
    have hjs : j < ops_l6New.size := by show j < 13; omega
    obtain ⟨e, he, hb, h2⟩ := waitsFor_spec hi (Array.getElem?_eq_getElem hjs)
    rw [← h2]
    exact hc j _ (Array.getElem?_eq_getElem hjs) hjl e he hb
  have l11 := hlast 11 (by kernel_rfl)
  have l10 := hback 11 10 (by omega) l11 (by kernel_rfl)
  have l1 := hback 10 1 (by omega) l10 (by kernel_rfl)
  have l2 := hback 10 2 (by omega) l10 (by kernel_rfl)
  have l5 := hback 10 5 (by omega) l10 (by kernel_rfl)
  have l6 := hback 10 6 (by omega) l10 (by kernel_rfl)
  have l7 := hback 10 7 (by omega) l10 (by kernel_rfl)
  have l9 := hback 10 9 (by omega) l10 (by kernel_rfl)
  have l0 := hback 1 0 (by omega) l1 (by kernel_rfl)
  have l3 := hback 5 3 (by omega) l5 (by kernel_rfl)
  have l4 := hback 5 4 (by omega) l5 (by kernel_rfl)
  have l8 := hback 9 8 (by omega) l9 (by kernel_rfl)
  intro j hj
  have hj' : j = 0 ∨ j = 1 ∨ j = 2 ∨ j = 3 ∨ j = 4 ∨ j = 5 ∨ j = 6 ∨ j = 7 ∨ j = 8 ∨ j = 9 ∨ j = 10 ∨ j = 11 := by omega
  rcases hj' with rfl | rfl | rfl | rfl | rfl | rfl | rfl | rfl | rfl | rfl | rfl | rfl <;> assumption

set_option maxRecDepth 100000 in
set_option maxHeartbeats 16000000 in
theorem region_l6New (W0 : World) (vn rn fq : Nat) (reads : List Int) (ra : Option Addr) (rcap : Nat) (fuel : Int) (hvn : vn ≤ 80) (hrn : reads.length = rn) (hrl : rn ≤ 2000000) (hfq : min fuel 5000 = (fq : Int)) (hrd : ReadsAt W0 (.slice ra rn rcap) reads) (a0 : Act) (hsz : a0.tmps.size = 19) (h0 : a0.eval (.tmp 0) = .int .i64 (vn : Int)) (h1 : a0.eval (.tmp 1) = .slice ra rn rcap) (h2 : a0.eval (.tmp 2) = .int .i64 fuel) (w0 : World) (hw0 : Below W0.heap.size W0 w0)
    (Q : Exit → Act → World → Prop) (hQ : ∀ (a : Act) (W' : World), a.defers = a0.defers → (∃ P, a.eval (.tmp 6) = .pointer (some ⟨P, 0, none⟩) ∧ SIs W0 W' P vn ⟨fun _ => 0, fun _ => 0, reads, [], [], fq⟩) → Q .normal a W') :
    wpAny Try.prog .any ops_l6New Q 13 (Array.replicate 13 false) a0 w0 := by
  refine wpAny_invD (N := 12) (s0 := 7) (d := 6) (a0 := a0) (S := fun w => Below W0.heap.size W0 w) (R := fun w w' => Below w.heap.size w w') (T := TN W0 vn rn fq reads ra rcap fuel) (D := DN) (Post := fun v w => ∃ P, v = .pointer (some ⟨P, 0, none⟩) ∧ SIs W0 w P vn ⟨fun _ => 0, fun _ => 0, reads, [], [], fq⟩)
    rfl (by omega) (by omega) ops_l6New_acyc ops_l6New_plain ops_l6New_all (TN_stab W0 vn rn fq reads ra rcap fuel) ?hop ?hlast ?hQ 13 _ a0 w0 (by simp) ⟨by simp, fun j o ho hj => ?cl, rfl, rfl, fun _ _ _ => rfl, .inl ⟨by simp, hw0, fun j hj hjl => ?nt, fun i k hi hk hik hil hkl => ?np⟩⟩
  case cl =>
    have : (Array.replicate 13 false).getD j false = false := by simp [Array.getD]
    rw [this] at hj
    cases hj
  case nt =>
    have : (Array.replicate 13 false).getD j false = false := by simp [Array.getD]
    rw [this] at hjl
    cases hjl
  case np =>
    have : (Array.replicate 13 false).getD i false = false := by simp [Array.getD]
    rw [this] at hil
    cases hil
  case hQ =>
    intro a w e1 e2 e3 hP
    exact hQ a w e2 hP
  case hlast =>
    intro o ho a w es eo hS hT K hK
    obtain ⟨_, rfl⟩ := Array.getElem?_eq_some_iff.1 ho
    obtain ⟨P, d0, hs⟩ := hT 11 (by omega)
    exact wp_value_of (v := .pointer (some ⟨P, 0, none⟩)) (w' := w) (run_assignOp rfl d0) (hK _ _ ⟨P, rfl, hs⟩)
  case hop =>
    intro j hj o ho a w es eo hS hT hDD K hK
    have ev : ∀ t : Nat, t ≠ 6 → t < 7 → a.eval (.tmp t) = a0.eval (.tmp t) := fun t ht6 ht => by
      show a.tmps.getD t undef = a0.tmps.getD t undef
      rw [Array.getD_eq_getD_getElem?, Array.getD_eq_getD_getElem?, eo t ht6 (.inl ht)]
    have hj' : j = 0 ∨ j = 1 ∨ j = 2 ∨ j = 3 ∨ j = 4 ∨ j = 5 ∨ j = 6 ∨ j = 7 ∨ j = 8 ∨ j = 9 ∨ j = 10 ∨ j = 11 := by omega
    rcases hj' with rfl | rfl | rfl | rfl | rfl | rfl | rfl | rfl | rfl | rfl | rfl | rfl
    · obtain ⟨_, rfl⟩ := Array.getElem?_eq_some_iff.1 ho
      exact wp_moveN rfl ((ev 0 (by omega) (by omega)).trans h0) (hK _ _ (Below.refl _ _) hS rfl (dNone rfl))
    · obtain ⟨_, rfl⟩ := Array.getElem?_eq_some_iff.1 ho
      have d0 := hT 0 (by omega) (by kernel_rfl)
      exact wp_value_of (run_makeOp rfl d0 d0 (make_ints vn (by omega) w)) (hK _ _ (Bel.alloc w _) (Bel.after hS (Bel.alloc w _)) ⟨w.heap.size, rfl, own_made vn (by omega) hS.size⟩ (dNew rfl (Nat.le_refl _)))
    · obtain ⟨_, rfl⟩ := Array.getElem?_eq_some_iff.1 ho
      exact wp_value_of (run_makeOp rfl rfl rfl (make_ints 8 (by omega) w)) (hK _ _ (Bel.alloc w _) (Bel.after hS (Bel.alloc w _)) ⟨w.heap.size, rfl, own_made 8 (by omega) hS.size⟩ (dNew rfl (Nat.le_refl _)))
    · obtain ⟨_, rfl⟩ := Array.getElem?_eq_some_iff.1 ho
      exact wp_value_of (run_empty rfl w) (hK _ _ (Bel.alloc w _) (Bel.after hS (Bel.alloc w _)) ⟨w.heap.size, rfl, ownInts_nil (by simp) hS.size⟩ (dNew rfl (Nat.le_refl _)))
    · obtain ⟨_, rfl⟩ := Array.getElem?_eq_some_iff.1 ho
      exact wp_moveN rfl ((ev 1 (by omega) (by omega)).trans h1) (hK _ _ (Below.refl _ _) hS rfl (dNone rfl))
    · obtain ⟨_, rfl⟩ := Array.getElem?_eq_some_iff.1 ho
      obtain ⟨g, d0, hg⟩ := hT 3 (by omega) (by kernel_rfl)
      have d1 := hT 4 (by omega) (by kernel_rfl)
      obtain ⟨v, w2, hrun, hb2, g2, cap2, rfl, hrd, hat⟩ := append_reads hg (hrd.keep2 hS) hS.size hrn hrl w rfl
      refine wp_value_of (run_appendOp rfl d0 d1 hrun) (hK _ _ hb2 (Bel.after hS hb2) ⟨g2, cap2, rfl, hrd⟩ ?_)
      intro k u hk hkj hTk hdep
      rcases hat with rfl | hat
      · exact dFive hkj d0 (hdep 3 (by omega) (by kernel_rfl))
      · exact dNew (X := fun _ _ => True) rfl hat k u hk hkj hTk trivial
    · obtain ⟨_, rfl⟩ := Array.getElem?_eq_some_iff.1 ho
      exact wp_value_of (run_empty rfl w) (hK _ _ (Bel.alloc w _) (Bel.after hS (Bel.alloc w _)) ⟨w.heap.size, rfl, ownInts_nil (by simp) hS.size⟩ (dNew rfl (Nat.le_refl _)))
    · obtain ⟨_, rfl⟩ := Array.getElem?_eq_some_iff.1 ho
      exact wp_value_of (run_empty rfl w) (hK _ _ (Bel.alloc w _) (Bel.after hS (Bel.alloc w _)) ⟨w.heap.size, rfl, ownInts_nil (by simp) hS.size⟩ (dNew rfl (Nat.le_refl _)))
    · obtain ⟨_, rfl⟩ := Array.getElem?_eq_some_iff.1 ho
      exact wp_moveN rfl ((ev 2 (by omega) (by omega)).trans h2) (hK _ _ (Below.refl _ _) hS rfl (dNone rfl))
    · obtain ⟨_, rfl⟩ := Array.getElem?_eq_some_iff.1 ho
      have d0 := hT 8 (by omega) (by kernel_rfl)
      refine wp_call_of (f := 56) (args := #[.int .i64 fuel, .int .i64 5000]) (runCall2 (y := .const (.int .i64 5000)) rfl d0 rfl (enters_of Try.func56 (by kernel_rfl) rfl) _) (min_5000 fuel w) ?_
      rintro e w2 ⟨rfl, rfl⟩
      rw [hfq]
      exact ⟨_, rfl, hK _ _ (Below.refl _ _) hS rfl (dNone rfl)⟩
    · obtain ⟨_, rfl⟩ := Array.getElem?_eq_some_iff.1 ho
      obtain ⟨vb, d1, o1⟩ := hT 1 (by omega) (by kernel_rfl)
      obtain ⟨cb, d2, o2⟩ := hT 2 (by omega) (by kernel_rfl)
      obtain ⟨rb, rc, d5, o5⟩ := hT 5 (by omega) (by kernel_rfl)
      obtain ⟨tb, d6, o6⟩ := hT 6 (by omega) (by kernel_rfl)
      obtain ⟨pb, d7, o7⟩ := hT 7 (by omega) (by kernel_rfl)
      have d9 := hT 9 (by omega) (by kernel_rfl)
      have hne : ∀ i k, i < 12 → k < 12 → i ≠ k → pairOk i k = true → depOn .any ops_l6New 10 i = true → depOn .any ops_l6New 10 k = true → (a.eval (.tmp (7 + i))).ownBlock ≠ (a.eval (.tmp (7 + k))).ownBlock := fun i k a1 a2 a3 a4 a5 a6 => hDD i k a1 a2 a3 a5 a6 a4
      have q12 := hne 1 2 (by omega) (by omega) (by omega) rfl (by kernel_rfl) (by kernel_rfl)
      have q15 := hne 1 5 (by omega) (by omega) (by omega) rfl (by kernel_rfl) (by kernel_rfl)
      have q16 := hne 1 6 (by omega) (by omega) (by omega) rfl (by kernel_rfl) (by kernel_rfl)
      have q17 := hne 1 7 (by omega) (by omega) (by omega) rfl (by kernel_rfl) (by kernel_rfl)
      have q25 := hne 2 5 (by omega) (by omega) (by omega) rfl (by kernel_rfl) (by kernel_rfl)
      have q26 := hne 2 6 (by omega) (by omega) (by omega) rfl (by kernel_rfl) (by kernel_rfl)
      have q27 := hne 2 7 (by omega) (by omega) (by omega) rfl (by kernel_rfl) (by kernel_rfl)
      have q56 := hne 5 6 (by omega) (by omega) (by omega) rfl (by kernel_rfl) (by kernel_rfl)
      have q57 := hne 5 7 (by omega) (by omega) (by omega) rfl (by kernel_rfl) (by kernel_rfl)
      have q67 := hne 6 7 (by omega) (by omega) (by omega) rfl (by kernel_rfl) (by kernel_rfl)
      rw [d1, d2] at q12
      rw [d1, d5] at q15
      rw [d1, d6] at q16
      rw [d1, d7] at q17
      rw [d2, d5] at q25
      rw [d2, d6] at q26
      rw [d2, d7] at q27
      rw [d5, d6] at q56
      rw [d5, d7] at q57
      rw [d6, d7] at q67
      exact wp_value_of (run_build6 rfl d1 d2 d5 d6 d7 d9 (build_state _ _ _ _ _ _ _ _ _ _ _ _ w)) (hK _ _ (Below.refl _ _) hS ⟨vb, cb, rb, rc, tb, pb, rfl, o1, o2, o5, o6, o7, ob_of q12, ob_of q15, ob_of q16, ob_of q17, ob_of q25, ob_of q26, ob_of q27, ob_of q56, ob_of q57, ob_of q67⟩ (dNone rfl))
    · obtain ⟨_, rfl⟩ := Array.getElem?_eq_some_iff.1 ho
      obtain ⟨vb, cb, rb, rc, tb, pb, d0, hn⟩ := hT 10 (by omega) (by kernel_rfl)
      exact wp_value_of (run_boxOp rfl d0 (box_state _ _ _ _ _ _ _ _ _ _ _ _ w)) (hK _ _ (Bel.alloc w _) (Bel.after hS (Bel.alloc w _)) ⟨w.heap.size, rfl, hn.begins hS hrn⟩ (dNone rfl))

/-- A run of the model is given. -/
def GivesS (w : World) (vn : Nat) (s : RunS) (e : Ending) (w' : World) : Prop := ∃ P, e = .returned (.pointer (some ⟨P, 0, none⟩)) ∧ SIs w w' P vn s

set_option maxRecDepth 100000 in
set_option maxHeartbeats 4000000 in
theorem l6New_any (vn : Nat) (hvn : vn ≤ 80) (rv : Value) (reads : List Int) (fuel : Int) (hf : 0 ≤ fuel) (hrl : reads.length ≤ 2000000) (w : World) (hr : ReadsAt w rv reads) :
    Calls Try.prog 34 #[.int .i64 (vn : Int), rv, .int .i64 fuel] w fun e w' => GivesS w vn (startDo reads fuel) e w' := by
  obtain ⟨ra, rcap, rfl, hr1, hr2, hr3⟩ := id hr
  obtain ⟨rn, HRN⟩ : ∃ n, Hid (reads.length = n) := ⟨_, rfl⟩
  rw [HRN.out] at hr hrl ⊢
  have HRD : Hid (ReadsAt w (.slice ra rn rcap) reads) := hr
  obtain ⟨fq, HFQ⟩ : ∃ fq : Nat, Hid ((min fuel 5000).toNat = fq) := ⟨_, rfl⟩
  have HST : Hid (startDo reads fuel = ⟨fun _ => 0, fun _ => 0, reads, [], [], fq⟩) := by
    show startDo reads fuel = _
    unfold startDo
    rw [HFQ.out]
  rw [HST.out]
  have HFE : Hid (min fuel 5000 = (fq : Int)) := by have := HFQ.out; show min fuel 5000 = (fq : Int); omega
  clear hr hr1 hr2 hr3
  go_enter Try.func34, Try.ntmps34
  go_wp2_with fail
  refine wp_region_any (by kernel_rfl) ?_
  refine region_l6New w vn rn fq reads ra rcap fuel hvn HRN.out hrl HFE.out HRD.out _ ?_ ?_ ?_ ?_ _ ?_ _ ?_
  · rfl
  · rfl
  · rfl
  · rfl
  · first | exact (Below.refl _ _).drew | exact Below.refl _ _
  · rintro a W' hdf ⟨P, hP, hs⟩
    rename_i Q9 K9 hK9
    simp only [Exit.then]
    refine hK9 _ _ (wp_ret ?_)
    show bodyPost _ _ _ _ _ _
    refine bodyPost_ret (v := .pointer (some ⟨P, 0, none⟩)) ?_ hdf ⟨P, rfl, hs⟩
    rw [← hP]
    exact results_tmp rfl _ _ _
end Go.Proofs.Ytkpddakmcnknjaa

namespace Go.Proofs.Ytkpddakmcnknjaa
open Go.ChangeShapes Go.WideShapes Go.ChangeAt Go.RowKit Go.Shelf
set_option linter.unusedVariables false

set_option maxRecDepth 100000 in
set_option maxHeartbeats 2000000 in
theorem spec_run (v rv : Value) (F : FnD) (reads : List Int) (fuel : Int) (w : World) (hF : FnAt w v F) (hr : ReadsAt w rv reads) (hrl : reads.length ≤ 2000000) :
    Calls Try.prog 12 #[v, rv, .int .i64 fuel] w fun e w' => GivesTold w (runOf F reads fuel) e w' := by
  have HF : Hid (FnAt w v F) := hF
  obtain ⟨n, HN⟩ : ∃ n, Hid (F.blocks.length = n) := ⟨_, rfl⟩
  obtain ⟨vals, HV⟩ : ∃ x, Hid (F.values = x) := ⟨_, rfl⟩
  obtain ⟨ba, bcap, rfl⟩ := hF.out HN.out HV.out
  have HRD : Hid (ReadsAt w rv reads) := hr
  obtain ⟨ra, rcap, rfl, _, _, _⟩ := hr
  obtain ⟨rn, HRN⟩ : ∃ n, Hid (reads.length = n) := ⟨_, rfl⟩
  rw [HRN.out] at HRD ⊢
  have HRL : Hid (reads.length ≤ 2000000) := hrl
  clear hF hrl
  go_enter Try.func12, Try.ntmps12
  go_wp2_with fail
  refine (spec_shapeOk _ F _ (HF.out.later (Bel.alloc _ _))).mono ?_
  rintro e w1 ⟨t, rfl, ht, b1⟩
  have c0 := box_cell b1 0
  have c1 := box_cell b1 1
  simp at c0 c1
  have B1 : Hid (Below w.heap.size w w1) := Bel.after (Bel.alloc _ _) b1
  have HT : Hid (t = true ↔ FnShape F) := ht
  clear b1 ht
  generalize w.heap.size = FB at c0 c1 ⊢
  cases t with
  | false =>
    have hno : ¬ FnShape F := fun h => by have := HT.out.2 h; cases this
    have HO : Hid (runOf F reads fuel = ([], 3, 0)) := if_neg (fun h => hno h.1)
    clear hno
    go_wp2_with fail
    refine bodyPost_ret (v := .tuple #[.slice (some ⟨w1.heap.size, 0, none⟩) 0 0, .int .i64 3, .int .i64 0]) (by simp [results, Try.results12, go_sem]) rfl ?_
    rw [HO.out]
    exact ⟨_, rfl, ownInts_nil rfl B1.out.size, Bel.after B1.out (Bel.alloc _ _)⟩
  | true =>
    have HS : Hid (FnShape F) := HT.out.1 rfl
    obtain ⟨vn, hvn⟩ : ∃ vn : Nat, (vn : Int) = vals := ⟨vals.toNat, by have h1 := HS.out.2.2.1; rw [HV.out] at h1; omega⟩
    subst hvn
    have hv80 : vn ≤ 80 := by have h1 := HS.out.2.2.2.1; rw [HV.out] at h1; omega
    by_cases hf : 0 ≤ fuel
    · have hf2 : ¬ fuel < 0 := by omega
      have HO : Hid (runOf F reads fuel = ((runDo wordV F reads fuel).2.2.told, (runDo wordV F reads fuel).1, (runDo wordV F reads fuel).2.1)) := if_pos ⟨HS.out, hf⟩
      go_wp2_with fail
      refine (l6New_any vn hv80 _ reads fuel hf HRL.out _ (HRD.out.keep B1.out)).mono ?_
      rintro e w2 ⟨P, rfl, h2⟩
      have c0 := Bel.keeps h2.below c0
      have c1 := Bel.keeps h2.below c1
      have HR2 : Hid (SIs w1 w2 P vn (startDo reads fuel)) := h2
      clear h2
      go_wp2_with fail
      have hroom := start_room reads hf
      refine (sall_any (W0 := w1) (P := P) (vn := vn) F ba n bcap (vn : Int) (HF.out.later B1.out) HS.out HV.out rfl 5001 (startDo reads fuel) _ HR2.out hroom.2.2 hroom.1 hroom.2.1).mono ?_
      rintro e w3 ⟨rfl, h3⟩
      have HO4 : Hid (runOf F reads fuel = ((tellN wordV F 5001 0 (-1) (startDo reads fuel)).2.2.told, (tellN wordV F 5001 0 (-1) (startDo reads fuel)).1, (tellN wordV F 5001 0 (-1) (startDo reads fuel)).2.1)) := HO.out
      obtain ⟨r, HRR⟩ : ∃ r, Hid (tellN wordV F 5001 0 (-1) (startDo reads fuel) = r) := ⟨_, rfl⟩
      rw [HRR.out] at HO4 h3 ⊢
      obtain ⟨how, en, sE⟩ := r
      dsimp only at HO4 h3 ⊢
      obtain ⟨vb, vc, cb, cc, rv3, rb, tb, tc, pb, pc, h4⟩ := h3
      have k3 := h4.cell.2.2.2.1
      obtain ⟨tn, HTN⟩ : ∃ q, Hid (sE.told.length = q) := ⟨_, rfl⟩
      have HT3 : Hid (OwnInts w3 w1.heap.size (.slice (some ⟨tb, 0, none⟩) tn tc) sE.told) := by rw [← HTN.out]; exact h4.told
      rw [HTN.out] at k3
      have HB3 : Hid (Below w1.heap.size w1 w3) := h4.below
      clear h4 hroom HO HR2
      go_wp2_with fail
      refine bodyPost_ret (v := .tuple #[.slice (some ⟨tb, 0, none⟩) tn tc, .int .i64 how, .int .i64 en]) (by simp [results, Try.results12, go_sem]) rfl ?_
      rw [HO4.out]
      exact ⟨_, rfl, HT3.out.low B1.out.size, Bel.after B1.out HB3.out⟩
    · have hf2 : fuel < 0 := by omega
      have HO : Hid (runOf F reads fuel = ([], 3, 0)) := if_neg (fun h => hf h.2)
      clear hf
      go_wp2_with fail
      refine bodyPost_ret (v := .tuple #[.slice (some ⟨w1.heap.size, 0, none⟩) 0 0, .int .i64 3, .int .i64 0]) (by simp [results, Try.results12, go_sem]) rfl ?_
      rw [HO.out]
      exact ⟨_, rfl, ownInts_nil rfl B1.out.size, Bel.after B1.out (Bel.alloc _ _)⟩

set_option maxRecDepth 100000 in
set_option maxHeartbeats 2000000 in
theorem spec_path (v rv : Value) (F : FnD) (reads : List Int) (fuel : Int) (w : World) (hF : FnAt w v F) (hr : ReadsAt w rv reads) (hrl : reads.length ≤ 2000000) :
    Calls Try.prog 17 #[v, rv, .int .i64 fuel] w fun e w' => GivesOwn w (pathOf F reads fuel) e w' := by
  have HF : Hid (FnAt w v F) := hF
  obtain ⟨n, HN⟩ : ∃ n, Hid (F.blocks.length = n) := ⟨_, rfl⟩
  obtain ⟨vals, HV⟩ : ∃ x, Hid (F.values = x) := ⟨_, rfl⟩
  obtain ⟨ba, bcap, rfl⟩ := hF.out HN.out HV.out
  have HRD : Hid (ReadsAt w rv reads) := hr
  obtain ⟨ra, rcap, rfl, _, _, _⟩ := hr
  obtain ⟨rn, HRN⟩ : ∃ n, Hid (reads.length = n) := ⟨_, rfl⟩
  rw [HRN.out] at HRD ⊢
  have HRL : Hid (reads.length ≤ 2000000) := hrl
  clear hF hrl
  go_enter Try.func17, Try.ntmps17
  go_wp2_with fail
  refine (spec_shapeOk _ F _ (HF.out.later (Bel.alloc _ _))).mono ?_
  rintro e w1 ⟨t, rfl, ht, b1⟩
  have c0 := box_cell b1 0
  have c1 := box_cell b1 1
  simp at c0 c1
  have B1 : Hid (Below w.heap.size w w1) := Bel.after (Bel.alloc _ _) b1
  have HT : Hid (t = true ↔ FnShape F) := ht
  clear b1 ht
  generalize w.heap.size = FB at c0 c1 ⊢
  cases t with
  | false =>
    have hno : ¬ FnShape F := fun h => by have := HT.out.2 h; cases this
    have HO : Hid (pathOf F reads fuel = []) := if_neg (fun h => hno h.1)
    clear hno
    go_wp2_with fail
    go_ret
    rw [HO.out]
    exact ⟨_, rfl, ownInts_nil rfl B1.out.size, Bel.after B1.out (Bel.alloc _ _)⟩
  | true =>
    have HS : Hid (FnShape F) := HT.out.1 rfl
    obtain ⟨vn, hvn⟩ : ∃ vn : Nat, (vn : Int) = vals := ⟨vals.toNat, by have h1 := HS.out.2.2.1; rw [HV.out] at h1; omega⟩
    subst hvn
    have hv80 : vn ≤ 80 := by have h1 := HS.out.2.2.2.1; rw [HV.out] at h1; omega
    by_cases hf : 0 ≤ fuel
    · have hf2 : ¬ fuel < 0 := by omega
      have HO : Hid (pathOf F reads fuel = (tellN wordV F 5001 0 (-1) (startDo reads fuel)).2.2.path) := if_pos ⟨HS.out, hf⟩
      go_wp2_with fail
      refine (l6New_any vn hv80 _ reads fuel hf HRL.out _ (HRD.out.keep B1.out)).mono ?_
      rintro e w2 ⟨P, rfl, h2⟩
      have c0 := Bel.keeps h2.below c0
      have c1 := Bel.keeps h2.below c1
      have HR2 : Hid (SIs w1 w2 P vn (startDo reads fuel)) := h2
      clear h2
      go_wp2_with fail
      have hroom := start_room reads hf
      refine (sall_any (W0 := w1) (P := P) (vn := vn) F ba n bcap (vn : Int) (HF.out.later B1.out) HS.out HV.out rfl 5001 (startDo reads fuel) _ HR2.out hroom.2.2 hroom.1 hroom.2.1).mono ?_
      rintro e w3 ⟨rfl, h3⟩
      obtain ⟨r, HRR⟩ : ∃ r, Hid (tellN wordV F 5001 0 (-1) (startDo reads fuel) = r) := ⟨_, rfl⟩
      rw [HRR.out] at HO h3 ⊢
      obtain ⟨how, en, sE⟩ := r
      dsimp only at HO h3 ⊢
      obtain ⟨vb, vc, cb, cc, rv3, rb, tb, tc, pb, pc, h4⟩ := h3
      have k4 := h4.cell.2.2.2.2.1
      obtain ⟨pn, HPN⟩ : ∃ q, Hid (sE.path.length = q) := ⟨_, rfl⟩
      have HT3 : Hid (OwnInts w3 w1.heap.size (.slice (some ⟨pb, 0, none⟩) pn pc) sE.path) := by rw [← HPN.out]; exact h4.path
      rw [HPN.out] at k4
      have HB3 : Hid (Below w1.heap.size w1 w3) := h4.below
      clear h4 hroom HR2
      go_wp2_with fail
      go_ret
      rw [HO.out]
      exact ⟨_, rfl, HT3.out.low B1.out.size, Bel.after B1.out HB3.out⟩
    · have hf2 : fuel < 0 := by omega
      have HO : Hid (pathOf F reads fuel = []) := if_neg (fun h => hf h.2)
      clear hf
      go_wp2_with fail
      go_ret
      rw [HO.out]
      exact ⟨_, rfl, ownInts_nil rfl B1.out.size, Bel.after B1.out (Bel.alloc _ _)⟩
end Go.Proofs.Ytkpddakmcnknjaa

namespace Go.Proofs.Ytkpddakmcnknjaa
set_option linter.unusedVariables false

theorem placesDo_len (W : Int → Int → Int → Int) : ∀ (l : List InsD) (s : RunS), (placesDo W l s).2.told.length + (placesDo W l s).2.fuel ≤ s.told.length + s.fuel ∧ (placesDo W l s).2.path = s.path
  | [], s => ⟨Nat.le_refl _, rfl⟩
  | x :: xs, s => by
    rw [placesDo_cons]
    split
    · exact ⟨Nat.le_refl _, rfl⟩
    · rename_i hf
      have h1 := insDo_len W x { s with fuel := s.fuel - 1 }
      have h2 := insDo_fuel W x { s with fuel := s.fuel - 1 }
      dsimp only at h1 h2
      split
      · have h3 := placesDo_len W xs (insDo W x { s with fuel := s.fuel - 1 }).2
        refine ⟨by omega, h3.2.trans h1.2⟩
      · exact ⟨by omega, h1.2⟩
theorem tellN_len (W : Int → Int → Int → Int) (F : FnD) : ∀ (k at_ : Nat) (fr : Int) (s : RunS), (tellN W F k at_ fr s).2.2.told.length ≤ s.told.length + s.fuel ∧ (tellN W F k at_ fr s).2.2.path.length ≤ s.path.length + s.fuel + 1
  | 0, _, _, s => ⟨Nat.le_add_right _ _, by show s.path.length ≤ _; omega⟩
  | k + 1, at_, fr, s => by
    unfold tellN
    cases hb : F.blocks[at_]? with
    | none => exact ⟨Nat.le_add_right _ _, by show s.path.length ≤ _; omega⟩
    | some b =>
      dsimp only
      have h1 := placesDo_len W b.list (enterDo b at_ fr s)
      have h2 := placesDo_fuel W b.list (enterDo b at_ fr s)
      have e1 : (enterDo b at_ fr s).told = s.told := rfl
      have e2 : (enterDo b at_ fr s).fuel = s.fuel := rfl
      have e3 : (enterDo b at_ fr s).path.length = s.path.length + 1 := by simp [enterDo]
      rw [e1, e2] at h1
      rw [e2] at h2
      have h3 := congrArg List.length h1.2
      rw [e3] at h3
      split
      · exact ⟨by dsimp only; omega, by dsimp only; omega⟩
      · split
        · exact ⟨by dsimp only; omega, by dsimp only; omega⟩
        · split
          · exact ⟨by dsimp only; omega, by dsimp only; omega⟩
          · have h4 := tellN_len W F k (nextDo b.term (placesDo W b.list (enterDo b at_ fr s)).2).toNat at_ { (placesDo W b.list (enterDo b at_ fr s)).2 with fuel := (placesDo W b.list (enterDo b at_ fr s)).2.fuel - 1 }
            dsimp only at h4
            exact ⟨by omega, by omega⟩
theorem start_len (reads : List Int) (fuel : Int) : (startDo reads fuel).fuel ≤ 5000 := by
  simp only [startDo]
  omega
theorem runOf_len (F : FnD) (reads : List Int) (fuel : Int) : (runOf F reads fuel).1.length ≤ 6000 := by
  unfold runOf
  split
  · have h1 := tellN_len wordV F 5001 0 (-1) (startDo reads fuel)
    have h2 := start_len reads fuel
    have h3 : (startDo reads fuel).told.length = 0 := rfl
    show (tellN wordV F 5001 0 (-1) (startDo reads fuel)).2.2.told.length ≤ 6000
    omega
  · exact Nat.zero_le _
theorem pathOf_len (F : FnD) (reads : List Int) (fuel : Int) : (pathOf F reads fuel).length ≤ 6000 := by
  unfold pathOf
  split
  · have h1 := tellN_len wordV F 5001 0 (-1) (startDo reads fuel)
    have h2 := start_len reads fuel
    have h3 : (startDo reads fuel).path.length = 0 := rfl
    show (tellN wordV F 5001 0 (-1) (startDo reads fuel)).2.2.path.length ≤ 6000
    omega
  · exact Nat.zero_le _
end Go.Proofs.Ytkpddakmcnknjaa

namespace Go.Proofs.Ytkpddakmcnknjaa
open Go.ChangeShapes Go.WideShapes Go.ChangeAt Go.RowKit
set_option linter.unusedVariables false

/-- A drawn program and a number are given. -/
def GivesAt (w : World) (e : Ending) (w' : World) : Prop := ∃ (v : Value) (F : FnD) (b : Int), e = .returned (.tuple #[v, .int .i64 b]) ∧ FnAtLo w.heap.size w' v F ∧ 0 < F.blocks.length ∧ F.blocks.length ≤ 900 ∧ -1 ≤ b ∧ b ≤ F.blocks.length ∧ Below w.heap.size w w'
theorem Keeps.fr {w w' : World} {C : Nat} (h : Fr C w w') : Keeps (C + 1) w w' := fun p v hp hc => by
  rw [h.cell (World.block_lt_of_cell? w _ hc) (by omega)]
  exact hc
theorem FnAtLo.fr {w w' : World} {C : Nat} {v : Value} {F : FnD} (h : FnAtLo (C + 1) w v F) (hf : Fr C w w') : FnAtLo (C + 1) w' v F := h.keep (Keeps.fr hf)
theorem FnAtLo.out {lo : Nat} {w : World} {v : Value} {F : FnD} (h : FnAtLo lo w v F) {n : Nat} (hn : F.blocks.length = n) : ∃ ba bcap vals, v = .agg #[.slice ba n bcap, .int .i64 vals] := by
  obtain ⟨bv, rfl, a, cap, rfl, _⟩ := h
  exact ⟨a, cap, F.values, by rw [hn]⟩

end Go.Proofs.Ytkpddakmcnknjaa


namespace Go.Proofs.Ytkpddakmcnknjaa
open Go.ChangeShapes Go.WideShapes Go.ChangeAt Go.RowKit
set_option linter.unusedVariables false

/-- A drawn program and two numbers are given. -/
def GivesAt2 (w : World) (e : Ending) (w' : World) : Prop := ∃ (v : Value) (F : FnD) (a b : Int), e = .returned (.tuple #[v, .int .i64 a, .int .i64 b]) ∧ FnAtLo w.heap.size w' v F ∧ 0 < F.blocks.length ∧ F.blocks.length ≤ 900 ∧ 0 ≤ a ∧ a < F.blocks.length ∧ -1 ≤ b ∧ b ≤ F.blocks.length ∧ Below w.heap.size w w'
/-- A drawn program is given. -/
def GivesOne (w : World) (e : Ending) (w' : World) : Prop := ∃ (v : Value) (F : FnD), e = .returned v ∧ FnAtLo w.heap.size w' v F ∧ 0 < F.blocks.length ∧ F.blocks.length ≤ 900 ∧ Below w.heap.size w w'
/-- What the two stores into the box of the result leave. -/
theorem box_end {w w5 : World} {R : Nat} {ba : Option Addr} {n bcap : Nat} {vals : Int} {F : FnD} (hR : R = w.heap.size) (x : w5.heap[R]? = some (.cells #[.slice none 0 0, .int .i64 0] 26 (0, 0))) (hF : FnAtLo (R + 1) w5 (.agg #[.slice ba n bcap, .int .i64 vals]) F) (hB : Below w.heap.size w w5) :
    ((w5.setCell ⟨R, 0, none⟩ (.slice ba n bcap)).setCell ⟨R, 1, none⟩ (.int .i64 vals)).cell? ⟨R, 0, none⟩ = some (.slice ba n bcap) ∧ ((w5.setCell ⟨R, 0, none⟩ (.slice ba n bcap)).setCell ⟨R, 1, none⟩ (.int .i64 vals)).cell? ⟨R, 1, none⟩ = some (.int .i64 vals) ∧
    FnAtLo w.heap.size ((w5.setCell ⟨R, 0, none⟩ (.slice ba n bcap)).setCell ⟨R, 1, none⟩ (.int .i64 vals)) (.agg #[.slice ba n bcap, .int .i64 vals]) F ∧ Below w.heap.size w ((w5.setCell ⟨R, 0, none⟩ (.slice ba n bcap)).setCell ⟨R, 1, none⟩ (.int .i64 vals)) := by
  have y0 : w5.cell? ⟨R, 0, none⟩ = some (.slice none 0 0) := by simp [World.cell?, x]
  have y1 : w5.cell? ⟨R, 1, none⟩ = some (.int .i64 0) := by simp [World.cell?, x]
  refine ⟨?_, World.cell?_setCell_same _ _ _ ((World.cell?_setCell_other _ _ _ _ (by simp)).trans y1), ?_, ?_⟩
  · rw [World.cell?_setCell_other _ _ _ _ (by simp)]
    exact World.cell?_setCell_same _ _ _ y0
  · exact FnAtLo.low (by omega) (hF.keep ((Keeps.setCell _ _ _ _ _ (by omega)).trans (Keeps.setCell _ _ _ _ _ (by omega))))
  · exact (hB.setCell (p := ⟨R, 0, none⟩) (by show w.heap.size ≤ R; omega) _).setCell (p := ⟨R, 1, none⟩) (by show w.heap.size ≤ R; omega) _






end Go.Proofs.Ytkpddakmcnknjaa

namespace Go.Proofs.Ytkpddakmcnknjaa
open Go.ChangeShapes Go.WideShapes Go.ChangeAt Go.RowKit
set_option linter.unusedVariables false

theorem OwnInts.fr {w w' : World} {C lo : Nat} {v : Value} {l : List Int} (h : OwnInts w lo v l) (hf : Fr C w w') (hC : C < lo) : OwnInts w' lo v l := by
  obtain ⟨h0, h1⟩ := h
  refine ⟨h0, ?_⟩
  rcases h1 with h1 | ⟨g, cap, cur, rfl, hlo, hg, h2⟩
  · exact .inl h1
  · exact .inr ⟨g, cap, cur, rfl, hlo, (hf.block g (Array.getElem?_eq_some_iff.1 hg).1 (by omega)).trans hg, h2⟩
theorem Fr.grown {p : Nat} {a w w' : World} {o : Option Nat} (h : Fr p a w) (hg : w.grownBy w' o) (ho : ∀ j, o = some j → a.heap.size ≤ j) : Fr p a w' :=
  ⟨hg.os.trans h.os, hg.tape.trans h.tape, hg.output.trans h.output, Nat.le_trans h.size hg.size, fun k hk hp => (hg.block k (Nat.lt_of_lt_of_le hk h.size) (fun e => by have := ho k e.symm; omega)).trans (h.block k hk hp)⟩

/-- Some numbers were drawn. -/
def GivesReads (C : Nat) (w : World) (e : Ending) (w' : World) : Prop := ∃ (v : Value) (l : List Int), e = .returned v ∧ OwnInts w' w.heap.size v l ∧ l.length ≤ 6 ∧ Fr C w w' ∧ Cur w' C

set_option maxRecDepth 100000 in
set_option maxHeartbeats 2000000 in
theorem drawReads_any (C : Nat) (w : World) (hc : Cur w C) :
    Calls Try.prog 45 #[.pointer (some ⟨C, 0, none⟩)] w fun e w' => GivesReads C w e w' := by
  have HC : Hid (Cur w C) := hc
  have hCw : C < w.heap.size := hc.lt
  clear hc
  obtain ⟨i0, hi, hz0, hz1, hz2⟩ := info_parts info_int
  have hmx : 100000 ≤ maxLen := by decide
  go_enter Try.func45, Try.ntmps45
  go_wp2_with fail
  go_loopw [3, 4] (fun ov i wr => ∃ (l : List Int) (a : Option Addr) (c : Nat), i = .int .i64 (l.length : Int) ∧ l.length ≤ 6 ∧ ov = .slice a l.length c ∧ OwnInts wr w.heap.size ov l ∧ Fr C w wr ∧ Cur wr C) (fun _ i _ => 6 - (intOf i).toNat)
  case atStart => exact ⟨[], _, _, rfl, by simp, rfl, ownInts_new w, Fr.ofBelow (Bel.alloc _ _), HC.out.later (Bel.alloc _ _)⟩
  case round =>
    obtain ⟨l, oa, oc, rfl, hk, rfl, ho, hf, hcu⟩ := hrel
    have HO : Hid (OwnInts wr w.heap.size (.slice oa l.length oc) l) := ho
    have HF : Hid (Fr C w wr) := hf
    have HCU : Hid (Cur wr C) := hcu
    clear ho hf hcu
    go_wp2_with fail
    refine (below_any C 6 _ HCU.out).mono ?_
    rintro e w1 ⟨x, rfl, hx0, hx1, _, hf1, hc1⟩
    have hx2 := hx1 (by omega)
    have HF1 : Hid (Fr C w w1) := HF.out.trans hf1
    have HC1 : Hid (Cur w1 C) := hc1
    have HO1 : Hid (OwnInts w1 w.heap.size (.slice oa l.length oc) l) := HO.out.fr hf1 hCw
    clear hx1 hf1 hc1
    by_cases hlt : (l.length : Int) < x
    · go_wp2_with fail
      refine (drawNum_any C _ HC1.out).mono ?_
      rintro e w2 ⟨y, rfl, hf2, hc2⟩
      have HF2 : Hid (Fr C w w2) := HF1.out.trans hf2
      have HC2 : Hid (Cur w2 C) := hc2
      have HO2 : Hid (OwnInts w2 w.heap.size (.slice oa l.length oc) l) := HO1.out.fr hf2 hCw
      clear hf2 hc2
      have hs2 := HF2.out.size
      go_wp2_with (at_builtin; refine wpList_append_own _ rfl _ _ 27 rfl w.heap.size 3 i0 (.int .i64 0) 1 8 Try.underlying27 hi hz0 hz1 hz2 rfl (by decide) _ _ _ rfl (World.ownsRow.alloc HO2.out _) ⟨w2.heap.size, 0, none⟩ 1 1 [.int .i64 y] (by simp [Act.eval]) rfl (by have := cell_one_new w2 (.int .i64 y) 3; simpa using this) (by simp [Value.oneCell']) (by omega) (by omega) (by simp; omega) ?_; intro v' wa hown' hgrow _; obtain ⟨g', cap', rfl⟩ := ownsRow_succ hown'; have HOW : Hid (OwnInts wa w.heap.size (.slice (some ⟨g', 0, none⟩) (l.length + 1) cap') (l ++ [y])) := OwnInts.next hown'; have HFA : Hid (Fr C w wa) := (HF2.out.alloc _).grown hgrow (fun j ej => (World.ownsRow.lt HO2.out j ej).1); have HCA : Hid (Cur wa C) := (HC2.out.later (Bel.alloc w2 (.cells #[.int .i64 y] 3))).below hCw ((Below.refl w.heap.size _).grown hgrow (by simp; omega) (fun j ej => (World.ownsRow.lt HO2.out j ej).1)); clear hown' hgrow)
      go_roundw
      case rel => refine ⟨l ++ [y], some ⟨g', 0, none⟩, cap', by rw [List.length_append]; go_num, by rw [List.length_append]; simp; omega, by rw [List.length_append]; rfl, HOW.out, HFA.out, HCA.out⟩
      case measure => simp [intOf]; omega
    · go_wp2_with fail
      go_ret
      exact ⟨_, l, rfl, HO1.out, hk, HF1.out, HC1.out⟩

set_option maxHeartbeats 1000000 in
theorem drawFuel_any (p : Nat) (w : World) (hc : Cur w p) :
    Calls Try.prog 46 #[.pointer (some ⟨p, 0, none⟩)] w fun e w' => ∃ x : Int, e = .returned (.int .i64 x) ∧ -1 ≤ x ∧ x ≤ 5001 ∧ Fr p w w' ∧ Cur w' p := by
  go_enter Try.func46, Try.ntmps46
  go_wp2_with fail
  refine (below_any p 6 _ hc).mono ?_
  rintro e w1 ⟨x, rfl, hx0, hx1, _, hf1, hc1⟩
  have HC1 : Hid (Cur w1 p) := hc1
  have HF1 : Hid (Fr p w w1) := hf1
  have hp1 := hc1.lt
  clear hc1 hf1 hx1
  by_cases h0 : x = 0
  · subst h0
    go_wp2_with fail
    refine (below_any p 40 _ HC1.out).mono ?_
    rintro e w2 ⟨y, rfl, hy0, hy1, _, hf2, hc2⟩
    have hy2 := hy1 (by omega)
    go_wp2_with fail
    go_ret
    exact ⟨_, rfl, by omega, by omega, HF1.out.trans hf2, hc2⟩
  · have h0' : (x == 0) = false := by simp [h0]
    by_cases h1 : x = 1
    · subst h1
      go_wp2_with fail
      have hca := cells_at w1 3 [-1, 0, 5000, 5001]
      refine (pickint_any p w1.heap.size [-1, 0, 5000, 5001] 4 _ (HC1.out.later (Bel.alloc _ _)) (by omega) rfl (by omega) (by omega) hca).mono ?_
      rintro e w2 ⟨y, rfl, hy, hf2, hc2⟩
      have hy2 : -1 ≤ y ∧ y ≤ 5001 := by
        simp at hy
        omega
      clear hca hy
      go_wp2_with fail
      go_ret
      exact ⟨_, rfl, hy2.1, hy2.2, HF1.out.trans ((Fr.ofBelow (Bel.alloc _ _)).trans hf2), hc2⟩
    · have h1' : (x == 1) = false := by simp [h1]
      go_wp2_with fail
      go_ret
      exact ⟨_, rfl, by omega, by omega, HF1.out, HC1.out⟩

/-- A drawn program, what it reads and fuel are given. -/
def GivesDR (w : World) (e : Ending) (w' : World) : Prop := ∃ (v : Value) (F : FnD) (rv : Value) (l : List Int) (x : Int), e = .returned (.tuple #[v, rv, .int .i64 x]) ∧ FnAtLo w.heap.size w' v F ∧ 0 < F.blocks.length ∧ F.blocks.length ≤ 900 ∧ OwnInts w' w.heap.size rv l ∧ l.length ≤ 6 ∧ -1 ≤ x ∧ x ≤ 5001 ∧ Below w.heap.size w w'

set_option maxRecDepth 100000 in
set_option maxHeartbeats 16000000 in
theorem drawAll_any (a : Option Addr) (len cap : Nat) (zs : List Int) (w : World) (hr : IsRow .u8 w a len cap zs) :
    Calls Try.prog 30 #[.slice a len cap] w fun e w' => GivesDR w e w' := by
  have HR : Hid (IsRow .u8 w a len cap zs) := hr
  clear hr
  go_enter Try.func30, Try.ntmps30
  go_wp2_with fail
  obtain ⟨wA, hwA⟩ : ∃ W, w.alloc (.cells #[.slice none 0 0, .int .i64 0] 26) = W := ⟨_, rfl⟩
  have bA : Below w.heap.size w wA := by rw [← hwA]; exact Bel.alloc _ _
  have xA : wA.heap[w.heap.size]? = some (.cells #[.slice none 0 0, .int .i64 0] 26 (0, 0)) := by rw [← hwA]; exact World.alloc_heap_new _ _
  have sA : wA.heap.size = w.heap.size + 1 := by rw [← hwA]; simp
  try rw [hwA]
  clear hwA
  refine (new_any a len cap zs _ (HR.out.keep (p := w.heap.size) (fun x e c => Nat.ne_of_lt (HR.out.lt x e c)) (Fr.ofBelow bA))).mono ?_
  rintro e w1 ⟨rfl, b1, hc1, _⟩
  obtain ⟨C, hC⟩ : ∃ x, wA.heap.size = x := ⟨_, rfl⟩
  rw [hC] at hc1 b1 ⊢
  have hRC : w.heap.size < C := by omega
  have X1 : Hid (w1.heap[w.heap.size]? = some (.cells #[.slice none 0 0, .int .i64 0] 26 (0, 0))) := (b1.block _ hRC).trans xA
  have B1 : Hid (Below w.heap.size w w1) := bA.trans (b1.mono (by omega))
  have C1 : Hid (Cur w1 C) := hc1
  have HCR : Hid (C = w.heap.size + 1) := by show C = w.heap.size + 1; omega
  clear b1 hc1 bA xA sA hC
  go_wp2_with fail
  refine (draw_any C _ C1.out).mono ?_
  rintro e w2 ⟨v, F, rfl, hF, hn0, hn9, b2, hc2⟩
  obtain ⟨n, hn⟩ : ∃ n, F.blocks.length = n := ⟨_, rfl⟩
  have HN : Hid (F.blocks.length = n) := hn
  obtain ⟨ba, bcap, vals, rfl⟩ := hF.out hn
  rw [hn] at hn0 hn9
  have X2 : w2.heap[w.heap.size]? = some (.cells #[.slice none 0 0, .int .i64 0] 26 (0, 0)) := (b2.block _ hRC).trans X1.out
  have B2 : Below w.heap.size w w2 := B1.out.trans (b2.mono (by omega))
  obtain ⟨w3, hw3⟩ : ∃ W, w2.alloc (.cells #[.slice ba n bcap, .int .i64 vals] 26) = W := ⟨_, rfl⟩
  have b3 : Below w2.heap.size w2 w3 := by rw [← hw3]; exact Bel.alloc _ _
  have x3 : w3.heap[w2.heap.size]? = some (.cells #[.slice ba n bcap, .int .i64 vals] 26 (0, 0)) := by rw [← hw3]; exact World.alloc_heap_new _ _
  have hC2 : C < w2.heap.size := hc2.lt
  have HF3 : Hid (FnAtLo (C + 1) w3 (.agg #[.slice ba n bcap, .int .i64 vals]) F) := hF.keep (Keeps.of_below b3 _)
  have X3 : Hid (w3.heap[w.heap.size]? = some (.cells #[.slice none 0 0, .int .i64 0] 26 (0, 0))) := (b3.block _ (by omega)).trans X2
  have B3 : Hid (Below w.heap.size w w3) := B2.trans (b3.mono (by omega))
  have C3 : Hid (Cur w3 C) := hc2.later b3
  clear hn hF b2 hc2 X1 B1 C1 X2 B2
  go_wp2_with fail
  try rw [hw3]
  clear hw3
  obtain ⟨FB, hFB⟩ : ∃ x, w2.heap.size = x := ⟨_, rfl⟩
  rw [hFB] at b3 x3 hC2
  try rw [hFB]
  clear hFB b3
  have FB3 : Hid (w3.heap[FB]? = some (.cells #[.slice ba n bcap, .int .i64 vals] 26 (0, 0))) := x3
  have hF3 : FB < w3.heap.size := (Array.getElem?_eq_some_iff.1 x3).1
  have hR3 : w.heap.size < w3.heap.size := (Array.getElem?_eq_some_iff.1 X3.out).1
  have hFC : FB ≠ C := by omega
  have hRC' : w.heap.size ≠ C := by omega
  have hRF : w.heap.size ≠ FB := by omega
  clear x3
  refine (drawReads_any C _ C3.out).mono ?_
  rintro e w4 ⟨rv, l, rfl, ol, hl6, hf4, hc4⟩
  have HOL : Hid (OwnInts w4 w3.heap.size rv l) := ol
  have HF4 : Hid (Fr C w3 w4) := hf4
  have HC4 : Hid (Cur w4 C) := hc4
  have x4 := (hf4.block FB hF3 hFC).trans FB3.out
  have c40 : w4.cell? ⟨FB, 0, none⟩ = some (.slice ba n bcap) := by simp [World.cell?, x4]
  have c41 : w4.cell? ⟨FB, 1, none⟩ = some (.int .i64 vals) := by simp [World.cell?, x4]
  obtain ⟨ra, rc, rfl⟩ : ∃ a c, rv = .slice a l.length c := by
    obtain ⟨a, c, e, _⟩ := ol.row
    exact ⟨a, c, e⟩
  obtain ⟨ln, HLN⟩ : ∃ q, Hid (l.length = q) := ⟨_, rfl⟩
  rw [HLN.out] at HOL hl6 ⊢
  clear ol hf4 hc4 x4
  go_wp2_with fail
  go_region_held3 (fun w' => w'.cell? ⟨FB, 0, none⟩ = some (.slice ba n bcap) ∧ w'.cell? ⟨FB, 1, none⟩ = some (.int .i64 vals)) (first | exact ⟨(World.cell?_setCell_far _ _ _ _ hRF).trans ((World.cell?_setCell_far _ _ _ _ hRF).trans c50), (World.cell?_setCell_far _ _ _ _ hRF).trans ((World.cell?_setCell_far _ _ _ _ hRF).trans c51)⟩ | exact ⟨c50, c51⟩ | exact ⟨c40, c41⟩ | go_keep)
    (first
      | (go_at_call 46; refine (drawFuel_any C _ (by exact HC4.out)).mono ?_; rintro e w5 ⟨y, rfl, hy0, hy1, hf, hc⟩; have F5 : Hid (Fr C w3 w5) := HF4.out.trans ⟨hf.os, hf.tape, hf.output, hf.size, hf.block⟩; have OL5 : Hid (OwnInts w5 w3.heap.size (.slice ra ln rc) l) := HOL.out.fr ⟨hf.os, hf.tape, hf.output, hf.size, hf.block⟩ (by omega); have c50 : w5.cell? ⟨FB, 0, none⟩ = some (.slice ba n bcap) := (F5.out.cell (x := ⟨FB, 0, none⟩) hF3 hFC).trans (by simp [World.cell?, FB3.out]); have c51 : w5.cell? ⟨FB, 1, none⟩ = some (.int .i64 vals) := (F5.out.cell (x := ⟨FB, 1, none⟩) hF3 hFC).trans (by simp [World.cell?, FB3.out]); have y0 : w5.cell? ⟨w.heap.size, 0, none⟩ = some (.slice none 0 0) := (F5.out.cell (x := ⟨w.heap.size, 0, none⟩) hR3 hRC').trans (by simp [World.cell?, X3.out]); have y1 : w5.cell? ⟨w.heap.size, 1, none⟩ = some (.int .i64 0) := (F5.out.cell (x := ⟨w.heap.size, 1, none⟩) hR3 hRC').trans (by simp [World.cell?, X3.out]); have u0 : w5.frozen? ⟨w.heap.size, 0, none⟩ = false := (F5.out.frozen (x := ⟨w.heap.size, 0, none⟩) hR3 hRC').trans (by simp [World.frozen?, X3.out]); have u1 : w5.frozen? ⟨w.heap.size, 1, none⟩ = false := (F5.out.frozen (x := ⟨w.heap.size, 1, none⟩) hR3 hRC').trans (by simp [World.frozen?, X3.out]); clear hf hc))
  have x5 : w5.heap[w.heap.size]? = some (.cells #[.slice none 0 0, .int .i64 0] 26 (0, 0)) := (F5.out.block _ hR3 hRC').trans X3.out
  have HB6 : Below w.heap.size w w5 := B3.out.trans (F5.out.below (by omega) (by omega))
  obtain ⟨r0, r1, hF6, hB6⟩ := box_end rfl x5 (FnAtLo.low (by have := HCR.out; omega) (HF3.out.fr F5.out)) HB6
  have O7 : OwnInts ((w5.setCell ⟨w.heap.size, 0, none⟩ (.slice ba n bcap)).setCell ⟨w.heap.size, 1, none⟩ (.int .i64 vals)) w3.heap.size (.slice ra ln rc) l := own_far (own_far OL5.out ⟨_, x5⟩ (by decide)) ⟨_, heap_setCell_same _ _ _ _ _ _ x5⟩ (by decide)
  have HF7 : Hid (FnAtLo w.heap.size ((w5.setCell ⟨w.heap.size, 0, none⟩ (.slice ba n bcap)).setCell ⟨w.heap.size, 1, none⟩ (.int .i64 vals)) (.agg #[.slice ba n bcap, .int .i64 vals]) F) := hF6
  have HB7 : Hid (Below w.heap.size w ((w5.setCell ⟨w.heap.size, 0, none⟩ (.slice ba n bcap)).setCell ⟨w.heap.size, 1, none⟩ (.int .i64 vals))) := hB6
  have HO7 : Hid (OwnInts ((w5.setCell ⟨w.heap.size, 0, none⟩ (.slice ba n bcap)).setCell ⟨w.heap.size, 1, none⟩ (.int .i64 vals)) w.heap.size (.slice ra ln rc) l) := O7.low (by omega)
  clear hF6 hB6 O7 x5 HB6
  simp only [Exit.then]
  go_at_K
  go_wp2_with fail
  refine bodyPost_ret (v := .tuple #[.agg #[.slice ba n bcap, .int .i64 vals], .slice ra ln rc, .int .i64 y]) (by simp [results, Try.results30, go_sem, r0, r1]) rfl ?_
  exact ⟨_, F, _, l, y, rfl, HF7.out, by rw [HN.out]; exact hn0, by rw [HN.out]; exact hn9, HO7.out, by rw [HLN.out]; exact hl6, hy0, hy1, HB7.out⟩

set_option maxRecDepth 100000 in
set_option maxHeartbeats 16000000 in
theorem drawRun_any (a : Option Addr) (len cap : Nat) (zs : List Int) (w : World) (hr : IsRow .u8 w a len cap zs) :
    Calls Try.prog 10 #[.slice a len cap] w fun e w' => GivesDR w e w' := by
  have HR : Hid (IsRow .u8 w a len cap zs) := hr
  clear hr
  go_enter Try.func10, Try.ntmps10
  go_wp2_with fail
  obtain ⟨wA, hwA⟩ : ∃ W, w.alloc (.cells #[.slice none 0 0, .int .i64 0] 26) = W := ⟨_, rfl⟩
  have bA : Below w.heap.size w wA := by rw [← hwA]; exact Bel.alloc _ _
  have xA : wA.heap[w.heap.size]? = some (.cells #[.slice none 0 0, .int .i64 0] 26 (0, 0)) := by rw [← hwA]; exact World.alloc_heap_new _ _
  have sA : wA.heap.size = w.heap.size + 1 := by rw [← hwA]; simp
  try rw [hwA]
  clear hwA
  obtain ⟨R, hR⟩ : ∃ x, w.heap.size = x := ⟨_, rfl⟩
  rw [hR] at xA sA ⊢
  refine (drawAll_any a len cap zs _ (HR.out.keep (p := w.heap.size) (fun x e c => Nat.ne_of_lt (HR.out.lt x e c)) (Fr.ofBelow bA))).mono ?_
  rintro e w2 ⟨v, F, rv, l, y, rfl, hF, hn0, hn9, ol, hl6, hy0, hy1, b2⟩
  obtain ⟨n, hn⟩ : ∃ n, F.blocks.length = n := ⟨_, rfl⟩
  have HN : Hid (F.blocks.length = n) := hn
  obtain ⟨ba, bcap, vals, rfl⟩ := hF.out hn
  obtain ⟨ra, rc, rfl⟩ : ∃ a c, rv = .slice a l.length c := by
    obtain ⟨a, c, e, _⟩ := ol.row
    exact ⟨a, c, e⟩
  obtain ⟨ln, HLN⟩ : ∃ q, Hid (l.length = q) := ⟨_, rfl⟩
  rw [HLN.out] at ol hl6 ⊢
  rw [hn] at hn0 hn9
  rw [sA] at hF
  have X2 : w2.heap[R]? = some (.cells #[.slice none 0 0, .int .i64 0] 26 (0, 0)) := (b2.block _ (by omega)).trans xA
  have B2 : Below w.heap.size w w2 := bA.trans (b2.mono (by omega))
  obtain ⟨w3, hw3⟩ : ∃ W, w2.alloc (.cells #[.slice ba n bcap, .int .i64 vals] 26) = W := ⟨_, rfl⟩
  have b3 : Below w2.heap.size w2 w3 := by rw [← hw3]; exact Bel.alloc _ _
  have x3 : w3.heap[w2.heap.size]? = some (.cells #[.slice ba n bcap, .int .i64 vals] 26 (0, 0)) := by rw [← hw3]; exact World.alloc_heap_new _ _
  have hR2 : R < w2.heap.size := (Array.getElem?_eq_some_iff.1 X2).1
  have HF3 : Hid (FnAtLo (R + 1) w3 (.agg #[.slice ba n bcap, .int .i64 vals]) F) := hF.keep (Keeps.of_below b3 _)
  have x3R : w3.heap[R]? = some (.cells #[.slice none 0 0, .int .i64 0] 26 (0, 0)) := (b3.block _ hR2).trans X2
  have X3 : Hid (w3.heap[R]? = some (.cells #[.slice none 0 0, .int .i64 0] 26 (0, 0))) := x3R
  have B3 : Hid (Below w.heap.size w w3) := B2.trans (b3.mono (by omega))
  have HO3 : Hid (OwnInts w3 wA.heap.size (.slice ra ln rc) l) := ol.keep b3
  have c30 : w3.cell? ⟨w2.heap.size, 0, none⟩ = some (.slice ba n bcap) := by simp [World.cell?, x3]
  have c31 : w3.cell? ⟨w2.heap.size, 1, none⟩ = some (.int .i64 vals) := by simp [World.cell?, x3]
  have y0 : w3.cell? ⟨R, 0, none⟩ = some (.slice none 0 0) := by simp [World.cell?, x3R]
  have y1 : w3.cell? ⟨R, 1, none⟩ = some (.int .i64 0) := by simp [World.cell?, x3R]
  have u0 : w3.frozen? ⟨R, 0, none⟩ = false := by simp [World.frozen?, x3R]
  have u1 : w3.frozen? ⟨R, 1, none⟩ = false := by simp [World.frozen?, x3R]
  clear hn hF b2 X2 B2 x3 x3R bA xA ol b3
  go_wp2_with fail
  try rw [hw3]
  clear hw3
  obtain ⟨r0, r1, hF4, hB4⟩ := box_end hR.symm X3.out HF3.out B3.out
  have O4 : OwnInts ((w3.setCell ⟨R, 0, none⟩ (.slice ba n bcap)).setCell ⟨R, 1, none⟩ (.int .i64 vals)) wA.heap.size (.slice ra ln rc) l := own_far (own_far HO3.out ⟨_, X3.out⟩ (by decide)) ⟨_, heap_setCell_same _ _ _ _ _ _ X3.out⟩ (by decide)
  have HO4 : Hid (OwnInts ((w3.setCell ⟨R, 0, none⟩ (.slice ba n bcap)).setCell ⟨R, 1, none⟩ (.int .i64 vals)) w.heap.size (.slice ra ln rc) l) := O4.low (by omega)
  have HF4 : Hid (FnAtLo w.heap.size ((w3.setCell ⟨R, 0, none⟩ (.slice ba n bcap)).setCell ⟨R, 1, none⟩ (.int .i64 vals)) (.agg #[.slice ba n bcap, .int .i64 vals]) F) := hF4
  have HB4 : Hid (Below w.heap.size w ((w3.setCell ⟨R, 0, none⟩ (.slice ba n bcap)).setCell ⟨R, 1, none⟩ (.int .i64 vals))) := hB4
  clear hF4 hB4 O4
  go_wp2_with fail
  refine bodyPost_ret (v := .tuple #[.agg #[.slice ba n bcap, .int .i64 vals], .slice ra ln rc, .int .i64 y]) (by simp [results, Try.results10, go_sem, r0, r1]) rfl ?_
  exact ⟨_, F, _, l, y, rfl, HF4.out, by rw [HN.out]; exact hn0, by rw [HN.out]; exact hn9, HO4.out, by rw [HLN.out]; exact hl6, hy0, hy1, HB4.out⟩

set_option maxRecDepth 100000 in
set_option maxHeartbeats 16000000 in
theorem drawPath_any (a : Option Addr) (len cap : Nat) (zs : List Int) (w : World) (hr : IsRow .u8 w a len cap zs) :
    Calls Try.prog 15 #[.slice a len cap] w fun e w' => GivesDR w e w' := by
  have HR : Hid (IsRow .u8 w a len cap zs) := hr
  clear hr
  go_enter Try.func15, Try.ntmps15
  go_wp2_with fail
  obtain ⟨wA, hwA⟩ : ∃ W, w.alloc (.cells #[.slice none 0 0, .int .i64 0] 26) = W := ⟨_, rfl⟩
  have bA : Below w.heap.size w wA := by rw [← hwA]; exact Bel.alloc _ _
  have xA : wA.heap[w.heap.size]? = some (.cells #[.slice none 0 0, .int .i64 0] 26 (0, 0)) := by rw [← hwA]; exact World.alloc_heap_new _ _
  have sA : wA.heap.size = w.heap.size + 1 := by rw [← hwA]; simp
  try rw [hwA]
  clear hwA
  obtain ⟨R, hR⟩ : ∃ x, w.heap.size = x := ⟨_, rfl⟩
  rw [hR] at xA sA ⊢
  refine (drawAll_any a len cap zs _ (HR.out.keep (p := w.heap.size) (fun x e c => Nat.ne_of_lt (HR.out.lt x e c)) (Fr.ofBelow bA))).mono ?_
  rintro e w2 ⟨v, F, rv, l, y, rfl, hF, hn0, hn9, ol, hl6, hy0, hy1, b2⟩
  obtain ⟨n, hn⟩ : ∃ n, F.blocks.length = n := ⟨_, rfl⟩
  have HN : Hid (F.blocks.length = n) := hn
  obtain ⟨ba, bcap, vals, rfl⟩ := hF.out hn
  obtain ⟨ra, rc, rfl⟩ : ∃ a c, rv = .slice a l.length c := by
    obtain ⟨a, c, e, _⟩ := ol.row
    exact ⟨a, c, e⟩
  obtain ⟨ln, HLN⟩ : ∃ q, Hid (l.length = q) := ⟨_, rfl⟩
  rw [HLN.out] at ol hl6 ⊢
  rw [hn] at hn0 hn9
  rw [sA] at hF
  have X2 : w2.heap[R]? = some (.cells #[.slice none 0 0, .int .i64 0] 26 (0, 0)) := (b2.block _ (by omega)).trans xA
  have B2 : Below w.heap.size w w2 := bA.trans (b2.mono (by omega))
  obtain ⟨w3, hw3⟩ : ∃ W, w2.alloc (.cells #[.slice ba n bcap, .int .i64 vals] 26) = W := ⟨_, rfl⟩
  have b3 : Below w2.heap.size w2 w3 := by rw [← hw3]; exact Bel.alloc _ _
  have x3 : w3.heap[w2.heap.size]? = some (.cells #[.slice ba n bcap, .int .i64 vals] 26 (0, 0)) := by rw [← hw3]; exact World.alloc_heap_new _ _
  have hR2 : R < w2.heap.size := (Array.getElem?_eq_some_iff.1 X2).1
  have HF3 : Hid (FnAtLo (R + 1) w3 (.agg #[.slice ba n bcap, .int .i64 vals]) F) := hF.keep (Keeps.of_below b3 _)
  have x3R : w3.heap[R]? = some (.cells #[.slice none 0 0, .int .i64 0] 26 (0, 0)) := (b3.block _ hR2).trans X2
  have X3 : Hid (w3.heap[R]? = some (.cells #[.slice none 0 0, .int .i64 0] 26 (0, 0))) := x3R
  have B3 : Hid (Below w.heap.size w w3) := B2.trans (b3.mono (by omega))
  have HO3 : Hid (OwnInts w3 wA.heap.size (.slice ra ln rc) l) := ol.keep b3
  have c30 : w3.cell? ⟨w2.heap.size, 0, none⟩ = some (.slice ba n bcap) := by simp [World.cell?, x3]
  have c31 : w3.cell? ⟨w2.heap.size, 1, none⟩ = some (.int .i64 vals) := by simp [World.cell?, x3]
  have y0 : w3.cell? ⟨R, 0, none⟩ = some (.slice none 0 0) := by simp [World.cell?, x3R]
  have y1 : w3.cell? ⟨R, 1, none⟩ = some (.int .i64 0) := by simp [World.cell?, x3R]
  have u0 : w3.frozen? ⟨R, 0, none⟩ = false := by simp [World.frozen?, x3R]
  have u1 : w3.frozen? ⟨R, 1, none⟩ = false := by simp [World.frozen?, x3R]
  clear hn hF b2 X2 B2 x3 x3R bA xA ol b3
  go_wp2_with fail
  try rw [hw3]
  clear hw3
  obtain ⟨r0, r1, hF4, hB4⟩ := box_end hR.symm X3.out HF3.out B3.out
  have O4 : OwnInts ((w3.setCell ⟨R, 0, none⟩ (.slice ba n bcap)).setCell ⟨R, 1, none⟩ (.int .i64 vals)) wA.heap.size (.slice ra ln rc) l := own_far (own_far HO3.out ⟨_, X3.out⟩ (by decide)) ⟨_, heap_setCell_same _ _ _ _ _ _ X3.out⟩ (by decide)
  have HO4 : Hid (OwnInts ((w3.setCell ⟨R, 0, none⟩ (.slice ba n bcap)).setCell ⟨R, 1, none⟩ (.int .i64 vals)) w.heap.size (.slice ra ln rc) l) := O4.low (by omega)
  have HF4 : Hid (FnAtLo w.heap.size ((w3.setCell ⟨R, 0, none⟩ (.slice ba n bcap)).setCell ⟨R, 1, none⟩ (.int .i64 vals)) (.agg #[.slice ba n bcap, .int .i64 vals]) F) := hF4
  have HB4 : Hid (Below w.heap.size w ((w3.setCell ⟨R, 0, none⟩ (.slice ba n bcap)).setCell ⟨R, 1, none⟩ (.int .i64 vals))) := hB4
  clear hF4 hB4 O4
  go_wp2_with fail
  refine bodyPost_ret (v := .tuple #[.agg #[.slice ba n bcap, .int .i64 vals], .slice ra ln rc, .int .i64 y]) (by simp [results, Try.results15, go_sem, r0, r1]) rfl ?_
  exact ⟨_, F, _, l, y, rfl, HF4.out, by rw [HN.out]; exact hn0, by rw [HN.out]; exact hn9, HO4.out, by rw [HLN.out]; exact hl6, hy0, hy1, HB4.out⟩
end Go.Proofs.Ytkpddakmcnknjaa

namespace Go.Proofs.Ytkpddakmcnknjaa
open Go.ChangeShapes Go.WideShapes Go.ChangeAt Go.RowKit
set_option linter.unusedVariables false

theorem big_any (a : Option Addr) (len cap : Nat) (w : World) : Calls Try.prog 9 #[.slice a len cap] w fun e w' => ∃ b : Bool, e = .returned (.bool b) ∧ w' = w := by
  go_enter Try.func9, Try.ntmps9
  go_wp2
  go_ret
  exact ⟨_, rfl, rfl⟩

set_option maxHeartbeats 1000000 in
theorem within_any (v : Value) (l : List Int) (x : Int) (w : World) (hl : IntsAt w v l) :
    Calls Try.prog 18 #[v, .int .i64 x] w fun e w' => e = .returned (.bool (decide (x ∈ l))) ∧ w' = w := by
  obtain ⟨a, cap, rfl, hm, hc⟩ := hl
  obtain ⟨n, HN⟩ : ∃ n, Hid (l.length = n) := ⟨_, rfl⟩
  rw [HN.out] at hm hc ⊢
  have HC : Hid (0 < n → ∃ b off, a = some ⟨b, off, none⟩ ∧ ∀ i, i < n → w.cell? ⟨b, off + i, none⟩ = some (.int .i64 (l.getD i 0))) := hc
  clear hc
  go_enter Try.func18, Try.ntmps18
  go_wp2
  go_loop [5] (fun i => ∃ k : Nat, k ≤ n ∧ i = .int .i64 k ∧ ∀ j, j < k → l.getD j 0 ≠ x) (fun i => n - (intOf i).toNat)
  case atStart => exact ⟨0, Nat.zero_le _, rfl, fun j hj => absurd hj (by omega)⟩
  case round =>
    obtain ⟨k, hk, rfl, hd⟩ := hrel
    have HD : Hid (∀ j, j < k → l.getD j 0 ≠ x) := hd
    clear hd
    by_cases hlt2 : (k : Int) < (n : Int)
    · obtain ⟨b, off, rfl, hc1⟩ := HC.out (by omega)
      have q1 := hc1 k (by omega)
      clear hc1
      obtain ⟨y, HY⟩ : ∃ y, Hid (l.getD k 0 = y) := ⟨_, rfl⟩
      rw [HY.out] at q1
      by_cases hyx : y = x
      · subst hyx
        go_wp2
        go_ret
        have hkl : k < l.length := by have := HN.out; omega
        have e : l[k] = y := by have := HY.out; simpa [List.getD, hkl] using this
        have hmem : y ∈ l := by rw [← e]; exact List.getElem_mem hkl
        rw [decide_eq_true hmem]
        exact ⟨rfl, rfl⟩
      · have hb : (y == x) = false := by simp [hyx]
        go_wp2
        go_round
        case rel =>
          refine ⟨k + 1, by omega, by go_num, fun j hj => ?_⟩
          by_cases hjk : j = k
          · subst hjk
            rw [HY.out]
            exact hyx
          · exact HD.out j (by omega)
        case measure => simp [intOf]; omega
    · have hkn : k = n := by omega
      subst hkn
      go_wp2
      go_ret
      have hno : ¬ x ∈ l := fun hx => by
        obtain ⟨j, hj, e⟩ := List.getElem_of_mem hx
        exact HD.out j (by have := HN.out; omega) (by simp [List.getD, hj, e])
      rw [decide_eq_false hno]
      exact ⟨rfl, rfl⟩
end Go.Proofs.Ytkpddakmcnknjaa

namespace Go.Proofs.Ytkpddakmcnknjaa
open Go.ChangeShapes Go.WideShapes Go.ChangeAt Go.RowKit Go.Shelf
set_option linter.unusedVariables false

theorem OwnInts.shape {w : World} {lo : Nat} {v : Value} {l : List Int} (h : OwnInts w lo v l) : ∃ a cap, v = .slice a l.length cap ∧ l.length ≤ cap ∧ cap ≤ 9223372036854775807 ∧ (0 < l.length → ∃ g, a = some ⟨g, 0, none⟩ ∧ ∀ i, i < l.length → w.cell? ⟨g, i, none⟩ = some (.int .i64 (l.getD i 0))) := by
  have hmm : maxLen ≤ 9223372036854775807 := by decide
  obtain ⟨h0, h1⟩ := id h
  rcases h1 with ⟨rfl, hz⟩ | ⟨g, cap, cur, rfl, hlo, hg, hc1, hc2, hc3, hc4⟩
  · exact ⟨none, 0, by rw [hz], by omega, by omega, fun hp => absurd hp (by omega)⟩
  · exact ⟨some ⟨g, 0, none⟩, cap, rfl, hc1, by omega, fun hp => ⟨g, rfl, fun i hi => OwnInts.cellAt h hi⟩⟩
theorem OwnInts.readsL {w : World} {lo : Nat} {v : Value} {l : List Int} (h : OwnInts w lo v l) : ReadsAt w v l := by
  obtain ⟨a, cap, e, h1, h2, h3⟩ := h.shape
  refine ⟨a, cap, e, h1, h2, fun hp => ?_⟩
  obtain ⟨g, ea, hc⟩ := h3 hp
  exact ⟨g, 0, ea, fun i hi => by rw [Nat.zero_add]; exact hc i hi⟩
/-- The first k of a list in memory. -/
theorem IntsAt.first {w : World} {a : Option Addr} {n cap k : Nat} {l : List Int} (h : IntsAt w (.slice a n cap) l) (hk : k ≤ n) : IntsAt w (.slice a k cap) (l.take k) := by
  obtain ⟨a0, cap0, e, hm, hc⟩ := h
  simp at e
  obtain ⟨rfl, rfl, rfl⟩ := e
  have hl : (l.take k).length = k := by rw [List.length_take]; omega
  refine ⟨a, cap, by rw [hl], by rw [hl]; omega, fun hp => ?_⟩
  rw [hl] at hp
  obtain ⟨b, off, ea, hd⟩ := hc (by omega)
  refine ⟨b, off, ea, fun i hi => ?_⟩
  rw [hl] at hi
  have e : (l.take k).getD i 0 = l.getD i 0 := by
    rw [List.getD_eq_getElem?_getD, List.getD_eq_getElem?_getD, List.getElem?_take]
    simp [hi]
  rw [e]
  exact hd i (by omega)
theorem prefix_take {a b : List Int} (h : a <+: b) : a.length ≤ b.length ∧ b.take a.length = a := by
  obtain ⟨t, rfl⟩ := h
  simp
theorem runOf_cases (F : FnD) (rd : List Int) (fu : Int) : (FnShape F ∧ 0 ≤ fu) ∨ (¬ (FnShape F ∧ 0 ≤ fu) ∧ runOf F rd fu = ([], 3, 0)) := by
  by_cases h : FnShape F ∧ 0 ≤ fu
  · exact .inl h
  · exact .inr ⟨h, if_neg h⟩
theorem runOf_good {F : FnD} (hS : FnShape F) {fu : Int} (h : 0 ≤ fu) (rd : List Int) : runOf F rd fu = ((runDo wordV F rd fu).2.2.told, (runDo wordV F rd fu).1, (runDo wordV F rd fu).2.1) := if_pos ⟨hS, h⟩
theorem pathOf_good {F : FnD} (hS : FnShape F) {fu : Int} (h : 0 ≤ fu) (rd : List Int) : pathOf F rd fu = (runDo wordV F rd fu).2.2.path := if_pos ⟨hS, h⟩
theorem runOf_how {F : FnD} (hS : FnShape F) {fu : Int} (h : 0 ≤ fu) (rd : List Int) : (runOf F rd fu).2.1 = 0 ∨ (runOf F rd fu).2.1 = 1 ∨ (runOf F rd fu).2.1 = 2 := by
  rw [runOf_good hS h]
  exact runDo_how wordV F rd fu
theorem runOf_begin {F : FnD} (hS : FnShape F) {fu fu2 : Int} (h : 0 ≤ fu) (h2 : fu ≤ fu2) (rd : List Int) : (runOf F rd fu).1 <+: (runOf F rd fu2).1 := by
  rw [runOf_good hS h, runOf_good hS (by omega)]
  exact runDo_begin wordV F rd h h2
theorem runOf_more {F : FnD} (hS : FnShape F) {fu fu2 : Int} (h : 0 ≤ fu) (h2 : fu ≤ fu2) (rd : List Int) (h1 : (runOf F rd fu).2.1 ≠ 1) : runOf F rd fu2 = runOf F rd fu := by
  rw [runOf_good hS h] at h1 ⊢
  rw [runOf_good hS (by omega)]
  obtain ⟨e1, e2, e3⟩ := (runDo_more wordV F rd h h2).1 h1
  rw [e1, e2, e3]
theorem runOf_noughts (F : FnD) (rd : List Int) (fu : Int) : runOf F (rd ++ [0, 0]) fu = runOf F rd fu := by
  unfold runOf
  by_cases h : FnShape F ∧ 0 ≤ fu
  · rw [if_pos h, if_pos h]
    obtain ⟨e1, e2, e3⟩ := runDo_noughts wordV F rd fu 2
    have e : List.replicate 2 (0 : Int) = [0, 0] := rfl
    rw [e] at e1 e2 e3
    rw [e1, e2, e3]
  · rw [if_neg h, if_neg h]
theorem half_ok {x : Int} (h : 0 ≤ x) (h2 : x ≤ 5001) : IntKind.i64.wrap (x.tdiv 2) = x.tdiv 2 ∧ 0 ≤ x.tdiv 2 ∧ x.tdiv 2 ≤ x := by
  have e : x.tdiv 2 = x / 2 := Int.tdiv_eq_ediv_of_nonneg h
  rw [e]
  refine ⟨?_, by omega, by omega⟩
  rw [IntKind.wrap_i64]
  omega

/-- A list is copied behind an empty one. -/
theorem append_copy {lo g rn rcap : Nat} {w : World} {ra : Option Addr} {rd : List Int} (hh : w.heap[g]? = some (.cells #[] 3 (0, 0))) (hg : lo ≤ g) (hr : ReadsAt w (.slice ra rn rcap) rd) (hlo : lo ≤ w.heap.size) (hrn : rd.length = rn) (hrl : rn ≤ 2000000) {ty : TypeId} :
    ∃ v w2, (Builtin.append_ #[27, 27] ty #[.slice (some ⟨g, 0, none⟩) 0 0, .slice ra rn rcap]).run Try.prog w = .ok v w2 ∧ Below w.heap.size w w2 ∧ OwnInts w2 lo v rd := by
  obtain ⟨i0, hi, hz0, hz1, hz2⟩ := info_parts info_int
  by_cases h0 : rn = 0
  · subst h0
    have hnil : rd = [] := List.eq_nil_of_length_eq_zero hrn
    subst hnil
    refine ⟨.slice (some ⟨g, 0, none⟩) 0 0, w, ?_, Below.refl _ _, rfl, .inr ⟨g, 0, #[], rfl, hg, hh, Nat.le_refl _, Nat.zero_le _, rfl, rfl⟩⟩
    cases ra with
    | none => simp [Builtin.append_, run_underlying Try.underlying27, sizeOf, typeInfo, hi, Builtin.lenOf, Builtin.firstCells, go_sem]
    | some ad => simp [Builtin.append_, run_underlying Try.underlying27, sizeOf, typeInfo, hi, Builtin.lenOf, Builtin.firstCells, go_sem]
  · obtain ⟨a, cap, e, h1, h2, h3⟩ := hr
    rw [hrn] at e h3
    obtain ⟨b, off, rfl, hc⟩ := h3 (by omega)
    simp at e
    obtain ⟨rfl, rfl⟩ := e
    have hmx : 100000000 ≤ maxLen := by decide
    obtain ⟨v', w', hrun, hown, hgr⟩ := run_append_arg_grows (P := Try.prog) w 27 ty 3 i0 (.int .i64 0) 1 8 Try.underlying27 hi hz0 hz1 hz2 rfl (by decide) ⟨g, 0, none⟩ 0 0 [] rfl (fun j u h => by simp at h) ⟨b, off, none⟩ rn rcap (rd.map (fun x => Value.int .i64 x)) (by simp [hrn]) (fun j u hj => by
      have hjl : j < rn := by
        have := (List.getElem?_eq_some_iff.1 hj).1
        simpa [hrn] using this
      have e : (⟨b, off, none⟩ : Addr).add j = ⟨b, off + j, none⟩ := by unfold Addr.add; split <;> simp_all
      rw [e, hc j hjl]
      have hjr : j < rd.length := by omega
      rw [List.getElem?_map] at hj
      simp [List.getD, hjr] at hj ⊢
      exact hj) (by omega) (by omega) (by omega)
    refine ⟨v', w', hrun, (Below.refl w.heap.size w).grown hgr (Nat.le_refl _) (fun j ej => by cases ej), ?_⟩
    unfold OwnInts
    rw [hrn]
    rw [Nat.zero_add, List.nil_append] at hown
    exact ownsRow_low hown hlo
theorem wp_copy {o : Oper} {a : Act} {w : World} {K : Act → World → Prop} {Q : Exit → Act → World → Prop} (s x : Operand) (hop : o.op = Op.call { callee := Callee.builtin Builtin.append, args := #[s, x], argTypes := #[27, 27] })
    (lo g rn rcap : Nat) (ra : Option Addr) (rd : List Int) (hs : a.eval s = .slice (some ⟨g, 0, none⟩) 0 0) (hx : a.eval x = .slice ra rn rcap) (hh : w.heap[g]? = some (.cells #[] 3 (0, 0))) (hg : lo ≤ g) (hr : ReadsAt w (.slice ra rn rcap) rd) (hlo : lo ≤ w.heap.size) (hrn : rd.length = rn) (hrl : rn ≤ 2000000)
    (hK : ∀ v w2, Below w.heap.size w w2 → OwnInts w2 lo v rd → K (a.put o.dst v) w2) : Oper.wp Try.prog o a w K Q := by
  obtain ⟨v, w2, hrun, hb, hown⟩ := append_copy hh hg hr hlo hrn hrl (ty := o.type)
  exact wp_value_of (run_appendOp hop hs hx hrun) (hK v w2 hb hown)
theorem two_at {w : World} {g : Nat} (h : w.heap[g]? = some (.cells #[.int .i64 0, .int .i64 0] 3 (0, 0))) : ∀ j u, [Value.int .i64 0, Value.int .i64 0][j]? = some u → w.cell? ((⟨g, 0, none⟩ : Addr).add j) = some u := fun j u hj => by
  have hj2 : j < 2 := (List.getElem?_eq_some_iff.1 hj).1
  have e : (⟨g, 0, none⟩ : Addr).add j = ⟨g, j, none⟩ := by unfold Addr.add; split <;> simp_all
  rw [e]
  have : j = 0 ∨ j = 1 := by omega
  rcases this with rfl | rfl <;> (simp at hj; subst hj; simp [World.cell?, h])
end Go.Proofs.Ytkpddakmcnknjaa
