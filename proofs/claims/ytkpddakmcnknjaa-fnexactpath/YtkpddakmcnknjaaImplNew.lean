/- A run begins: the program's newWorld and newRun. -/
import Derived.Test.YtkpddakmcnknjaaImplPhis
namespace Go.Proofs.Ytkpddakmcnknjaa
open Go.ChangeShapes Go.WideShapes Go.ChangeAt Go.RowKit Go.Shelf
set_option linter.unusedVariables false

/-- A world as a value. -/
def worldV (rv : Value) (fuel : Int) (tv : Value) : Value := .agg #[rv, .int .i64 fuel, .int .i64 0, .int .i64 0, .int .i64 0, .int .i64 0, .int .i64 0, .int .i64 0, .int .i64 0, .int .i64 0, tv]

set_option maxRecDepth 100000 in
set_option maxHeartbeats 2000000 in
theorem newWorld_any (ra : Option Addr) (rn rcap : Nat) (fuel : Int) (w : World) :
    Calls Try.prog 47 #[.slice ra rn rcap, .int .i64 fuel] w fun e w' => ∃ g, e = .returned (.agg #[.slice ra rn rcap, .int .i64 fuel, .int .i64 0, .int .i64 0, .int .i64 0, .int .i64 0, .int .i64 0, .int .i64 0, .int .i64 0, .int .i64 0, .slice (some ⟨g, 0, none⟩) 0 0]) ∧ w.heap.size ≤ g ∧ w'.heap[g]? = some (.cells #[] 3 (0, 0)) ∧ Below w.heap.size w w' := by
  go_enter Try.func47, Try.ntmps47
  go_wp2
  refine bodyPost_ret (v := .agg #[.slice ra rn rcap, .int .i64 fuel, .int .i64 0, .int .i64 0, .int .i64 0, .int .i64 0, .int .i64 0, .int .i64 0, .int .i64 0, .int .i64 0, .slice (some ⟨w.heap.size + 1, 0, none⟩) 0 0]) (row_results rfl rfl ((Below.heap_alloc _ _ _ (by simp)).trans (World.alloc_heap_new w _)) Try.underlying61 rfl (by kernel_rfl)) rfl ?_
  exact ⟨w.heap.size + 1, rfl, by omega, heap_last (by simp), by repeat (first | exact Below.refl _ _ | apply Below.drew | refine Below.alloc ?_ (by simp <;> omega) _ | refine Below.setCell ?_ (by simp <;> omega) _)⟩

/-- The cells of a run that begins. -/
def runC (rv : Value) (fuel : Int) (tv bv : Value) (vals : Int) (S : Nat) (pv : Value) : List Value :=
  [rv, .int .i64 fuel, .int .i64 0, .int .i64 0, .int .i64 0, .int .i64 0, .int .i64 0, .int .i64 0, .int .i64 0, .int .i64 0, tv, bv, .int .i64 vals, .pointer (some ⟨S, 0, none⟩)] ++ ((List.range 80).map (fun _ => Value.int .i64 0) ++ [pv])
theorem runC_is (rv : Value) (fuel : Int) (tv bv : Value) (vals : Int) (S : Nat) (pv : Value) : (((((((((((((((Try.zeroCells65.setIfInBounds 0 rv).setIfInBounds 1 (.int .i64 fuel)).setIfInBounds 2 (.int .i64 0)).setIfInBounds 3 (.int .i64 0)).setIfInBounds 4 (.int .i64 0)).setIfInBounds 5 (.int .i64 0)).setIfInBounds 6 (.int .i64 0)).setIfInBounds 7 (.int .i64 0)).setIfInBounds 8 (.int .i64 0)).setIfInBounds 9 (.int .i64 0)).setIfInBounds 10 tv).setIfInBounds 11 bv).setIfInBounds 12 (.int .i64 vals)).setIfInBounds 13 (.pointer (some ⟨S, 0, none⟩))).setIfInBounds 94 pv) = (runC rv fuel tv bv vals S pv).toArray := by kernel_rfl
theorem runC_val (rv : Value) (fuel : Int) (tv bv : Value) (vals : Int) (S : Nat) (pv : Value) {i : Nat} (h : i < 80) : (runC rv fuel tv bv vals S pv)[14 + i]? = some (.int .i64 0) := by
  unfold runC
  rw [List.getElem?_append_right (by simp), List.getElem?_append_left (by simp; omega)]
  simp [h]
theorem runC_last (rv : Value) (fuel : Int) (tv bv : Value) (vals : Int) (S : Nat) (pv : Value) : (runC rv fuel tv bv vals S pv)[94]? = some pv := by
  unfold runC
  rw [List.getElem?_append_right (by simp), List.getElem?_append_right (by simp)]
  simp
theorem runC_cell (rv : Value) (fuel : Int) (tv bv : Value) (vals : Int) (S : Nat) (pv : Value) {i : Nat} (h : i < 8) : (runC rv fuel tv bv vals S pv)[2 + i]? = some (.int .i64 0) := by
  unfold runC
  rw [List.getElem?_append_left (by simp; omega)]
  have : i = 0 ∨ i = 1 ∨ i = 2 ∨ i = 3 ∨ i = 4 ∨ i = 5 ∨ i = 6 ∨ i = 7 := by omega
  rcases this with rfl | rfl | rfl | rfl | rfl | rfl | rfl | rfl <;> rfl
theorem run_begins {w W : World} {R S g g2 : Nat} {rv bv : Value} {vals fuel : Int} {reads : List Int} (fn : Nat) (hfn : (fn : Int) = fuel) (hS : W.heap[S]? = some (.cells #[.int .i64 (-1), .int .i64 0] 87 (0, 0))) (hg : W.heap[g]? = some (.cells #[] 3 (0, 0))) (hg2 : W.heap[g2]? = some (.cells #[] 3 (0, 0))) (hne : g ≠ g2)
    (hSl : w.heap.size ≤ S) (hgl : w.heap.size ≤ g) (hg2l : w.heap.size ≤ g2) (hb : Below w.heap.size w W) (hr : ReadsAt w rv reads) (hRW : W.heap.size = R) :
    RunIs w (W.alloc (.cells (((((((((((((((Try.zeroCells65.setIfInBounds 0 rv).setIfInBounds 1 (.int .i64 fuel)).setIfInBounds 2 (.int .i64 0)).setIfInBounds 3 (.int .i64 0)).setIfInBounds 4 (.int .i64 0)).setIfInBounds 5 (.int .i64 0)).setIfInBounds 6 (.int .i64 0)).setIfInBounds 7 (.int .i64 0)).setIfInBounds 8 (.int .i64 0)).setIfInBounds 9 (.int .i64 0)).setIfInBounds 10 (.slice (some ⟨g, 0, none⟩) 0 0)).setIfInBounds 11 bv).setIfInBounds 12 (.int .i64 vals)).setIfInBounds 13 (.pointer (some ⟨S, 0, none⟩))).setIfInBounds 94 (.slice (some ⟨g2, 0, none⟩) 0 0)) 65)) R S bv vals ⟨fun _ => 0, fun _ => 0, reads, [], [], fn⟩ (-1) 0 := by
  subst hRW
  have hSW := (Array.getElem?_eq_some_iff.1 hS).1
  have hgW := (Array.getElem?_eq_some_iff.1 hg).1
  have hg2W := (Array.getElem?_eq_some_iff.1 hg2).1
  rw [runC_is]
  have hR := World.alloc_heap_new W (.cells (runC rv fuel (.slice (some ⟨g, 0, none⟩) 0 0) bv vals S (.slice (some ⟨g2, 0, none⟩) 0 0)).toArray 65)
  have hc : ∀ o v, (runC rv fuel (.slice (some ⟨g, 0, none⟩) 0 0) bv vals S (.slice (some ⟨g2, 0, none⟩) 0 0))[o]? = some v → (W.alloc (.cells (runC rv fuel (.slice (some ⟨g, 0, none⟩) 0 0) bv vals S (.slice (some ⟨g2, 0, none⟩) 0 0)).toArray 65)).cell? ⟨W.heap.size, o, none⟩ = some v := fun o v h => by
    simp only [World.cell?]; rw [hR]; simpa using h
  have hS2 := (Below.heap_alloc W (.cells (runC rv fuel (.slice (some ⟨g, 0, none⟩) 0 0) bv vals S (.slice (some ⟨g2, 0, none⟩) 0 0)).toArray 65) S hSW).trans hS
  have own : ∀ q, W.heap[q]? = some (.cells #[] 3 (0, 0)) → w.heap.size ≤ q → OwnInts (W.alloc (.cells (runC rv fuel (.slice (some ⟨g, 0, none⟩) 0 0) bv vals S (.slice (some ⟨g2, 0, none⟩) 0 0)).toArray 65)) w.heap.size (.slice (some ⟨q, 0, none⟩) 0 0) [] := fun q hq hl =>
    ⟨rfl, .inr ⟨q, 0, #[], rfl, hl, (Below.heap_alloc W _ q (Array.getElem?_eq_some_iff.1 hq).1).trans hq, Nat.le_refl _, Nat.zero_le _, rfl, rfl⟩⟩
  refine ⟨rv, .slice (some ⟨g, 0, none⟩) 0 0, .slice (some ⟨g2, 0, none⟩) 0 0, ⟨⟨_, hR⟩, ⟨_, hS2⟩, hc 0 _ rfl, hc 1 _ (by rw [← hfn]; rfl), fun i hi => hc _ _ (runC_cell _ _ _ _ _ _ _ hi), hc 10 _ rfl, hc 11 _ rfl, hc 12 _ rfl, hc 13 _ rfl, fun i hi => hc _ _ (runC_val _ _ _ _ _ _ _ hi), hc 94 _ (runC_last _ _ _ _ _ _ _), ?_, ?_, by omega⟩, hr, own g hg hgl, own g2 hg2 hg2l, ?_, hb.alloc hb.size _, hb.size, hSl⟩
  · simp [World.cell?, hS2]
  · simp [World.cell?, hS2]
  · intro q e1 e2
    have e3 : g = q := by simpa [Value.ownBlock] using e1
    have e4 : g2 = q := by simpa [Value.ownBlock] using e2
    omega

/-- A run is given. -/
def GivesRun (w : World) (bv : Value) (vals : Int) (s : RunS) (e : Ending) (w' : World) : Prop := ∃ R S, e = .returned (.pointer (some ⟨R, 0, none⟩)) ∧ RunIs w w' R S bv vals s (-1) 0
theorem givesRun {w w' : World} {bv : Value} {vals : Int} {s : RunS} {R S : Nat} (h : RunIs w w' R S bv vals s (-1) 0) : GivesRun w bv vals s (.returned (.pointer (some ⟨R, 0, none⟩))) w' := ⟨R, S, rfl, h⟩

set_option maxRecDepth 100000 in
set_option maxHeartbeats 4000000 in
theorem newRun_any (ba : Option Addr) (n bcap : Nat) (vals : Int) (rv : Value) (reads : List Int) (fuel : Int) (hf : 0 ≤ fuel) (w : World) (hr : ReadsAt w rv reads) :
    Calls Try.prog 31 #[.agg #[.slice ba n bcap, .int .i64 vals], rv, .int .i64 fuel] w fun e w' => GivesRun w (.slice ba n bcap) vals (startDo reads fuel) e w' := by
  obtain ⟨ra, rcap, rfl, hr1, hr2, hr3⟩ := id hr
  obtain ⟨rn, HRN⟩ : ∃ n, Hid (reads.length = n) := ⟨_, rfl⟩
  rw [HRN.out] at hr ⊢
  have HRD : Hid (ReadsAt w (.slice ra rn rcap) reads) := hr
  obtain ⟨fq, HFQ⟩ : ∃ fq : Nat, Hid ((min fuel 5000).toNat = fq) := ⟨_, rfl⟩
  have HST : Hid (startDo reads fuel = ⟨fun _ => 0, fun _ => 0, reads, [], [], fq⟩) := by
    show startDo reads fuel = _
    unfold startDo
    rw [HFQ.out]
  rw [HST.out]
  clear hr hr1 hr2 hr3
  by_cases hfu : fuel ≤ 5000
  · have HFE : Hid ((fq : Int) = fuel) := by have := HFQ.out; show (fq : Int) = fuel; omega
    go_enter Try.func31, Try.ntmps31
    go_wp2
    rename_i Q9 K9 hK9
    obtain ⟨x0, x1⟩ := box2 w (.slice ba n bcap) (.int .i64 vals) 26
    have HB0 : Hid (Below w.heap.size w (w.alloc (.cells #[.slice ba n bcap, .int .i64 vals] 26))) := Bel.alloc _ _
    have hB : w.heap.size < (w.alloc (.cells #[.slice ba n bcap, .int .i64 vals] 26)).heap.size := by simp
    have hws : w.heap.size < (w.alloc (.cells #[.slice ba n bcap, .int .i64 vals] 26)).heap.size := by simp
    generalize w.alloc (.cells #[.slice ba n bcap, .int .i64 vals] 26) = w0 at x0 x1 hB hws HB0 ⊢
    generalize hBw : w.heap.size = B at x0 x1 hB ⊢
    clear hBw
    go_region_held3 (fun w' => w'.cell? ⟨B, 0, none⟩ = some (.slice ba n bcap) ∧ w'.cell? ⟨B, 1, none⟩ = some (.int .i64 vals)) (first | exact ⟨z0, z1⟩ | go_keep) (first | (go_at_call 47; refine (newWorld_any ra rn rcap _ _).mono ?_; rintro e w1 ⟨g, rfl, hg, hx, hb⟩; have z0 : w1.cell? ⟨B, 0, none⟩ = some (.slice ba n bcap) := Bel.keeps hb (by go_keep); have z1 : w1.cell? ⟨B, 1, none⟩ = some (.int .i64 vals) := Bel.keeps hb (by go_keep); have hs1 := hb.size; have HX : Hid (w1.heap[g]? = some (.cells #[] 3 (0, 0))) := hx; have B1 : Hid (Below w.heap.size w w1) := (Below.trans (by repeat (first | exact HB0.out | apply Below.drew | refine Below.alloc ?_ (by first | omega | (simp; omega)) _)) (hb.mono (by first | omega | (simp [heap_drew]; omega)))); have HBK : Hid (Below _ _ w1) := hb; have hxl := (Array.getElem?_eq_some_iff.1 hx).1; clear hx hb; try simp [heap_drew] at hs1; try simp [heap_drew] at hg))
    all_goals
      rename_i hheld
      clear hheld
      simp only [Exit.then]
      refine hK9 _ _ (wp_ret ?_)
      show bodyPost _ _ _ _ _ _
      refine bodyPost_ret (results_tmp rfl _ _ _) rfl ?_
      exact givesRun (run_begins fq HFE.out (by repeat (first | exact heap_last (by simp) | exact HX.out | refine (Below.heap_alloc _ _ _ (by first | omega | (simp; done) | (simp; omega))).trans ?_ | rw [heap_drew] | refine (HBK.out.block _ (by first | omega | (simp [heap_drew]; omega) | simp [heap_drew])).trans ?_)) (by repeat (first | exact HX.out | refine (Below.heap_alloc _ _ _ (by first | omega | (simp; done) | (simp; omega))).trans ?_ | rw [heap_drew])) (by repeat (first | exact heap_last (by simp) | refine (Below.heap_alloc _ _ _ (by first | omega | (simp; done) | (simp; omega))).trans ?_ | rw [heap_drew] | refine (HBK.out.block _ (by first | omega | (simp [heap_drew]; omega) | simp [heap_drew])).trans ?_)) (by omega) (by omega) (by omega) (by omega) (by repeat (first | exact B1.out | exact HB0.out | apply Below.drew | refine Below.alloc ?_ (by first | omega | (simp; omega)) _)) HRD.out (by simp))
  · have HFE : Hid ((fq : Int) = 5000) := by have := HFQ.out; show (fq : Int) = 5000; omega
    go_enter Try.func31, Try.ntmps31
    go_wp2
    rename_i Q9 K9 hK9
    obtain ⟨x0, x1⟩ := box2 w (.slice ba n bcap) (.int .i64 vals) 26
    have HB0 : Hid (Below w.heap.size w (w.alloc (.cells #[.slice ba n bcap, .int .i64 vals] 26))) := Bel.alloc _ _
    have hB : w.heap.size < (w.alloc (.cells #[.slice ba n bcap, .int .i64 vals] 26)).heap.size := by simp
    have hws : w.heap.size < (w.alloc (.cells #[.slice ba n bcap, .int .i64 vals] 26)).heap.size := by simp
    generalize w.alloc (.cells #[.slice ba n bcap, .int .i64 vals] 26) = w0 at x0 x1 hB hws HB0 ⊢
    generalize hBw : w.heap.size = B at x0 x1 hB ⊢
    clear hBw
    go_region_held3 (fun w' => w'.cell? ⟨B, 0, none⟩ = some (.slice ba n bcap) ∧ w'.cell? ⟨B, 1, none⟩ = some (.int .i64 vals)) (first | exact ⟨z0, z1⟩ | go_keep) (first | (go_at_call 47; refine (newWorld_any ra rn rcap _ _).mono ?_; rintro e w1 ⟨g, rfl, hg, hx, hb⟩; have z0 : w1.cell? ⟨B, 0, none⟩ = some (.slice ba n bcap) := Bel.keeps hb (by go_keep); have z1 : w1.cell? ⟨B, 1, none⟩ = some (.int .i64 vals) := Bel.keeps hb (by go_keep); have hs1 := hb.size; have HX : Hid (w1.heap[g]? = some (.cells #[] 3 (0, 0))) := hx; have B1 : Hid (Below w.heap.size w w1) := (Below.trans (by repeat (first | exact HB0.out | apply Below.drew | refine Below.alloc ?_ (by first | omega | (simp; omega)) _)) (hb.mono (by first | omega | (simp [heap_drew]; omega)))); have HBK : Hid (Below _ _ w1) := hb; have hxl := (Array.getElem?_eq_some_iff.1 hx).1; clear hx hb; try simp [heap_drew] at hs1; try simp [heap_drew] at hg))
    all_goals
      rename_i hheld
      clear hheld
      simp only [Exit.then]
      refine hK9 _ _ (wp_ret ?_)
      show bodyPost _ _ _ _ _ _
      refine bodyPost_ret (results_tmp rfl _ _ _) rfl ?_
      exact givesRun (run_begins fq HFE.out (by repeat (first | exact heap_last (by simp) | exact HX.out | refine (Below.heap_alloc _ _ _ (by first | omega | (simp; done) | (simp; omega))).trans ?_ | rw [heap_drew] | refine (HBK.out.block _ (by first | omega | (simp [heap_drew]; omega) | simp [heap_drew])).trans ?_)) (by repeat (first | exact HX.out | refine (Below.heap_alloc _ _ _ (by first | omega | (simp; done) | (simp; omega))).trans ?_ | rw [heap_drew])) (by repeat (first | exact heap_last (by simp) | refine (Below.heap_alloc _ _ _ (by first | omega | (simp; done) | (simp; omega))).trans ?_ | rw [heap_drew] | refine (HBK.out.block _ (by first | omega | (simp [heap_drew]; omega) | simp [heap_drew])).trans ?_)) (by omega) (by omega) (by omega) (by omega) (by repeat (first | exact B1.out | exact HB0.out | apply Below.drew | refine Below.alloc ?_ (by first | omega | (simp; omega)) _)) HRD.out (by simp))
end Go.Proofs.Ytkpddakmcnknjaa
