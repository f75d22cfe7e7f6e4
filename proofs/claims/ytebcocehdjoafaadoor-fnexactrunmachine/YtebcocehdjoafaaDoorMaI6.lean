/- RunMachine, of the program. -/
import Derived.Test.YtebcocehdjoafaaDoorMaI5
namespace Go.Proofs.YtebcocehdjoafaaDoor
open Go.ChangeShapes Go.WideShapes Go.ChangeAt Go.RowKit Go.Shelf
set_option linter.unusedVariables false

set_option maxRecDepth 100000 in
set_option maxHeartbeats 2000000 in
theorem mnewWorld_any (ra : Option Addr) (rn rcap : Nat) (fuel : Int) (w : World) :
    Calls Tryd.prog 40 #[.slice ra rn rcap, .int .i64 fuel] w fun e w' => ∃ g, e = .returned (.agg #[.slice ra rn rcap, .int .i64 fuel, .int .i64 0, .int .i64 0, .int .i64 0, .int .i64 0, .int .i64 0, .int .i64 0, .int .i64 0, .int .i64 0, .slice (some ⟨g, 0, none⟩) 0 0]) ∧ w.heap.size ≤ g ∧ w'.heap[g]? = some (.cells #[] 3 (0, 0)) ∧ Below w.heap.size w w' := by
  go_enter Tryd.func40, Tryd.ntmps40
  go_wp2
  refine bodyPost_ret (v := .agg #[.slice ra rn rcap, .int .i64 fuel, .int .i64 0, .int .i64 0, .int .i64 0, .int .i64 0, .int .i64 0, .int .i64 0, .int .i64 0, .int .i64 0, .slice (some ⟨w.heap.size + 1, 0, none⟩) 0 0]) (row_results rfl rfl ((Below.heap_alloc _ _ _ (by simp)).trans (World.alloc_heap_new w _)) Tryd.underlying74 rfl (by kernel_rfl)) rfl ?_
  exact ⟨w.heap.size + 1, rfl, by omega, heap_last (by simp), by repeat (first | exact Below.refl _ _ | apply Below.drew | refine Below.alloc ?_ (by simp <;> omega) _ | refine Below.setCell ?_ (by simp <;> omega) _)⟩

/-- The cells of a machine that begins. -/
def macC (rv : Value) (fuel : Int) (tv : Value) : List Value :=
  [rv, .int .i64 fuel, .int .i64 0, .int .i64 0, .int .i64 0, .int .i64 0, .int .i64 0, .int .i64 0, .int .i64 0, .int .i64 0, tv, .int .i64 0] ++ ((List.range 48).map (fun _ => Value.int .i64 0) ++ [.bool false, .int .i64 0, .int .i64 0])
theorem macC_cell (rv : Value) (fuel : Int) (tv : Value) {i : Nat} (h : i < 8) : (macC rv fuel tv)[2 + i]? = some (.int .i64 0) := by
  unfold macC
  rw [List.getElem?_append_left (by simp; omega)]
  have : i = 0 ∨ i = 1 ∨ i = 2 ∨ i = 3 ∨ i = 4 ∨ i = 5 ∨ i = 6 ∨ i = 7 := by omega
  rcases this with rfl | rfl | rfl | rfl | rfl | rfl | rfl | rfl <;> rfl
theorem macC_mid (rv : Value) (fuel : Int) (tv : Value) {i : Nat} (h : i < 48) : (macC rv fuel tv)[12 + i]? = some (.int .i64 0) := by
  unfold macC
  rw [List.getElem?_append_right (by simp), List.getElem?_append_left (by simp; omega)]
  simp [h]
theorem macC_end (rv : Value) (fuel : Int) (tv : Value) : (macC rv fuel tv)[60]? = some (.bool false) ∧ (macC rv fuel tv)[61]? = some (.int .i64 0) ∧ (macC rv fuel tv)[62]? = some (.int .i64 0) := ⟨rfl, rfl, rfl⟩
theorem mac_begins {w W : World} {g : Nat} {rv : Value} {fuel : Int} {reads : List Int} (fn : Nat) (hfn : (fn : Int) = fuel) (hg : W.heap[g]? = some (.cells #[] 3 (0, 0))) (hgl : w.heap.size ≤ g) (hb : Below w.heap.size w W) (hr : ReadsAt w rv reads) :
    MacIs w (W.alloc (.cells (macC rv fuel (.slice (some ⟨g, 0, none⟩) 0 0)).toArray 78)) W.heap.size (macStart reads) ⟨fn, false, 0, 0⟩ := by
  have hR := World.alloc_heap_new W (.cells (macC rv fuel (.slice (some ⟨g, 0, none⟩) 0 0)).toArray 78)
  have hc : ∀ o v, (macC rv fuel (.slice (some ⟨g, 0, none⟩) 0 0))[o]? = some v → (W.alloc (.cells (macC rv fuel (.slice (some ⟨g, 0, none⟩) 0 0)).toArray 78)).cell? ⟨W.heap.size, o, none⟩ = some v := fun o v h => by
    simp only [World.cell?]; rw [hR]; simpa using h
  obtain ⟨e60, e61, e62⟩ := macC_end rv fuel (.slice (some ⟨g, 0, none⟩) 0 0)
  refine ⟨rv, .slice (some ⟨g, 0, none⟩) 0 0, ⟨⟨_, hR⟩, hc 0 _ rfl, hc 1 _ (by rw [← hfn]; rfl), fun i hi => hc _ _ (macC_cell _ _ _ hi), hc 10 _ rfl, hc 11 _ rfl, fun i hi => hc _ _ (macC_mid _ _ _ (by omega)), fun i hi => ?_, hc 60 _ e60, hc 61 _ e61, hc 62 _ e62⟩, hr, ?_, hb.alloc hb.size _, hb.size⟩
  · have e := hc (12 + (8 + i)) _ (macC_mid rv fuel (.slice (some ⟨g, 0, none⟩) 0 0) (i := 8 + i) (by omega))
    rw [show 12 + (8 + i) = 20 + i by omega] at e
    exact e
  · exact ⟨rfl, .inr ⟨g, 0, #[], rfl, hgl, (Below.heap_alloc W _ g (Array.getElem?_eq_some_iff.1 hg).1).trans hg, Nat.le_refl _, Nat.zero_le _, rfl, rfl⟩⟩
theorem run_buildMac {op : Oper} {a : Act} {x : Operand} (ho : op.op = .build 78 #[(0, x)]) {ra : Option Addr} {rn rcap g : Nat} {fuel : Int} (hx : a.eval x = .agg #[.slice ra rn rcap, .int .i64 fuel, .int .i64 0, .int .i64 0, .int .i64 0, .int .i64 0, .int .i64 0, .int .i64 0, .int .i64 0, .int .i64 0, .slice (some ⟨g, 0, none⟩) 0 0]) (w : World) : (execOp a.eval op).run Tryd.prog w = .ok (.value (.agg (macC (.slice ra rn rcap) fuel (.slice (some ⟨g, 0, none⟩) 0 0)).toArray)) w := by
  have h : (Instr.build 78 #[(0, .agg #[.slice ra rn rcap, .int .i64 fuel, .int .i64 0, .int .i64 0, .int .i64 0, .int .i64 0, .int .i64 0, .int .i64 0, .int .i64 0, .int .i64 0, .slice (some ⟨g, 0, none⟩) 0 0])]).run Tryd.prog w = .ok (.agg (macC (.slice ra rn rcap) fuel (.slice (some ⟨g, 0, none⟩) 0 0)).toArray) w := by kernel_rfl
  simp [execOp, ho, hx, h]

/-- What is told, in new memory. -/
def GivesTld (w : World) (p : List Int × Int × Int) (e : Ending) (w' : World) : Prop := ∃ v, e = .returned (.tuple #[v, .int .i64 p.2.1, .int .i64 p.2.2]) ∧ OwnInts w' w.heap.size v p.1 ∧ Below w.heap.size w w'

set_option maxRecDepth 100000 in
set_option maxHeartbeats 4000000 in
theorem impl_runMachine (v rv : Value) (l : List InsD) (reads : List Int) (fuel : Int) (w : World) (hv : StepsAt w v l) (ho : OpsIn l) (hr : ReadsAt w rv reads) (hT : FTab w) :
    Calls Tryd.prog 20 #[v, rv, .int .i64 fuel] w fun e w' => GivesTld w (macOf wordV l reads fuel) e w' := by
  have HL : Hid (StepsAt w v l) := hv
  obtain ⟨a, cap, rfl, _, _⟩ := hv
  obtain ⟨n, HN⟩ : ∃ n, Hid (l.length = n) := ⟨_, rfl⟩
  have HRD : Hid (ReadsAt w rv reads) := hr
  obtain ⟨ra, rcap, rfl, _, _, _⟩ := hr
  obtain ⟨rn, HRN⟩ : ∃ n, Hid (reads.length = n) := ⟨_, rfl⟩
  rw [HRN.out] at HRD ⊢
  rw [HN.out] at HL ⊢
  have HO : Hid (OpsIn l) := ho
  have HT : Hid (FTab w) := hT
  clear ho hT
  obtain ⟨R, HR⟩ : ∃ R, Hid (machineOkB l = R) := ⟨_, rfl⟩
  go_enter Tryd.func20, Tryd.ntmps20
  go_wp2_with fail
  refine (impl_machineOk _ l _ HL.out HO.out HT.out).mono ?_
  rintro e w1 ⟨rfl, b1⟩
  rw [HR.out]
  have B1 : Hid (Below w.heap.size w w1) := b1
  clear b1
  cases R with
  | false =>
    have HE : Hid (macOf wordV l reads fuel = ([], 3, 0)) := if_neg (fun h => by rw [HR.out] at h; exact absurd h.1 (by decide))
    go_wp2_with fail
    refine bodyPost_ret (v := .tuple #[.slice (some ⟨w1.heap.size, 0, none⟩) 0 0, .int .i64 3, .int .i64 0]) (by simp [results, Tryd.results20, go_sem]) rfl ?_
    rw [HE.out]
    exact ⟨_, rfl, ownInts_nil rfl B1.out.size, Bel.after B1.out (Bel.alloc _ _)⟩
  | true =>
    by_cases hf : fuel < 0
    · have HE : Hid (macOf wordV l reads fuel = ([], 3, 0)) := if_neg (fun h => by omega)
      go_wp2_with fail
      refine bodyPost_ret (v := .tuple #[.slice (some ⟨w1.heap.size, 0, none⟩) 0 0, .int .i64 3, .int .i64 0]) (by simp [results, Tryd.results20, go_sem]) rfl ?_
      rw [HE.out]
      exact ⟨_, rfl, ownInts_nil rfl B1.out.size, Bel.after B1.out (Bel.alloc _ _)⟩
    · obtain ⟨fq, HFQ⟩ : ∃ fq : Nat, Hid ((min fuel 40000).toNat = fq) := ⟨_, rfl⟩
      have HE : Hid (macOf wordV l reads fuel = macN wordV l fq (macStart reads)) := by
        show _ = _
        rw [← HFQ.out]
        exact if_pos ⟨HR.out, by omega⟩
      have hfq : fq ≤ 40000 := by have := HFQ.out; omega
      by_cases hfu : fuel ≤ 40000
      · have HFE : Hid ((fq : Int) = fuel) := by have := HFQ.out; show (fq : Int) = fuel; omega
        go_wp2_with (first
          | (go_at_call 40; refine (mnewWorld_any ra rn rcap fuel _).mono ?_; rintro e w2 ⟨g, rfl, hg, hx, b2⟩; have HX : Hid (w2.heap[g]? = some (.cells #[] 3 (0, 0))) := hx; have HG : Hid (w1.heap.size ≤ g) := hg; have B2 : Hid (Below w1.heap.size w1 w2) := b2; clear hg hx b2)
          | refine wpList_plain rfl (fun _ hK => wp_value (run_buildMac rfl rfl _) (hK _ _ ?_))
          | fail)
        have hbeg := mac_begins (w := w1) (W := w2) (rv := .slice ra rn rcap) fq HFE.out HX.out HG.out B2.out (HRD.out.keep B1.out)
        generalize w2.alloc (.cells (macC (.slice ra rn rcap) fuel (.slice (some ⟨g, 0, none⟩) 0 0)).toArray 78) = w3 at hbeg ⊢
        obtain ⟨mv, hmv⟩ : ∃ v, Value.agg (macC (.slice ra rn rcap) fuel (.slice (some ⟨g, 0, none⟩) 0 0)).toArray = v := ⟨_, rfl⟩
        rw [hmv]
        clear hmv
        generalize w2.heap.size = M at hbeg ⊢
        have HBG : Hid (MacIs w1 w3 M (macStart reads) ⟨fq, false, 0, 0⟩) := hbeg
        clear hbeg
        refine (all_any w1 M (.slice a n cap) l (macStart reads) ⟨fq, false, 0, 0⟩ _ HBG.out rfl (by have := (machineOkB_parts HR.out).1; exact this) (by simp only [macStart]; simp; exact hfq) (by rw [← HN.out] at HL ⊢; exact places_keep HL.out (Keeps.of_below B1.out 0)) HR.out).mono ?_
        rintro e w4 ⟨⟨r4, rfl⟩, m4, x4, h4, hr4⟩
        have HR4 : Hid ((m4.told, x4.how, x4.en) = macN wordV l fq (macStart reads)) := hr4
        obtain ⟨rv4, tv4, h5⟩ := h4
        have k10 := h5.cells.c10
        have k61 := h5.cells.c61
        have k62 := h5.cells.c62
        have HT4 : Hid (OwnInts w4 w1.heap.size tv4 m4.told) := h5.told
        have HB4 : Hid (Below w1.heap.size w1 w4) := h5.below
        clear h5 hr4 HBG
        obtain ⟨fu4, ov4, hw4, en4⟩ := x4
        dsimp only at k61 k62 HR4
        go_wp2_with fail
        go_region_held3 (fun w' => w'.cell? ⟨M, 10, none⟩ = some tv4 ∧ w'.cell? ⟨M, 61, none⟩ = some (.int .i64 hw4) ∧ w'.cell? ⟨M, 62, none⟩ = some (.int .i64 en4)) (go_keep) (fail)
        simp only [Exit.then]
        go_at_K
        go_wp2_with fail
        refine bodyPost_ret (v := .tuple #[tv4, .int .i64 hw4, .int .i64 en4]) (by simp [results, Tryd.results20, go_sem]) rfl ?_
        rw [HE.out, ← HR4.out]
        first
          | exact ⟨tv4, rfl, (HT4.out.low B1.out.size).keep ((Below.refl _ _).drew), (Bel.after B1.out HB4.out).drew⟩
          | exact ⟨tv4, rfl, HT4.out.low B1.out.size, Bel.after B1.out HB4.out⟩
      · have HFE : Hid ((fq : Int) = 40000) := by have := HFQ.out; show (fq : Int) = 40000; omega
        go_wp2_with (first
          | (go_at_call 40; refine (mnewWorld_any ra rn rcap 40000 _).mono ?_; rintro e w2 ⟨g, rfl, hg, hx, b2⟩; have HX : Hid (w2.heap[g]? = some (.cells #[] 3 (0, 0))) := hx; have HG : Hid (w1.heap.size ≤ g) := hg; have B2 : Hid (Below w1.heap.size w1 w2) := b2; clear hg hx b2)
          | refine wpList_plain rfl (fun _ hK => wp_value (run_buildMac rfl rfl _) (hK _ _ ?_))
          | fail)
        have hbeg := mac_begins (w := w1) (W := w2) (rv := .slice ra rn rcap) fq HFE.out HX.out HG.out B2.out (HRD.out.keep B1.out)
        generalize w2.alloc (.cells (macC (.slice ra rn rcap) 40000 (.slice (some ⟨g, 0, none⟩) 0 0)).toArray 78) = w3 at hbeg ⊢
        obtain ⟨mv, hmv⟩ : ∃ v, Value.agg (macC (.slice ra rn rcap) 40000 (.slice (some ⟨g, 0, none⟩) 0 0)).toArray = v := ⟨_, rfl⟩
        rw [hmv]
        clear hmv
        generalize w2.heap.size = M at hbeg ⊢
        have HBG : Hid (MacIs w1 w3 M (macStart reads) ⟨fq, false, 0, 0⟩) := hbeg
        clear hbeg
        refine (all_any w1 M (.slice a n cap) l (macStart reads) ⟨fq, false, 0, 0⟩ _ HBG.out rfl (by have := (machineOkB_parts HR.out).1; exact this) (by simp only [macStart]; simp; exact hfq) (by rw [← HN.out] at HL ⊢; exact places_keep HL.out (Keeps.of_below B1.out 0)) HR.out).mono ?_
        rintro e w4 ⟨⟨r4, rfl⟩, m4, x4, h4, hr4⟩
        have HR4 : Hid ((m4.told, x4.how, x4.en) = macN wordV l fq (macStart reads)) := hr4
        obtain ⟨rv4, tv4, h5⟩ := h4
        have k10 := h5.cells.c10
        have k61 := h5.cells.c61
        have k62 := h5.cells.c62
        have HT4 : Hid (OwnInts w4 w1.heap.size tv4 m4.told) := h5.told
        have HB4 : Hid (Below w1.heap.size w1 w4) := h5.below
        clear h5 hr4 HBG
        obtain ⟨fu4, ov4, hw4, en4⟩ := x4
        dsimp only at k61 k62 HR4
        go_wp2_with fail
        go_region_held3 (fun w' => w'.cell? ⟨M, 10, none⟩ = some tv4 ∧ w'.cell? ⟨M, 61, none⟩ = some (.int .i64 hw4) ∧ w'.cell? ⟨M, 62, none⟩ = some (.int .i64 en4)) (go_keep) (fail)
        simp only [Exit.then]
        go_at_K
        go_wp2_with fail
        refine bodyPost_ret (v := .tuple #[tv4, .int .i64 hw4, .int .i64 en4]) (by simp [results, Tryd.results20, go_sem]) rfl ?_
        rw [HE.out, ← HR4.out]
        first
          | exact ⟨tv4, rfl, (HT4.out.low B1.out.size).keep ((Below.refl _ _).drew), (Bel.after B1.out HB4.out).drew⟩
          | exact ⟨tv4, rfl, HT4.out.low B1.out.size, Bel.after B1.out HB4.out⟩
end Go.Proofs.YtebcocehdjoafaaDoor
