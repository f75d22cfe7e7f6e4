/- The model's Order: those that are reached, as they are left last. -/
import Derived.Test.YtlmkipmkanhcfaaLeft
import Derived.Test.YtlmkipmkanhcfaaTo
import Derived.Laws.OwnMore
namespace Go.Proofs.Ytlmkipmkanhcfaa
open Go.ChangeShapes Go.WideShapes Go.ChangeAt Go.RowKit Go.Shelf
set_option linter.unusedVariables false

theorem made_seen (n : Nat) : madeCells #[.bool false] n = seenCells n [] := by
  apply Array.toList_inj.1
  rw [toList_madeCells_one]
  simp [seenCells]
  exact (List.eq_replicate_iff.2 ⟨by simp, by simp⟩).symm

theorem make_bools (n : Nat) (hn : n ≤ 1048576) (w : World) :
    (Instr.makeSlice 35 (.int .i64 (n : Int)) (.int .i64 (n : Int))).run Try.prog w = .ok (.slice (some ⟨w.heap.size, 0, none⟩) n n) (w.alloc (.cells (madeCells #[.bool false] n) 4)) :=
  by
  have h := make_of (z := .bool false) (size := 1) (bytes := 1) Try.underlying35 (by kernel_rfl) n (by omega) (by omega) w
  rw [Nat.mul_one] at h
  exact h

theorem seen_new {w : World} {n g : Nat} (hg : w.heap.size = g) : SeenRow (w.alloc (.cells (madeCells #[.bool false] n) 4)) g n [] := by
  subst hg
  rw [made_seen]
  exact World.alloc_heap_new w _

theorem SeenRow.store {w : World} {g n : Nat} {seen seen' : List Nat} (h : SeenRow w g n seen) (b : Nat) (v : Bool) (hm : ∀ i, i < n → decide (i ∈ seen') = if i = b then v else decide (i ∈ seen)) : SeenRow (w.setCell ⟨g, b, none⟩ (.bool v)) g n seen' := by
  obtain ⟨hlt, hk⟩ := Array.getElem?_eq_some_iff.1 h
  show (w.heap.modify g _)[g]? = _
  rw [Array.getElem?_eq_getElem (by rw [Array.size_modify]; exact hlt), Array.getElem_modify_self, hk]
  have e : (seenCells n seen).setIfInBounds b (.bool v) = seenCells n seen' := by
    apply Array.ext
    · simp [seenCells]
    · intro i h1 h2
      have hi : i < n := by simpa [seenCells] using h1
      rw [Array.getElem_setIfInBounds (by simpa [seenCells] using hi)]
      have h3 := hm i hi
      have e1 : (seenCells n seen')[i] = .bool (decide (i ∈ seen')) := by simp [seenCells]
      have e2 : (seenCells n seen)[i]'(by simpa [seenCells] using hi) = .bool (decide (i ∈ seen)) := by simp [seenCells]
      rw [e1, e2, h3]
      by_cases e : b = i
      · subst e
        simp
      · have e3 : ¬ i = b := fun h => e h.symm
        simp [e, e3]
  simp [e]
theorem SeenRow.congr {w : World} {g n : Nat} {a b : List Nat} (h : SeenRow w g n a) (hm : ∀ i, i < n → (i ∈ a ↔ i ∈ b)) : SeenRow w g n b := by
  have e : seenCells n a = seenCells n b := by
    unfold seenCells
    congr 1
    apply List.map_congr_left
    intro i hi
    have := hm i (by simpa using hi)
    simp [this]
  unfold SeenRow at h ⊢
  rw [h, e]

theorem SeenRow.drew {w : World} {g n : Nat} {seen : List Nat} (h : SeenRow w g n seen) : SeenRow w.drew g n seen := h
theorem OwnInts.drew {w : World} {lo : Nat} {v : Value} {l : List Int} (h : OwnInts w lo v l) : OwnInts w.drew lo v l := h
theorem drop_rev2 {L : List Int} {j : Nat} (h : j < L.length) : (L.drop j).reverse = (L.drop (j + 1)).reverse ++ [L.getD j 0] := by
  rw [List.drop_eq_getElem_cons h, List.reverse_cons]
  simp [List.getD, h]
theorem drop_rev {L : List Int} {k : Nat} (hk : k < L.length) : (L.drop (L.length - (k + 1))).reverse = (L.drop (L.length - k)).reverse ++ [L.getD (L.length - (k + 1)) 0] := by
  have h : L.length - (k + 1) < L.length := by omega
  rw [List.drop_eq_getElem_cons h, List.reverse_cons]
  have e : L.length - (k + 1) + 1 = L.length - k := by omega
  rw [e]
  simp [List.getD, h]

theorem l3Left_zero (F : FnD) (v : Value) (W0 : World) (n : Nat) (hF : FnAt W0 v F) (hS : FnShape F) (hN : F.blocks.length = n) (ov : Value) (w : World) (g : Nat) (h0 : 0 < n) (h16 : n ≤ 16)
    (hB : Below W0.heap.size W0 w) (hg : W0.heap.size ≤ g) (hs : SeenRow w g n []) (ho : OwnInts w W0.heap.size ov []) :
    Calls Try.prog 69 #[v, .int .i64 0, .slice (some ⟨g, 0, none⟩) n n, ov] w fun e w' => GivesLeft W0.heap.size g n W0 ov (wayOf F) w e w' := by
  have h := l3Left_any F v W0 n hF hS hN n 0 ([], []) ov w g hB hg hs ho h0 (by simp) (by rw [unseen_nil]; omega) (by rw [unseen_nil]; simp; omega) ⟨by simp, by simp⟩
  have e : leave (succsN F) n 0 ([], []) = wayOf F := by rw [← hN]; exact (rfl : wayOf F = wayOf F)
  rw [e] at h
  exact h

set_option maxRecDepth 100000 in
set_option maxHeartbeats 8000000 in
theorem l3Order_any (v : Value) (F : FnD) (w : World) (hF : FnAt w v F) (hS : FnShape F) :
    Calls Try.prog 46 #[v] w fun e w' => GivesOwn w (wayOf F).2.reverse e w' := by
  have HF : Hid (FnAt w v F) := hF
  have HS : Hid (FnShape F) := hS
  obtain ⟨n, HN⟩ : ∃ n, Hid (F.blocks.length = n) := ⟨_, rfl⟩
  obtain ⟨vals, HV⟩ : ∃ x, Hid (F.values = x) := ⟨_, rfl⟩
  obtain ⟨ba, bcap, rfl⟩ := hF.out HN.out HV.out
  have h16 : n ≤ 16 := by rw [← HN.out]; exact hS.2.1
  have h1 : 1 ≤ n := by rw [← HN.out]; exact hS.1
  clear hF hS
  obtain ⟨L, HL⟩ : ∃ L, Hid ((wayOf F).2 = L) := ⟨_, rfl⟩
  have hLn : L.length ≤ 16 := by have := (wayOf_len HS.out).1; rw [HL.out, HN.out] at this; omega
  obtain ⟨i0, hi, hz0, hz1, hz2⟩ := info_parts info_int
  have hmx : 100 ≤ maxLen := by decide
  have hmk := make_bools n (by omega)
  obtain ⟨wA, hwA⟩ : ∃ wA, w.alloc (.cells #[.slice ba n bcap, .int .i64 vals] 26) = wA := ⟨_, rfl⟩
  have hsA : wA.heap.size = w.heap.size + 1 := by rw [← hwA]; simp
  have HA : Hid (Below w.heap.size w wA) := by rw [← hwA]; exact Bel.alloc _ _
  have c0 : wA.cell? ⟨w.heap.size, 0, none⟩ = some (.slice ba n bcap) := by rw [← hwA]; simp [go_sem]
  have c1 : wA.cell? ⟨w.heap.size, 1, none⟩ = some (.int .i64 vals) := by rw [← hwA]; simp [go_sem]
  go_enter Try.func46, Try.ntmps46
  go_wp2_with fail
  try rw [hwA]
  clear hwA
  go_region_with (go_at_call 69; refine (l3Left_zero F _ w n HF.out HS.out HN.out _ _ _ (by omega) h16 (by repeat (first | exact HA.out | apply Below.drew | refine Below.alloc ?_ (by first | omega | (simp; omega)) _)) (by omega) (by (try refine SeenRow.drew ?_); first | exact (seen_new (by omega)).later (Bel.alloc _ _) | exact seen_new (by simp <;> omega)) (by (try refine OwnInts.drew ?_); first | exact (ownInts_nil (by omega) (by omega)).keep (Bel.alloc _ _) | exact ownInts_nil (by simp <;> omega) (by omega))).mono ?_; rintro e w3 ⟨o', rfl, o3, s3, b3, f3, n3⟩; have O3 : Hid (OwnInts w3 w.heap.size o' (wayOf F).2) := o3; have B3 : Hid (Below w.heap.size w w3) := b3; clear o3 s3 b3 f3 n3)
  all_goals
    have OL : Hid (IntsAt w3 o' L) := by rw [← HL.out]; exact O3.out.at
    have OLB : Hid (∀ k, o'.ownBlock = some k → k < w3.heap.size) := fun k hk => (World.ownsRow.lt O3.out k hk).2
    obtain ⟨la, lcap, hov, hlm, _⟩ := OL.out
    obtain ⟨m, HM⟩ : ∃ m, Hid (L.length = m) := ⟨_, rfl⟩
    rw [HM.out] at hov hLn
    subst hov
    clear c0 c1 hmk hlm
    go_wp2_with fail
    go_loopw [4, 5] (fun o i wr => ∃ (j : Nat) (z : Int), j ≤ m ∧ i = .int .i64 z ∧ z = (j : Int) - 1 ∧ OwnInts wr w3.heap.size o (L.drop j).reverse ∧ Below w3.heap.size w3 wr) (fun _ i _ => (intOf i + 1).toNat)
    case atStart =>
      refine ⟨m, (m : Int) - 1, Nat.le_refl _, by go_num, rfl, ?_, Bel.alloc _ _⟩
      rw [List.drop_eq_nil_of_le (by rw [HM.out]; omega)]
      exact ownInts_nil (by simp) (by omega)
    case round =>
      obtain ⟨j, z, hj, rfl, hz, o4, b4⟩ := hrel
      have O4 : Hid (OwnInts wr w3.heap.size u4 (L.drop j).reverse) := o4
      have B4 : Hid (Below w3.heap.size w3 wr) := b4
      have hol : (L.drop j).reverse.length ≤ 16 := by rw [List.length_reverse, List.length_drop, HM.out]; omega
      have HOL : Hid ((L.drop j).reverse.length ≤ 16) := hol
      clear o4 b4 hol
      by_cases hlt : 0 < j
      · obtain ⟨j, rfl⟩ : ∃ j', j = j' + 1 := ⟨j - 1, by omega⟩
        obtain rfl : z = (j : Int) := by omega
        obtain ⟨la', lcap', hla, _, hlc⟩ := OL.out.keep B4.out
        obtain ⟨lb, loff, e0, hld⟩ := hlc (by rw [HM.out]; omega)
        subst e0
        simp only [Value.slice.injEq] at hla
        obtain ⟨hla1, hla2, hla3⟩ := hla
        subst hla1 hla3
        clear hla2
        have q1 := hld j (by rw [HM.out]; omega)
        obtain ⟨x, HX⟩ : ∃ x, Hid (L.getD j 0 = x) := ⟨_, rfl⟩
        rw [HX.out] at q1
        have hlt2 : (j : Int) < (m : Int) := by omega
        clear hld hlc hz hlt
        go_wp2_with (at_builtin; refine wpList_append_own _ rfl _ _ 29 rfl w3.heap.size 3 i0 (.int .i64 0) 1 8 Try.underlying29 hi hz0 hz1 hz2 rfl (by decide) _ _ _ rfl (World.ownsRow.alloc O4.out _) ⟨wr.heap.size, 0, none⟩ 1 1 [.int .i64 x] rfl rfl (cell_one_new _ _ _) (by simp [Value.oneCell']) (by have := HOL.out; omega) (by have := HOL.out; omega) (by have := B4.out.size; simp; omega) ?_; intro v' wa hown' hgrow _; have HO' : Hid (OwnInts wa w3.heap.size v' ((L.drop (j + 1)).reverse ++ [x])) := OwnInts.next hown'; have HG : Hid ((wr.alloc (.cells #[.int .i64 x] 3)).grownBy wa u4.ownBlock) := hgrow; clear hown' hgrow)
        go_roundw
        case rel =>
          refine ⟨j, (j : Int) - 1, by omega, by go_num, rfl, ?_, B4.out.trans (O4.out.grown B4.out.size HG.out)⟩
          rw [drop_rev2 (by rw [HM.out]; omega), HX.out]
          exact HO'.out
        case measure => simp [intOf]; try omega
      · obtain rfl : j = 0 := by omega
        have hneg : ¬ (0 : Int) ≤ z := by omega
        clear hz
        go_wp2_with fail
        go_ret
        refine ⟨_, rfl, ?_, Bel.after B3.out B4.out⟩
        rw [HL.out]
        have h := O4.out
        rw [List.drop_zero] at h
        exact h.low B3.out.size
end Go.Proofs.Ytlmkipmkanhcfaa
