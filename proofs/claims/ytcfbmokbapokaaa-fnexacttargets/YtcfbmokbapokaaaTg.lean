/- Targets: the program's and the model's, each a list of the call's own: the values that copies make, ascending. -/
import Derived.Test.YtcfbmokbapokaaaSortLay
import Derived.Test.YtcfbmokbapokaaaTgDef
import Derived.Test.YtcfbmokbapokaaaOwnMore
import Derived.Test.YtcfbmokbapokaaaPreds
import Derived.Test.YtcfbmokbapokaaaSSuccs
import Derived.Test.YtcfbmokbapokaaaFnBits
import Derived.Test.YtcfbmokbapokaaaShape7
import Derived.Test.YtcfbmokbapokaaaShape8
import Derived.Sort.OwnSortedInts
namespace Go.Proofs.Ytcfbmokbapokaaa
open Go.ChangeShapes Go.WideShapes Go.ChangeAt Go.RowKit
set_option linter.unusedVariables false

def sortT (l : List Int) : List Int := l.mergeSort fun x y => decide (x ≤ y)
theorem sortT_len (l : List Int) : (sortT l).length = l.length := (List.mergeSort_perm l _).length_eq
theorem sortT_up (l : List Int) : (sortT l).Pairwise (· ≤ ·) := by
  have := List.pairwise_mergeSort (le := fun x y : Int => decide (x ≤ y)) (by intros; simp_all; omega) (by intros; simp; omega) l
  unfold sortT
  simpa using this
theorem sortT_mem (l : List Int) (x : Int) : x ∈ sortT l ↔ x ∈ l := (List.mergeSort_perm l _).mem_iff

def GivesCut (w : World) (lo : Nat) (l : List Int) (e : Ending) (w' : World) : Prop := ∃ v, e = .returned v ∧ OwnInts w' lo v l ∧ Below lo w w'

/-- The library's sort over a list of the call's own. -/
theorem sortT_any (lo g cap n : Nat) (l : List Int) (hn : l.length = n) (w : World) (h : OwnInts w lo (.slice (some ⟨g, 0, none⟩) n cap) l) (hl : n ≤ 2000) :
    Calls Try.prog 22 #[.slice (some ⟨g, 0, none⟩) n cap] w fun e w' => (∃ r, e = .returned r) ∧ OwnInts w' lo (.slice (some ⟨g, 0, none⟩) n cap) (sortT l) ∧ Below lo w w' := by
  subst hn
  rcases h.2 with ⟨h0, _⟩ | ⟨g', cap', cur, hv, hlo, hg, h1, h2, h3, h4⟩
  · cases h0
  cases hv
  have hlt : g < w.heap.size := (Array.getElem?_eq_some_iff.1 hg).1
  have hc := Any.slices_Sort_int Try.lays189 g 0 cap l w (holds_of_blockI hg (by simpa using h4)) hlt (by omega)
  refine Calls.mono hc ?_
  rintro e w' ⟨rfl, n, os, rfl⟩
  refine ⟨⟨_, rfl⟩, ?_, ?_⟩
  · unfold OwnInts
    rw [sortT_len]
    exact ownsRow_sortedI (ss := l) (ts := sortT l) (sortT_len l) hlo hg h1 h2 h3
  · refine (Below.refl lo w).grown (grownBy_sortedI _) (by omega) fun j ej => ?_
    cases ej
    exact hlo

/-- The library's compacting over a list of the call's own. -/
theorem compact_any (lo g cap n : Nat) (l : List Int) (hn : l.length = n) (w : World) (h : OwnInts w lo (.slice (some ⟨g, 0, none⟩) n cap) l) (hl : n ≤ 2000) :
    Calls Try.prog 23 #[.slice (some ⟨g, 0, none⟩) n cap] w fun e w' => GivesCut w lo (Lib.compact l) e w' := by
  subst hn
  rcases h.2 with ⟨h0, _⟩ | ⟨g', cap', cur, hv, hlo, hg, h1, h2, h3, h4⟩
  · cases h0
  cases hv
  have hlt : g < w.heap.size := (Array.getElem?_eq_some_iff.1 hg).1
  have hc := Any.slices_Compact_int Try.lays20 g 0 cap l w (holds_of_blockI hg (by simpa using h4)) (by omega) h1
  refine Calls.mono hc ?_
  rintro e w' ⟨rfl, q, rfl⟩
  have hcl := compact_len l
  obtain ⟨ts, hts⟩ : ∃ ts, Lib.compact l ++ List.replicate (l.length - (Lib.compact l).length) 0 = ts := ⟨_, rfl⟩
  have htl : ts.length = l.length := by rw [← hts]; simp; omega
  rw [hts, ← Sort.grow_empty (Sort.putRow (Value.int .i64) (Sort.ahead w q) g 0 ts.toArray)]
  refine ⟨_, rfl, ?_, ?_⟩
  · refine ⟨by simp, .inr ⟨g, cap, _, rfl, hlo, heap_sortedI _ hg, by omega, h2, by simp [Sort.putCells, h3], ?_⟩⟩
    have ht := take_putCellsI cur ts (by omega)
    have e1 : (List.take (Lib.compact l).length ((Sort.putCells (Value.int .i64) 0 ts.toArray cur).toList)) = List.take (Lib.compact l).length (List.take ts.length ((Sort.putCells (Value.int .i64) 0 ts.toArray cur).toList)) := by
      rw [List.take_take]; congr 1; omega
    rw [Nat.mul_one, e1, ht, ← hts, List.map_append, List.take_append_of_le_length (by simp), List.take_of_length_le (by simp)]
  · refine (Below.refl lo w).grown (grownBy_sortedI _) (by omega) fun j ej => ?_
    cases ej
    exact hlo

set_option maxRecDepth 100000 in
set_option maxHeartbeats 4000000 in
theorem impl_targets (v : Value) (F : FnD) (w : World) (hF : FnAt w v F) :
    Calls Try.prog 11 #[v] w fun e w' => GivesOwn w (targetsOf F) e w' := by
  have HF : Hid (FnAt w v F) := hF
  obtain ⟨n, HN⟩ : ∃ n, Hid (F.blocks.length = n) := ⟨_, rfl⟩
  obtain ⟨vals, HV⟩ : ∃ x, Hid (F.values = x) := ⟨_, rfl⟩
  obtain ⟨ba, bcap, rfl⟩ := hF.out HN.out HV.out
  clear hF
  obtain ⟨i0, hi, hz0, hz1, hz2⟩ := info_parts info_int
  have hmx : 2000 ≤ maxLen := by decide
  go_enter Try.func11, Try.ntmps11
  go_wp2_with fail
  refine (impl_shapeOk _ F _ (HF.out.later (by repeat (first | exact Below.refl _ _ | apply Below.drew | refine Below.alloc ?_ (by simp <;> omega) _ | refine Below.setCell ?_ (by simp <;> omega) _)))).mono ?_
  rintro e w1 ⟨s1, rfl, hs1, b1⟩
  have S1 : Hid (s1 = true ↔ FnShape F) := hs1
  have HB1 : Hid (Below w.heap.size w w1) := Bel.after (by repeat (first | exact Below.refl _ _ | apply Below.drew | refine Below.alloc ?_ (by simp <;> omega) _ | refine Below.setCell ?_ (by simp <;> omega) _)) b1
  have c0 : w1.cell? ⟨w.heap.size, 0, none⟩ = some (.slice ba n bcap) := Bel.keeps b1 (by simp [go_sem])
  have c1 : w1.cell? ⟨w.heap.size, 1, none⟩ = some (.int .i64 vals) := Bel.keeps b1 (by simp [go_sem])
  have O1 : Hid (OwnInts w1 w.heap.size (.slice (some ⟨w.heap.size + 1, 0, none⟩) 0 0) []) := OwnInts.keep (ownInts_nil (by simp) (by omega)) b1
  clear b1 hs1
  cases s1 with
  | false =>
    have HE : Hid (targetsOf F = []) := targetsOf_no (fun h => by have := S1.out.2 h; cases this)
    go_wp2_with fail
    go_ret
    rw [HE.out]
    exact ⟨_, rfl, O1.out, HB1.out⟩
  | true =>
    have hyes : Hid (FnShape F) := S1.out.1 rfl
    have h16 : n ≤ 16 := by have := hyes.out.2.1; rw [HN.out] at this; exact this
    clear S1
    go_wp2_with fail
    go_loopw [3, 16] (fun s i wr => ∃ k : Nat, k ≤ n ∧ i = .int .i64 k ∧ OwnInts wr w.heap.size s (copiesUp F k) ∧ s ≠ .slice none 0 0 ∧ Below w.heap.size w wr) (fun _ i _ => n - (intOf i).toNat)
    case atStart => exact ⟨0, Nat.zero_le _, rfl, O1.out, by simp, HB1.out⟩
    case round =>
      obtain ⟨wo, hwo⟩ : ∃ x, x = wr := ⟨_, rfl⟩
      subst hwo
      obtain ⟨k, hk, rfl, ho, hnn, hB⟩ := hrel
      have HO : Hid (OwnInts wo w.heap.size u3 (copiesUp F k)) := ho
      have HNN : Hid (u3 ≠ .slice none 0 0) := hnn
      have HB : Hid (Below w.heap.size w wo) := hB
      have hcl : (copiesUp F k).length ≤ 24 * k := copiesUp_len hyes.out k
      clear ho hnn hB c0 c1
      by_cases hlt2 : (k : Int) < (n : Int)
      · have hkl : k < F.blocks.length := by have := HN.out; omega
        obtain ⟨x, HX⟩ : ∃ x, Hid (F.blocks[k]? = some x) := ⟨F.blocks[k], List.getElem?_eq_getElem hkl⟩
        obtain ⟨b, off, rfl, pv, lv, d0, d1, d2, d3, d4, d5, hpv, hlv⟩ := FnAt.blockC HF.out HN.out (by omega) HX.out
        clear hkl
        obtain ⟨pa, pcap, rfl, _⟩ := hpv
        obtain ⟨pn, HPN⟩ : ∃ z, Hid (x.phis.length = z) := ⟨_, rfl⟩
        rw [HPN.out] at d0
        have HL : Hid (ListAt 0 5 InsAt w lv x.list) := hlv
        replace d0 := Bel.keeps HB.out d0
        replace d1 := Bel.keeps HB.out d1
        replace d2 := Bel.keeps HB.out d2
        replace d3 := Bel.keeps HB.out d3
        replace d4 := Bel.keeps HB.out d4
        replace d5 := Bel.keeps HB.out d5
        obtain ⟨m, HM⟩ : ∃ m, Hid (x.list.length = m) := ⟨_, rfl⟩
        have h24 : m ≤ 24 := by have := (hyes.out.2.2.2.2 k x HX.out).2.1; rw [HM.out] at this; exact this
        obtain ⟨la, lcap, hlv', _⟩ := hlv
        rw [HM.out] at hlv'
        subst hlv'
        obtain ⟨xk, HXK⟩ : ∃ z, Hid (x.term.k = z) := ⟨_, rfl⟩
        obtain ⟨xa, HXA⟩ : ∃ z, Hid (x.term.a = z) := ⟨_, rfl⟩
        obtain ⟨xt, HXT⟩ : ∃ z, Hid (x.term.t = z) := ⟨_, rfl⟩
        obtain ⟨xe, HXE⟩ : ∃ z, Hid (x.term.e = z) := ⟨_, rfl⟩
        rw [HXK.out] at d2
        rw [HXA.out] at d3
        rw [HXT.out] at d4
        rw [HXE.out] at d5
        go_wp2_with fail
        obtain ⟨w2, hw2⟩ : ∃ W, (wo.alloc (.cells #[.slice pa pn pcap, .slice la m lcap, .int .i64 xk, .int .i64 xa, .int .i64 xt, .int .i64 xe] 44)) = W := ⟨_, rfl⟩
        have B2 : Hid (Below wo.heap.size wo w2) := by show Below _ _ _; rw [← hw2]; repeat (first | exact Below.refl _ _ | apply Below.drew | refine Below.alloc ?_ (by simp <;> omega) _ | refine Below.setCell ?_ (by simp <;> omega) _)
        have O2 : Hid (OwnInts w2 w.heap.size u3 (copiesUp F k)) := HO.out.keep B2.out
        try rw [hw2]
        clear hw2 d0 d1 d2 d3 d4 d5
        go_loopw [3, 23] (fun s i wr => ∃ q : Nat, q ≤ m ∧ i = .int .i64 q ∧ OwnInts wr w.heap.size s (copiesUp F k ++ copiesL (x.list.take q)) ∧ s ≠ .slice none 0 0 ∧ Below w.heap.size w wr) (fun _ i _ => m - (intOf i).toNat)
        case atStart => exact ⟨0, Nat.zero_le _, rfl, by simpa [copiesL] using O2.out, HNN.out, Bel.after HB.out B2.out⟩
        case round =>
          obtain ⟨wq, hwq⟩ : ∃ x, x = wr := ⟨_, rfl⟩
          subst hwq
          obtain ⟨q, hq, rfl, ho, hnn, hB⟩ := hrel
          have HOq : Hid (OwnInts wq w.heap.size u3 (copiesUp F k ++ copiesL (x.list.take q))) := ho
          have HNNq : Hid (u3 ≠ .slice none 0 0) := hnn
          have HBq : Hid (Below w.heap.size w wq) := hB
          have hcq : (copiesUp F k ++ copiesL (x.list.take q)).length ≤ 24 * k + 24 := by
            rw [List.length_append]
            have := copiesL_len (x.list.take q)
            have h2 := List.length_take_le q x.list
            omega
          clear ho hnn hB
          by_cases hlt3 : (q : Int) < (m : Int)
          · obtain ⟨y, HY⟩ : ∃ y, Hid (x.list[q]? = some y) := ⟨_, List.getElem?_eq_getElem (by have := HM.out; omega)⟩
            obtain ⟨lb, loff, rfl, y0, y1, y2, y3, y4⟩ := listAt_at (places_keep HL.out (Keeps.of_below HBq.out 0)) HY.out
            obtain ⟨yo, HYO⟩ : ∃ z, Hid (y.op = z) := ⟨_, rfl⟩
            obtain ⟨yd, HYD⟩ : ∃ z, Hid (y.d = z) := ⟨_, rfl⟩
            obtain ⟨ya, HYA⟩ : ∃ z, Hid (y.a = z) := ⟨_, rfl⟩
            obtain ⟨yb, HYB⟩ : ∃ z, Hid (y.b = z) := ⟨_, rfl⟩
            obtain ⟨yn, HYN⟩ : ∃ z, Hid (y.n = z) := ⟨_, rfl⟩
            rw [HYO.out] at y0
            rw [HYD.out] at y1
            rw [HYA.out] at y2
            rw [HYB.out] at y3
            rw [HYN.out] at y4
            have hsz := HBq.out.size
            obtain ⟨L, HLL⟩ : ∃ L, Hid (copiesUp F k ++ copiesL (x.list.take q) = L) := ⟨_, rfl⟩
            rw [HLL.out] at HOq hcq
            by_cases hop : yo = 25
            · have HOP : Hid (y.op = 25) := HYO.out.trans hop
              have hcmp : (yo == 25) = true := by simp [hop]
              clear hop
              go_wp2_with (at_builtin; refine wpList_append_own _ rfl _ _ 33 rfl w.heap.size 3 i0 (.int .i64 0) 1 8 Try.underlying33 hi hz0 hz1 hz2 rfl (by decide) _ _ _ rfl (World.ownsRow.alloc (World.ownsRow.alloc HOq.out _) _) ⟨wq.heap.size + 1, 0, none⟩ 1 1 [.int .i64 yd] rfl rfl (by have h := cell_one_new (wq.alloc (.cells #[.int .i64 yo, .int .i64 yd, .int .i64 ya, .int .i64 yb, .int .i64 yn] 49)) (.int .i64 yd) 3; rw [show (wq.alloc (.cells #[.int .i64 yo, .int .i64 yd, .int .i64 ya, .int .i64 yb, .int .i64 yn] 49)).heap.size = wq.heap.size + 1 by simp] at h; exact h) (by simp [Value.oneCell']) (by omega) (by omega) (by simp; omega) ?_; intro v' wa hown' hgrow hnil; have HO' : Hid (OwnInts wa w.heap.size v' (L ++ [yd])) := OwnInts.next hown'; have HG : Hid (World.grownBy _ _ _) := hgrow; have HNN2 : Hid (v' ≠ .slice none 0 0) := fun h => absurd (hnil.1 h).2 (by omega); clear hown' hgrow hnil)
              go_roundw
              case rel =>
                refine ⟨q + 1, by omega, by go_num, ?_, HNN2.out, ?_⟩
                · rw [copiesL_next HY.out HOP.out, ← List.append_assoc, HLL.out, HYD.out]
                  exact HO'.out
                · exact (HBq.out.alloc hsz _).trans (OwnInts.grown (World.ownsRow.alloc HOq.out _) (by simp; omega) HG.out)
              case measure => simp [intOf]; omega
            · have HOP : Hid (y.op ≠ 25) := by show y.op ≠ 25; rw [HYO.out]; exact hop
              have hcmp : (yo == 25) = false := by simp [hop]
              clear hop
              go_wp2_with fail
              go_roundw
              case rel =>
                refine ⟨q + 1, by omega, by go_num, ?_, HNNq.out, Bel.after HBq.out (Bel.alloc _ _)⟩
                rw [copiesL_skip HY.out HOP.out, HLL.out]
                exact HOq.out.keep (Bel.alloc _ _)
              case measure => simp [intOf]; omega
          · have hqm : q = m := by omega
            subst hqm
            have HE2 : Hid (copiesUp F k ++ copiesL (x.list.take q) = copiesUp F (k + 1)) := by
              show _ = _
              rw [copiesUp_next HX.out, List.take_of_length_le (by have := HM.out; omega)]
            rw [HE2.out] at HOq
            go_wp2_with fail
            go_roundw
            case rel => exact ⟨k + 1, by omega, by go_num, HOq.out, HNNq.out, HBq.out⟩
            case measure => simp [intOf]; omega
      · have hkm : k = n := by omega
        subst hkm
        have HE2 : Hid (copiesUp F k = copyDs F) := copiesUp_all HN.out
        rw [HE2.out] at HO hcl
        obtain ⟨cn, HCN⟩ : ∃ z, Hid ((copyDs F).length = z) := ⟨_, rfl⟩
        rw [HCN.out] at hcl
        obtain ⟨g, gcap, hv⟩ : ∃ g gcap, u3 = .slice (some ⟨g, 0, none⟩) cn gcap := by
          rcases HO.out.2 with ⟨h0, _⟩ | ⟨g, cap, cur, h0, _⟩
          · exact absurd h0 HNN.out
          · exact ⟨g, cap, by rw [h0, HCN.out]⟩
        subst hv
        go_wp2_with fail
        refine (sortT_any w.heap.size g gcap cn (copyDs F) HCN.out _ HO.out (by omega)).mono ?_
        rintro e w3 ⟨⟨r, rfl⟩, o3, b3⟩
        have O3 : Hid (OwnInts w3 w.heap.size (.slice (some ⟨g, 0, none⟩) cn gcap) (sortT (copyDs F))) := o3
        have B3 : Hid (Below w.heap.size w w3) := HB.out.trans b3
        clear o3 b3
        go_wp2_with fail
        refine (compact_any w.heap.size g gcap cn (sortT (copyDs F)) ((sortT_len _).trans HCN.out) _ O3.out (by omega)).mono ?_
        rintro e w4 ⟨v4, rfl, o4, b4⟩
        have HT : Hid (Lib.compact (sortT (copyDs F)) = targetsOf F) := targets_eq hyes.out (sortT_up _) (sortT_mem _)
        rw [HT.out] at o4
        go_wp2_with fail
        go_ret
        exact ⟨_, rfl, o4, B3.out.trans b4⟩

set_option maxRecDepth 100000 in
set_option maxHeartbeats 8000000 in
theorem spec_targets (v : Value) (F : FnD) (w : World) (hF : FnAt w v F) :
    Calls Try.prog 10 #[v] w fun e w' => GivesOwn w (targetsOf F) e w' := by
  have HF : Hid (FnAt w v F) := hF
  obtain ⟨n, HN⟩ : ∃ n, Hid (F.blocks.length = n) := ⟨_, rfl⟩
  obtain ⟨vals, HV⟩ : ∃ x, Hid (F.values = x) := ⟨_, rfl⟩
  obtain ⟨ba, bcap, rfl⟩ := hF.out HN.out HV.out
  clear hF
  obtain ⟨i0, hi, hz0, hz1, hz2⟩ := info_parts info_int
  have hmx : 2000 ≤ maxLen := by decide
  go_enter Try.func10, Try.ntmps10
  go_wp2_with fail
  refine (spec_shapeOk _ F _ (HF.out.later (by repeat (first | exact Below.refl _ _ | apply Below.drew | refine Below.alloc ?_ (by simp <;> omega) _ | refine Below.setCell ?_ (by simp <;> omega) _)))).mono ?_
  rintro e w1 ⟨s1, rfl, hs1, b1⟩
  have S1 : Hid (s1 = true ↔ FnShape F) := hs1
  have HB1 : Hid (Below w.heap.size w w1) := Bel.after (by repeat (first | exact Below.refl _ _ | apply Below.drew | refine Below.alloc ?_ (by simp <;> omega) _ | refine Below.setCell ?_ (by simp <;> omega) _)) b1
  have HX1 : Hid (w1.heap[w.heap.size]? = some (.cells #[.slice ba n bcap, .int .i64 vals] 29 (0, 0))) := by
    refine (b1.block _ (by simp <;> omega)).trans ?_
    rw [Below.heap_alloc _ _ _ (by simp)]
    exact World.alloc_heap_new w _
  have O1 : Hid (OwnInts w1 w.heap.size (.slice (some ⟨w.heap.size + 1, 0, none⟩) 0 0) []) := OwnInts.keep (ownInts_nil (by simp) (by omega)) b1
  clear b1 hs1
  cases s1 with
  | false =>
    have HE : Hid (targetsOf F = []) := targetsOf_no (fun h => by have := S1.out.2 h; cases this)
    go_wp2_with fail
    go_ret
    rw [HE.out]
    exact ⟨_, rfl, O1.out, HB1.out⟩
  | true =>
    have hyes : Hid (FnShape F) := S1.out.1 rfl
    have h16 : n ≤ 16 := by have := hyes.out.2.1; rw [HN.out] at this; exact this
    have hv0 : 0 ≤ vals := by have := hyes.out.2.2.1; rw [HV.out] at this; exact this
    have hv80 : vals ≤ 80 := by have := hyes.out.2.2.2.1; rw [HV.out] at this; exact this
    clear S1
    go_wp2_with fail
    go_loopw [3, 4] (fun s i wr => ∃ k : Nat, (k : Int) ≤ vals ∧ i = .int .i64 k ∧ OwnInts wr w.heap.size s (targetsUp F k) ∧ Below w.heap.size w wr ∧ wr.heap[w.heap.size]? = some (.cells #[.slice ba n bcap, .int .i64 vals] 29 (0, 0))) (fun _ i _ => vals.toNat - (intOf i).toNat)
    case atStart => exact ⟨0, hv0, rfl, O1.out, HB1.out, HX1.out⟩
    case round =>
      obtain ⟨wo, hwo⟩ : ∃ x, x = wr := ⟨_, rfl⟩
      subst hwo
      obtain ⟨k, hk, rfl, ho, hB, hbx⟩ := hrel
      have c0 : wo.cell? ⟨w.heap.size, 0, none⟩ = some (.slice ba n bcap) := by simp [World.cell?, hbx]
      have c1 : wo.cell? ⟨w.heap.size, 1, none⟩ = some (.int .i64 vals) := by simp [World.cell?, hbx]
      have HO : Hid (OwnInts wo w.heap.size u3 (targetsUp F k)) := ho
      have HB : Hid (Below w.heap.size w wo) := hB
      have HX : Hid (wo.heap[w.heap.size]? = some (.cells #[.slice ba n bcap, .int .i64 vals] 29 (0, 0))) := hbx
      have htl := targetsUp_len F k
      clear ho hB hbx
      by_cases hlt2 : (k : Int) < vals
      · go_wp2_with fail
        go_loopw [5, 6] (fun s i wr => ∃ (j : Nat) (m : Bool), j ≤ n ∧ i = .int .i64 j ∧ s = .bool m ∧ (m = true ↔ (k : Int) ∈ copiesUp F j) ∧ Below wo.heap.size wo wr) (fun _ i _ => n - (intOf i).toNat)
        case atStart => exact ⟨0, false, Nat.zero_le _, rfl, rfl, by simp [copiesUp], Below.refl _ _⟩
        case round =>
          obtain ⟨wp, hwp⟩ : ∃ x, x = wr := ⟨_, rfl⟩
          subst hwp
          obtain ⟨j, m, hj, rfl, rfl, hm, hB⟩ := hrel
          have HMD : Hid (m = true ↔ (k : Int) ∈ copiesUp F j) := hm
          have HBp : Hid (Below wo.heap.size wo wp) := hB
          have f0 := Bel.keeps hB c0
          have f1 := Bel.keeps hB c1
          clear hm hB
          by_cases hlt3 : (j : Int) < (n : Int)
          · have hjl : j < F.blocks.length := by have := HN.out; omega
            obtain ⟨x, HX2⟩ : ∃ x, Hid (F.blocks[j]? = some x) := ⟨F.blocks[j], List.getElem?_eq_getElem hjl⟩
            obtain ⟨b, off, rfl, pv, lv, d0, d1, d2, d3, d4, d5, hpv, hlv⟩ := FnAt.blockC HF.out HN.out (by omega) HX2.out
            clear hjl hpv d0 d2 d3 d4 d5
            have HL : Hid (ListAt 0 5 InsAt w lv x.list) := hlv
            obtain ⟨ln, HLN⟩ : ∃ m, Hid (x.list.length = m) := ⟨_, rfl⟩
            have h24 : ln ≤ 24 := by have := (hyes.out.2.2.2.2 j x HX2.out).2.1; rw [HLN.out] at this; exact this
            obtain ⟨la, lcap, hlv', _⟩ := hlv
            rw [HLN.out] at hlv'
            subst hlv'
            replace d1 := Bel.keeps HB.out d1
            go_wp2_with fail
            go_loopw [5, 7] (fun s i wr => ∃ (q : Nat) (m : Bool), q ≤ ln ∧ i = .int .i64 q ∧ s = .bool m ∧ (m = true ↔ (k : Int) ∈ copiesUp F j ++ copiesL (x.list.take q)) ∧ Below wo.heap.size wo wr) (fun _ i _ => ln - (intOf i).toNat)
            case atStart => exact ⟨0, m, Nat.zero_le _, rfl, rfl, by simpa [copiesL] using HMD.out, HBp.out⟩
            case round =>
              obtain ⟨wq, hwq⟩ : ∃ x, x = wr := ⟨_, rfl⟩
              subst hwq
              obtain ⟨q, m2, hq, rfl, rfl, hm, hB⟩ := hrel
              have HM2 : Hid (m2 = true ↔ (k : Int) ∈ copiesUp F j ++ copiesL (x.list.take q)) := hm
              have HBq : Hid (Below wo.heap.size wo wq) := hB
              have g0 := Bel.keeps hB c0
              have g1 := Bel.keeps hB c1
              have e1 := Bel.keeps hB d1
              clear hm hB f0 f1
              by_cases hlt4 : (q : Int) < (ln : Int)
              · obtain ⟨y, HY⟩ : ∃ y, Hid (x.list[q]? = some y) := ⟨_, List.getElem?_eq_getElem (by have := HLN.out; omega)⟩
                obtain ⟨lb, loff, rfl, y0, y1, y2, y3, y4⟩ := listAt_at (places_keep HL.out (Keeps.of_below (Bel.after HB.out HBq.out) 0)) HY.out
                obtain ⟨yo, HYO⟩ : ∃ z, Hid (y.op = z) := ⟨_, rfl⟩
                obtain ⟨yd, HYD⟩ : ∃ z, Hid (y.d = z) := ⟨_, rfl⟩
                obtain ⟨ya, HYA⟩ : ∃ z, Hid (y.a = z) := ⟨_, rfl⟩
                obtain ⟨yb, HYB⟩ : ∃ z, Hid (y.b = z) := ⟨_, rfl⟩
                obtain ⟨yn, HYN⟩ : ∃ z, Hid (y.n = z) := ⟨_, rfl⟩
                rw [HYO.out] at y0
                rw [HYD.out] at y1
                rw [HYA.out] at y2
                rw [HYB.out] at y3
                rw [HYN.out] at y4
                have HN2 : Hid ((m2 || (decide (yo = 25) && decide (yd = (k : Int)))) = true ↔ (k : Int) ∈ copiesUp F j ++ copiesL (x.list.take (q + 1))) := by
                  show _ ↔ _
                  by_cases hop : yo = 25
                  · rw [copiesL_next HY.out (HYO.out.trans hop), ← List.append_assoc, List.mem_append, ← HM2.out, HYD.out]
                    have e1 : ((m2 || (decide ((25 : Int) = 25) && decide (yd = (k : Int)))) = true) ↔ (m2 = true ∨ (k : Int) = yd) := by cases m2 <;> simp [eq_comm]
                    rw [hop, e1, List.mem_singleton]
                  · rw [copiesL_skip HY.out (by rw [HYO.out]; exact hop), ← HM2.out]
                    have e1 : decide (yo = 25) = false := decide_eq_false hop
                    rw [e1]; cases m2 <;> simp
                cases m2
                · by_cases hop : yo = 25
                  · have hcmp : (yo == 25) = true := by simp [hop]
                    have HN3 : Hid ((yd == (k : Int)) = true ↔ (k : Int) ∈ copiesUp F j ++ copiesL (x.list.take (q + 1))) := by
                      show _ ↔ _
                      have h := HN2.out
                      rw [decide_eq_true hop, Bool.false_or, Bool.true_and] at h
                      exact h
                    clear hop HN2
                    go_wp2_with fail
                    go_roundw
                    case rel => exact ⟨q + 1, (yd == (k : Int)), by omega, by go_num, rfl, HN3.out, Bel.after HBq.out (Bel.alloc _ _)⟩
                    case measure => simp [intOf]; omega
                  · have hcmp : (yo == 25) = false := by simp [hop]
                    have HN3 : Hid (false = true ↔ (k : Int) ∈ copiesUp F j ++ copiesL (x.list.take (q + 1))) := by
                      show _ ↔ _
                      have h := HN2.out
                      rw [decide_eq_false hop, Bool.false_or, Bool.false_and] at h
                      exact h
                    clear hop HN2
                    go_wp2_with fail
                    go_roundw
                    case rel => exact ⟨q + 1, false, by omega, by go_num, rfl, HN3.out, Bel.after HBq.out (Bel.alloc _ _)⟩
                    case measure => simp [intOf]; omega
                · have HN3 : Hid (true = true ↔ (k : Int) ∈ copiesUp F j ++ copiesL (x.list.take (q + 1))) := by
                    show _ ↔ _
                    have h := HN2.out
                    rw [Bool.true_or] at h
                    exact h
                  clear HN2
                  go_wp2_with fail
                  go_roundw
                  case rel => exact ⟨q + 1, true, by omega, by go_num, rfl, HN3.out, Bel.after HBq.out (Bel.alloc _ _)⟩
                  case measure => simp [intOf]; omega
              · have hqm : q = ln := by omega
                subst hqm
                have HE2 : Hid (copiesUp F j ++ copiesL (x.list.take q) = copiesUp F (j + 1)) := by
                  show _ = _
                  rw [copiesUp_next HX2.out, List.take_of_length_le (by have := HLN.out; omega)]
                rw [HE2.out] at HM2
                go_wp2_with fail
                go_roundw
                case rel => exact ⟨j + 1, m2, by omega, by go_num, rfl, HM2.out, HBq.out⟩
                case measure => simp [intOf]; omega
          · have hjn : j = n := by omega
            subst hjn
            have HE2 : Hid (copiesUp F j = copyDs F) := copiesUp_all HN.out
            rw [HE2.out] at HMD
            have HBo : Hid (Below w.heap.size w wp) := Bel.after HB.out HBp.out
            have HOp : Hid (OwnInts wp w.heap.size u3 (targetsUp F k)) := HO.out.keep HBp.out
            have HXp : Hid (wp.heap[w.heap.size]? = some (.cells #[.slice ba j bcap, .int .i64 vals] 29 (0, 0))) := (HBp.out.block _ (Array.getElem?_eq_some_iff.1 HX.out).1).trans HX.out
            have hsz := HBo.out.size
            cases m
            · have hnot : ¬ (k : Int) ∈ copyDs F := fun h => by have := HMD.out.2 h; cases this
              have HE3 : Hid (targetsUp F (k + 1) = targetsUp F k) := targetsUp_not hnot
              clear hnot
              go_wp2_with fail
              go_roundw
              case rel => exact ⟨k + 1, by omega, by go_num, by rw [HE3.out]; exact HOp.out, HBo.out, HXp.out⟩
              case measure => simp [intOf]; omega
            · have HE3 : Hid (targetsUp F (k + 1) = targetsUp F k ++ [(k : Int)]) := targetsUp_yes (HMD.out.1 (by simp))
              obtain ⟨L, HLL⟩ : ∃ L, Hid (targetsUp F k = L) := ⟨_, rfl⟩
              rw [HLL.out] at HOp htl HE3
              go_wp2_with (at_builtin; refine wpList_append_own _ rfl _ _ 33 rfl w.heap.size 3 i0 (.int .i64 0) 1 8 Try.underlying33 hi hz0 hz1 hz2 rfl (by decide) _ _ _ rfl (World.ownsRow.alloc HOp.out _) ⟨wp.heap.size, 0, none⟩ 1 1 [.int .i64 (k : Int)] rfl rfl (cell_one_new _ _ _) (by simp [Value.oneCell']) (by omega) (by omega) (by simp; omega) ?_; intro v' wa hown' hgrow hnil; have HO' : Hid (OwnInts wa w.heap.size v' (L ++ [(k : Int)])) := OwnInts.next hown'; have HG : Hid (World.grownBy _ _ _) := hgrow; clear hown' hgrow hnil)
              go_roundw
              case rel => exact ⟨k + 1, by omega, by go_num, by rw [HE3.out]; exact HO'.out, HBo.out.trans (HOp.out.grown hsz HG.out), (HG.out.block _ (by have := (Array.getElem?_eq_some_iff.1 HXp.out).1; simp; omega) (HOp.out.not_box HXp.out (by decide))).trans ((Below.heap_alloc _ _ _ (Array.getElem?_eq_some_iff.1 HXp.out).1).trans HXp.out)⟩
              case measure => simp [intOf]; omega
      · have hkn : (k : Int) = vals := by omega
        have HE2 : Hid (targetsUp F k = targetsOf F) := by
          show _ = _
          rw [targetsOf_yes hyes.out, HV.out, show vals.toNat = k by omega]
        rw [HE2.out] at HO
        clear hkn
        go_wp2_with fail
        go_ret
        exact ⟨_, rfl, HO.out, HB.out⟩
end Go.Proofs.Ytcfbmokbapokaaa
