/- Critical edges, as mathematics. Critical of the program. Critical of the model. What a critical edge is: the law's mathematics. -/
import Derived.Test.YtfnilamkapabkaaKGraph
import Derived.Test.YtfnilamkapabkaaKEdge
import Derived.Test.YtfnilamkapabkaaKSh5
import Derived.Test.YtfnilamkapabkaaKLast
import Derived.Test.YtfnilamkapabkaaKSh8
import Derived.ChangeKeysEq
import Derived.Laws.StructEq
namespace Go.Proofs.Ytfnilamkapabkaa
set_option linter.unusedVariables false

def phiLen (F : FnD) (b : Nat) : Nat := match F.blocks[b]? with | some x => x.phis.length | none => 0
theorem phiLen_at {F : FnD} {b : Nat} {x : BlockD} (h : F.blocks[b]? = some x) : phiLen F b = x.phis.length := by simp [phiLen, h]
/-- Do others come there, too, or has it phis? -/
def critTo (F : FnD) (s : Int) : Bool := decide (1 < (predsN F s).length ∨ 0 < phiLen F s.toNat)
theorem critTo_yes {F : FnD} {s : Int} (h : 1 < (predsN F s).length ∨ 0 < phiLen F s.toNat) : critTo F s = true := decide_eq_true h
theorem critTo_no {F : FnD} {s : Int} (h1 : ¬ 1 < (predsN F s).length) (h2 : ¬ 0 < phiLen F s.toNat) : critTo F s = false := decide_eq_false (fun h => h.elim h1 h2)
def critSel (F : FnD) (a : Nat) (ss : List Int) : List ArmD := (ss.filter (critTo F)).map (fun s => ⟨(a : Int), s⟩)
theorem critSel_yes {F : FnD} {a : Nat} {ss : List Int} {s : Int} (h : critTo F s = true) : critSel F a (ss ++ [s]) = critSel F a ss ++ [⟨(a : Int), s⟩] := by simp [critSel, h]
theorem critSel_no {F : FnD} {a : Nat} {ss : List Int} {s : Int} (h : critTo F s = false) : critSel F a (ss ++ [s]) = critSel F a ss := by simp [critSel, h]
theorem critSel_len (F : FnD) (a : Nat) (ss : List Int) : (critSel F a ss).length ≤ ss.length := by
  unfold critSel
  rw [List.length_map]
  exact List.length_filter_le _ _
/-- The critical edges from block a. -/
def critFrom (F : FnD) (a : Nat) : List ArmD := if 1 < (succsN F a).length then critSel F a (succsN F a) else []
theorem critFrom_len (F : FnD) (a : Nat) : (critFrom F a).length ≤ 2 := by
  unfold critFrom
  split
  · exact Nat.le_trans (critSel_len _ _ _) (succsN_small F a)
  · simp
def critUp (F : FnD) : Nat → List ArmD
  | 0 => []
  | k + 1 => critUp F k ++ critFrom F k
theorem critUp_len (F : FnD) (k : Nat) : (critUp F k).length ≤ k * 2 := by
  induction k with
  | zero => simp [critUp]
  | succ k ih =>
    have := critFrom_len F k
    simp only [critUp, List.length_append]
    omega
open Classical in
/-- Critical, as the document says it. -/
noncomputable def critOf (F : FnD) : List ArmD := if FnShape F then critUp F F.blocks.length else []
theorem critOf_yes {F : FnD} (h : FnShape F) : critOf F = critUp F F.blocks.length := if_pos h
theorem critOf_no {F : FnD} (h : ¬ FnShape F) : critOf F = [] := if_neg h
theorem critOf_small (F : FnD) : (critOf F).length ≤ 100 := by
  by_cases h : FnShape F
  · rw [critOf_yes h]
    have h1 := critUp_len F F.blocks.length
    have h2 := h.2.1
    omega
  · rw [critOf_no h]
    simp
end Go.Proofs.Ytfnilamkapabkaa

namespace Go.Proofs.Ytfnilamkapabkaa
open Go.ChangeShapes Go.WideShapes Go.ChangeAt Go.RowKit
set_option linter.unusedVariables false

theorem info_edge : (Try.prog.info? 31).map (fun i => (i.zero, i.size, i.bytes)) = some (some (.agg #[.int .i64 0, .int .i64 0]), 2, 16) := by kernel_rfl
theorem cells_two_new (w : World) (x y : Value) (t : TypeId) : ∀ j u, [x, y][j]? = some u → (w.alloc (.cells #[x, y] t)).cell? ((⟨w.heap.size, 0, none⟩ : Addr).add j) = some u := by
  intro j u hj
  match j, hj with
  | 0, hj => simp at hj; subst hj; simp [Addr.add]
  | 1, hj => simp at hj; subst hj; simp [Addr.add]
  | j + 2, hj => simp at hj
theorem ownEdges_new {w : World} {g lo : Nat} (hg : w.heap.size = g) (hl : lo ≤ g) : OwnEdges (w.alloc (.cells #[] 31)) lo (.slice (some ⟨g, 0, none⟩) 0 0) [] := by
  subst hg
  exact ownEdges_nil (w := w) (World.alloc_heap_new w _) hl

theorem ownsRow_grown {W w1 : World} {lo : Nat} {e : TypeId} {sz k : Nat} {v : Value} {xs : List Value} (h : W.ownsRow lo e sz v k xs) (hlo : lo ≤ W.heap.size) {o : Obj} (hg : (W.alloc o).grownBy w1 v.ownBlock) : Below lo W w1 := by
  refine ((Below.refl lo W).alloc hlo o).grown hg (by simp; omega) fun j ej => ?_
  rcases h.2 with ⟨rfl, _⟩ | ⟨g, cap, cur, rfl, hb, _, _⟩
  · simp [Value.ownBlock] at ej
  · obtain rfl : g = j := by simpa [Value.ownBlock] using ej
    exact hb
theorem ownsRow_grown0 {W w1 : World} {lo : Nat} {e : TypeId} {sz k : Nat} {v : Value} {xs : List Value} (h : W.ownsRow lo e sz v k xs) (hlo : lo ≤ W.heap.size) (hg : W.grownBy w1 v.ownBlock) : Below lo W w1 := by
  refine (Below.refl lo W).grown hg (by omega) fun j ej => ?_
  rcases h.2 with ⟨rfl, _⟩ | ⟨g, cap, cur, rfl, hb, _, _⟩
  · simp [Value.ownBlock] at ej
  · obtain rfl : g = j := by simpa [Value.ownBlock] using ej
    exact hb
theorem box_aside0 {w w' : World} {lo : Nat} {u : Value} {m : List ArmD} (he : OwnEdges w lo u m) (hg : w.grownBy w' u.ownBlock) {B : Nat} {c : Array Value} {t : TypeId} {z : Nat × Nat} (hB : w.heap[B]? = some (.cells c t z)) (ht : t ≠ 31) : w'.heap[B]? = some (.cells c t z) :=
  (hg.block B (Array.getElem?_eq_some_iff.1 hB).1 (he.not_box hB ht)).trans hB
theorem edgeC_one : ∀ (l : List ArmD), ∀ u ∈ edgeC l, u.oneCell' = true
  | [], u, h => by cases h
  | e :: l, u, h => by
    rcases List.mem_cons.1 h with rfl | h
    · rfl
    · rcases List.mem_cons.1 h with rfl | h
      · rfl
      · exact edgeC_one l u h
theorem box_aside {w w' : World} {lo : Nat} {u : Value} {m : List ArmD} (he : OwnEdges w lo u m) {o : Obj} (hg : (w.alloc o).grownBy w' u.ownBlock) {B : Nat} {c : Array Value} {t : TypeId} {z : Nat × Nat} (hB : w.heap[B]? = some (.cells c t z)) (ht : t ≠ 31) : w'.heap[B]? = some (.cells c t z) := by
  have hlt := (Array.getElem?_eq_some_iff.1 hB).1
  exact (hg.block B (by simp; omega) (he.not_box hB ht)).trans ((Below.heap_alloc _ _ _ hlt).trans hB)
theorem ints_aside {w w' : World} {lo lo' : Nat} {v u : Value} {l : List Int} {m : List ArmD} (h : OwnInts w lo' v l) (he : OwnEdges w lo u m) {o : Obj} (hg : (w.alloc o).grownBy w' u.ownBlock) : OwnInts w' lo' v l := by
  obtain ⟨h0, h1⟩ := h
  refine ⟨h0, ?_⟩
  rcases h1 with h1 | ⟨g, cap, cur, rfl, hlo, hgc, h2⟩
  · exact .inl h1
  · exact .inr ⟨g, cap, cur, rfl, hlo, box_aside he hg hgc (by decide), h2⟩

/-- A list of edges is given, in new memory, and it is not nil. -/
def GivesEdgesN (w : World) (l : List ArmD) (e : Ending) (w' : World) : Prop := ∃ v, e = .returned v ∧ OwnEdges w' w.heap.size v l ∧ v ≠ .slice none 0 0 ∧ Below w.heap.size w w'

set_option maxRecDepth 100000 in
set_option maxHeartbeats 8000000 in
theorem criticalFrom_any (v : Value) (F : FnD) (a : Nat) (w : World) (hF : FnAt w v F) (hS : FnShape F) (ha : a < F.blocks.length) :
    Calls Try.prog 15 #[v, .int .i64 (a : Int)] w fun e w' => GivesEdgesN w (critFrom F a) e w' := by
  have HF : Hid (FnAt w v F) := hF
  have HS : Hid (FnShape F) := hS
  obtain ⟨n, HN⟩ : ∃ n, Hid (F.blocks.length = n) := ⟨_, rfl⟩
  obtain ⟨vals, HV⟩ : ∃ x, Hid (F.values = x) := ⟨_, rfl⟩
  obtain ⟨ba, bcap, rfl⟩ := hF.out HN.out HV.out
  have han : a < n := by have := HN.out; omega
  have hn16 : n ≤ 16 := by have := hS.2.1; have := HN.out; omega
  clear hF hS ha
  obtain ⟨i0, hi, hz0, hz1, hz2⟩ := info_parts info_edge
  have hmx : 100 ≤ maxLen := by decide
  go_enter Try.func15, Try.ntmps15
  go_wp2_with fail
  obtain ⟨w1, hw1⟩ : ∃ W, (w.alloc (.cells #[.slice ba n bcap, .int .i64 vals] 26)).alloc (.cells #[] 31) = W := ⟨_, rfl⟩
  have B1 : Hid (Below w.heap.size w w1) := by show Below _ _ _; rw [← hw1]; repeat (first | exact Below.refl _ _ | apply Below.drew | refine Below.alloc ?_ (by simp <;> omega) _ | refine Below.setCell ?_ (by simp <;> omega) _)
  have O1 : Hid (OwnEdges w1 w.heap.size (.slice (some ⟨w.heap.size + 1, 0, none⟩) 0 0) []) := by show OwnEdges _ _ _ _; rw [← hw1]; exact ownEdges_new (by simp) (by omega)
  have X1 : Hid (w1.heap[w.heap.size]? = some (.cells #[.slice ba n bcap, .int .i64 vals] 26 (0, 0))) := by
    show _ = _
    rw [← hw1, Below.heap_alloc _ _ _ (by simp)]
    exact World.alloc_heap_new w _
  rw [hw1]
  clear hw1
  refine (impl_succs _ F (a : Int) _ (HF.out.later B1.out)).mono ?_
  have HSE : Hid (succsOf F (a : Int) = succsN F a) := by
    show _ = _
    rw [succsOf_yes HS.out (by omega) (by have := HN.out; omega)]
    rfl
  rw [HSE.out]
  rintro e w2 ⟨sv, rfl, hs2, b2⟩
  have B2 : Hid (Below w.heap.size w w2) := Bel.after B1.out b2
  have O2 : Hid (OwnEdges w2 w.heap.size (.slice (some ⟨w.heap.size + 1, 0, none⟩) 0 0) []) := O1.out.keep b2
  have X2 : Hid (w2.heap[w.heap.size]? = some (.cells #[.slice ba n bcap, .int .i64 vals] 26 (0, 0))) := (b2.block _ (Array.getElem?_eq_some_iff.1 X1.out).1).trans X1.out
  have hs1 := B1.out.size
  have S2 : Hid (OwnInts w2 w.heap.size sv (succsN F a)) := hs2.low (by omega)
  obtain ⟨m, HM⟩ : ∃ q, Hid ((succsN F a).length = q) := ⟨_, rfl⟩
  have hm2 : m ≤ 2 := by rw [← HM.out]; exact succsN_small F a
  obtain ⟨sa, scap, rfl, hsl, _⟩ := hs2.at
  rw [HM.out] at hsl S2 ⊢
  clear hs2 b2
  by_cases hm : (m : Int) < 2
  · have HE : Hid (critFrom F a = []) := by
      show _ = _
      unfold critFrom
      rw [if_neg (by have := HM.out; omega)]
    go_wp2_with fail
    go_ret
    rw [HE.out]
    exact ⟨_, rfl, O2.out, by simp, B2.out⟩
  · have HE : Hid (critFrom F a = critSel F a (succsN F a)) := by
      show _ = _
      unfold critFrom
      rw [if_pos (by have := HM.out; omega)]
    go_wp2_with fail
    go_loopw [5, 19] (fun s i wr => ∃ k : Nat, k ≤ m ∧ i = .int .i64 (k : Int) ∧ OwnEdges wr w.heap.size s (critSel F a ((succsN F a).take k)) ∧ s ≠ .slice none 0 0 ∧ Below w.heap.size w wr ∧ wr.heap[w.heap.size]? = some (.cells #[.slice ba n bcap, .int .i64 vals] 26 (0, 0)) ∧ OwnInts wr w.heap.size (.slice sa m scap) (succsN F a)) (fun _ i _ => m - (intOf i).toNat)
    case atStart => exact ⟨0, Nat.zero_le _, rfl, O2.out, by simp, B2.out, X2.out, S2.out⟩
    case round =>
      obtain ⟨wq, hwq⟩ : ∃ x, x = wr := ⟨_, rfl⟩
      subst hwq
      obtain ⟨k, hk, rfl, ho, hnn, hB, hbx, hsi⟩ := hrel
      have HNN : Hid (u5 ≠ .slice none 0 0) := hnn
      have HO : Hid (OwnEdges wq w.heap.size u5 (critSel F a ((succsN F a).take k))) := ho
      have HB : Hid (Below w.heap.size w wq) := hB
      have HX : Hid (wq.heap[w.heap.size]? = some (.cells #[.slice ba n bcap, .int .i64 vals] 26 (0, 0))) := hbx
      have HSI : Hid (OwnInts wq w.heap.size (.slice sa m scap) (succsN F a)) := hsi
      have c0 : wq.cell? ⟨w.heap.size, 0, none⟩ = some (.slice ba n bcap) := by simp [World.cell?, hbx]
      have c1 : wq.cell? ⟨w.heap.size, 1, none⟩ = some (.int .i64 vals) := by simp [World.cell?, hbx]
      have hcl : (critSel F a ((succsN F a).take k)).length ≤ 2 := Nat.le_trans (critSel_len _ _ _) (by simp; omega)
      clear ho hB hbx hsi hnn
      by_cases hlt : (k : Int) < (m : Int)
      · obtain ⟨sb, soff, rfl, sc⟩ := IntsAt.cellsQ HSI.out.at k (by omega)
        obtain ⟨sx, HSX⟩ : ∃ q, Hid ((succsN F a).getD k 0 = q) := ⟨_, rfl⟩
        rw [HSX.out] at sc
        have hin := succs_in HS.out a sx (by rw [← HSX.out]; exact getD_in (by have := HM.out; omega))
        obtain ⟨s, hs⟩ : ∃ s : Nat, sx = (s : Int) := ⟨sx.toNat, by omega⟩
        subst hs
        have hsn : s < n := by have := HN.out; omega
        obtain ⟨x, hx⟩ : ∃ x, F.blocks[s]? = some x := ⟨_, List.getElem?_eq_getElem (by have := HN.out; omega)⟩
        have HTK : Hid ((succsN F a).take (k + 1) = (succsN F a).take k ++ [(s : Int)]) := by
          show _ = _
          rw [take_next (by have := HM.out; omega), HSX.out]
        have HPL : Hid (phiLen F s = x.phis.length) := phiLen_at hx
        obtain ⟨b, off, rfl, hat⟩ := (HF.out.later HB.out).blockC HN.out hsn hx
        obtain ⟨pv, lv, b0, _, _, _, _, _, hps, _⟩ := hat
        obtain ⟨np, HNP⟩ : ∃ q, Hid (x.phis.length = q) := ⟨_, rfl⟩
        obtain ⟨pa, pcap, rfl, hpm, _⟩ := hps
        rw [HNP.out] at b0 hpm HPL
        clear hx hin
        by_cases hp : (0 : Int) < (np : Int)
        · have HY : Hid (critTo F (s : Int) = true) := critTo_yes (.inr (by show 0 < phiLen F s; rw [HPL.out]; omega))
          have hp2 : (np : Int) > 0 := hp
          go_wp2_with (at_builtin; refine wpList_append_own _ rfl _ _ 28 rfl w.heap.size 31 i0 (.agg #[.int .i64 0, .int .i64 0]) 2 16 Try.underlying28 hi hz0 hz1 hz2 rfl (by decide) _ _ _ rfl (World.ownsRow.alloc HO.out _) ⟨wq.heap.size, 0, none⟩ 1 1 [.int .i64 (a : Int), .int .i64 (s : Int)] rfl rfl (cells_two_new _ _ _ _) (by simp [Value.oneCell']) (by omega) (by omega) (by have := HB.out.size; simp; omega) ?_; intro v' wa hown' hgrow hnil; have HO' : Hid (OwnEdges wa w.heap.size v' (critSel F a ((succsN F a).take k) ++ [⟨(a : Int), (s : Int)⟩])) := OwnEdges.next hown'; have HG : Hid (World.grownBy _ _ _) := hgrow; have HNN2 : Hid (v' ≠ .slice none 0 0) := fun h => absurd (hnil.1 h).2 (by omega); clear hown' hgrow hnil)
          go_roundw
          case rel => exact ⟨k + 1, by omega, by go_num, by rw [HTK.out, critSel_yes HY.out]; exact HO'.out, HNN2.out, HB.out.trans (ownsRow_grown HO.out HB.out.size HG.out), box_aside HO.out HG.out HX.out (by decide), ints_aside HSI.out HO.out HG.out⟩
          case measure => simp [intOf]; omega
        · go_wp2_with fail
          refine (impl_preds _ F (s : Int) _ (HF.out.later HB.out)).mono ?_
          have HPE : Hid (predsOf F (s : Int) = predsN F (s : Int)) := predsOf_yes HS.out (by omega) (by have := HN.out; omega)
          rw [HPE.out]
          rintro e w3 ⟨qv, rfl, hq, b3⟩
          obtain ⟨ql, HQL⟩ : ∃ q, Hid ((predsN F (s : Int)).length = q) := ⟨_, rfl⟩
          obtain ⟨qa, qcap, rfl, hql, _⟩ := hq.at
          rw [HQL.out] at hql ⊢
          have HB3 : Hid (Below w.heap.size w w3) := Bel.after HB.out b3
          have HO3 : Hid (OwnEdges w3 w.heap.size u5 (critSel F a ((succsN F a).take k))) := HO.out.keep b3
          have HSI3 : Hid (OwnInts w3 w.heap.size (.slice (some ⟨sb, soff, none⟩) m scap) (succsN F a)) := HSI.out.keep b3
          have HX3 : Hid (w3.heap[w.heap.size]? = some (.cells #[.slice (some ⟨b, off, none⟩) n bcap, .int .i64 vals] 26 (0, 0))) := (b3.block _ (Array.getElem?_eq_some_iff.1 HX.out).1).trans HX.out
          clear hq b3 c0 c1 sc b0
          by_cases hq1 : (1 : Int) < (ql : Int)
          · have HY : Hid (critTo F (s : Int) = true) := critTo_yes (.inl (by have := HQL.out; omega))
            have hq2 : (ql : Int) > 1 := hq1
            go_wp2_with (at_builtin; refine wpList_append_own _ rfl _ _ 28 rfl w.heap.size 31 i0 (.agg #[.int .i64 0, .int .i64 0]) 2 16 Try.underlying28 hi hz0 hz1 hz2 rfl (by decide) _ _ _ rfl (World.ownsRow.alloc HO3.out _) ⟨w3.heap.size, 0, none⟩ 1 1 [.int .i64 (a : Int), .int .i64 (s : Int)] rfl rfl (cells_two_new _ _ _ _) (by simp [Value.oneCell']) (by omega) (by omega) (by have := HB3.out.size; simp; omega) ?_; intro v' wa hown' hgrow hnil; have HO' : Hid (OwnEdges wa w.heap.size v' (critSel F a ((succsN F a).take k) ++ [⟨(a : Int), (s : Int)⟩])) := OwnEdges.next hown'; have HG : Hid (World.grownBy _ _ _) := hgrow; have HNN2 : Hid (v' ≠ .slice none 0 0) := fun h => absurd (hnil.1 h).2 (by omega); clear hown' hgrow hnil)
            go_roundw
            case rel => exact ⟨k + 1, by omega, by go_num, by rw [HTK.out, critSel_yes HY.out]; exact HO'.out, HNN2.out, HB3.out.trans (ownsRow_grown HO3.out HB3.out.size HG.out), box_aside HO3.out HG.out HX3.out (by decide), ints_aside HSI3.out HO3.out HG.out⟩
            case measure => simp [intOf]; omega
          · have HY : Hid (critTo F (s : Int) = false) := critTo_no (by have := HQL.out; omega) (by show ¬ 0 < phiLen F s; rw [HPL.out]; omega)
            go_wp2_with fail
            go_roundw
            case rel => exact ⟨k + 1, by omega, by go_num, by rw [HTK.out, critSel_no HY.out]; exact HO3.out, HNN.out, HB3.out, HX3.out, HSI3.out⟩
            case measure => simp [intOf]; omega
      · have hkm : k = m := by omega
        subst hkm
        go_wp2_with fail
        go_ret
        rw [HE.out]
        refine ⟨_, rfl, ?_, HNN.out, HB.out⟩
        have h := HO.out
        rw [List.take_of_length_le (by have := HM.out; omega)] at h
        exact h

set_option maxRecDepth 100000 in
set_option maxHeartbeats 8000000 in
theorem impl_critical (v : Value) (F : FnD) (w : World) (hF : FnAt w v F) :
    Calls Try.prog 6 #[v] w fun e w' => GivesEdges w (critOf F) e w' := by
  have HF : Hid (FnAt w v F) := hF
  obtain ⟨n, HN⟩ : ∃ n, Hid (F.blocks.length = n) := ⟨_, rfl⟩
  obtain ⟨vals, HV⟩ : ∃ x, Hid (F.values = x) := ⟨_, rfl⟩
  obtain ⟨ba, bcap, rfl⟩ := hF.out HN.out HV.out
  clear hF
  obtain ⟨i0, hi, hz0, hz1, hz2⟩ := info_parts info_edge
  have hmx : 100 ≤ maxLen := by decide
  go_enter Try.func6, Try.ntmps6
  go_wp2_with fail
  obtain ⟨w1, hw1⟩ : ∃ W, (w.alloc (.cells #[.slice ba n bcap, .int .i64 vals] 26)).alloc (.cells #[] 31) = W := ⟨_, rfl⟩
  have B1 : Hid (Below w.heap.size w w1) := by show Below _ _ _; rw [← hw1]; repeat (first | exact Below.refl _ _ | apply Below.drew | refine Below.alloc ?_ (by simp <;> omega) _ | refine Below.setCell ?_ (by simp <;> omega) _)
  have O1 : Hid (OwnEdges w1 w.heap.size (.slice (some ⟨w.heap.size + 1, 0, none⟩) 0 0) []) := by show OwnEdges _ _ _ _; rw [← hw1]; exact ownEdges_new (by simp) (by omega)
  have X1 : Hid (w1.heap[w.heap.size]? = some (.cells #[.slice ba n bcap, .int .i64 vals] 26 (0, 0))) := by
    show _ = _
    rw [← hw1, Below.heap_alloc _ _ _ (by simp)]
    exact World.alloc_heap_new w _
  rw [hw1]
  clear hw1
  refine (impl_shapeOk _ F _ (HF.out.later B1.out)).mono ?_
  rintro e w2 ⟨t, rfl, ht, b2⟩
  have B2 : Hid (Below w.heap.size w w2) := Bel.after B1.out b2
  have O2 : Hid (OwnEdges w2 w.heap.size (.slice (some ⟨w.heap.size + 1, 0, none⟩) 0 0) []) := O1.out.keep b2
  have X2 : Hid (w2.heap[w.heap.size]? = some (.cells #[.slice ba n bcap, .int .i64 vals] 26 (0, 0))) := (b2.block _ (Array.getElem?_eq_some_iff.1 X1.out).1).trans X1.out
  have ST : Hid (t = true ↔ FnShape F) := ht
  clear ht b2
  cases t with
  | false =>
    have HE : Hid (critOf F = []) := critOf_no (fun h => by have := ST.out.2 h; cases this)
    go_wp2_with fail
    go_ret
    rw [HE.out]
    exact ⟨_, rfl, O2.out, B2.out⟩
  | true =>
    have HS : Hid (FnShape F) := ST.out.1 rfl
    have hn16 : n ≤ 16 := by have := HS.out.2.1; have := HN.out; omega
    have HE : Hid (critOf F = critUp F n) := by show _ = _; rw [critOf_yes HS.out, HN.out]
    have c0 : w2.cell? ⟨w.heap.size, 0, none⟩ = some (.slice ba n bcap) := by simp [World.cell?, X2.out]
    go_wp2_with fail
    clear c0
    go_loopw [3, 13] (fun s i wr => ∃ k : Nat, k ≤ n ∧ i = .int .i64 (k : Int) ∧ OwnEdges wr w.heap.size s (critUp F k) ∧ Below w.heap.size w wr ∧ wr.heap[w.heap.size]? = some (.cells #[.slice ba n bcap, .int .i64 vals] 26 (0, 0))) (fun _ i _ => n - (intOf i).toNat)
    case atStart => exact ⟨0, Nat.zero_le _, rfl, O2.out, B2.out, X2.out⟩
    case round =>
      obtain ⟨wq, hwq⟩ : ∃ x, x = wr := ⟨_, rfl⟩
      subst hwq
      obtain ⟨k, hk, rfl, ho, hB, hbx⟩ := hrel
      have HO : Hid (OwnEdges wq w.heap.size u3 (critUp F k)) := ho
      have HB : Hid (Below w.heap.size w wq) := hB
      have HX : Hid (wq.heap[w.heap.size]? = some (.cells #[.slice ba n bcap, .int .i64 vals] 26 (0, 0))) := hbx
      have c0 : wq.cell? ⟨w.heap.size, 0, none⟩ = some (.slice ba n bcap) := by simp [World.cell?, hbx]
      have c1 : wq.cell? ⟨w.heap.size, 1, none⟩ = some (.int .i64 vals) := by simp [World.cell?, hbx]
      have hcl := critUp_len F k
      clear ho hB hbx
      by_cases hlt : (k : Int) < (n : Int)
      · go_wp2_with fail
        refine (criticalFrom_any _ F k _ (HF.out.later HB.out) HS.out (by have := HN.out; omega)).mono ?_
        rintro e w3 ⟨qv, rfl, hq, hqn, b3⟩
        have hcf := critFrom_len F k
        have HB3 : Hid (Below w.heap.size w w3) := Bel.after HB.out b3
        have HO3 : Hid (OwnEdges w3 w.heap.size u3 (critUp F k)) := HO.out.keep b3
        have HX3 : Hid (w3.heap[w.heap.size]? = some (.cells #[.slice ba n bcap, .int .i64 vals] 26 (0, 0))) := (b3.block _ (Array.getElem?_eq_some_iff.1 HX.out).1).trans HX.out
        obtain ⟨g, gcap, hv, hgc⟩ : ∃ g gcap, qv = .slice (some ⟨g, 0, none⟩) (critFrom F k).length gcap ∧ ∀ j u, (edgeC (critFrom F k))[j]? = some u → w3.cell? ((⟨g, 0, none⟩ : Addr).add j) = some u := by
          rcases hq.2 with ⟨h0, _⟩ | ⟨g, cap, cur, h0, _, hg, h1, h2, h3, h4⟩
          · exact absurd h0 hqn
          · refine ⟨g, cap, h0, fun j u hj => ?_⟩
            have hjl : j < (critFrom F k).length * 2 := by have := (List.getElem?_eq_some_iff.1 hj).1; rw [edgeC_len] at this; exact this
            rw [← h4, List.getElem?_take_of_lt hjl] at hj
            have ea : (⟨g, 0, none⟩ : Addr).add j = ⟨g, j, none⟩ := by cases j <;> simp [Addr.add]
            rw [ea]
            simp only [World.cell?, hg]
            simpa using hj
        subst hv
        obtain ⟨fl, HFL⟩ : ∃ q, Hid ((critFrom F k).length = q) := ⟨_, rfl⟩
        have HGC : Hid (∀ j u, (edgeC (critFrom F k))[j]? = some u → w3.cell? ((⟨g, 0, none⟩ : Addr).add j) = some u) := hgc
        have HEL : Hid ((edgeC (critFrom F k)).length = fl * 2) := by show _ = _; rw [edgeC_len, HFL.out]
        rw [HFL.out] at hcf ⊢
        clear hq hqn b3 hgc c0 c1
        go_wp2_with (at_builtin; refine wpList_append_own _ rfl _ _ 28 rfl w.heap.size 31 i0 (.agg #[.int .i64 0, .int .i64 0]) 2 16 Try.underlying28 hi hz0 hz1 hz2 rfl (by decide) _ _ _ rfl HO3.out ⟨g, 0, none⟩ fl gcap (edgeC (critFrom F k)) rfl HEL.out HGC.out (by intro u hu; exact edgeC_one _ u hu) (by omega) (by omega) (by have := HB3.out.size; omega) ?_; intro v' wa hown' hgrow hnil; have HO' : Hid (OwnEdges wa w.heap.size v' (critUp F k ++ critFrom F k)) := OwnEdges.more (by rw [HFL.out]; exact hown'); have HG : Hid (World.grownBy _ _ _) := hgrow; clear hown' hgrow hnil)
        go_roundw
        case rel => exact ⟨k + 1, by omega, by go_num, HO'.out, HB3.out.trans (ownsRow_grown0 HO3.out HB3.out.size HG.out), box_aside0 HO3.out HG.out HX3.out (by decide)⟩
        case measure => simp [intOf]; omega
      · have hkn : k = n := by omega
        subst hkn
        go_wp2_with fail
        go_ret
        rw [HE.out]
        exact ⟨_, rfl, HO.out, HB.out⟩
end Go.Proofs.Ytfnilamkapabkaa

namespace Go.Proofs.Ytfnilamkapabkaa
open Go.ChangeShapes Go.WideShapes Go.ChangeAt Go.RowKit
set_option linter.unusedVariables false

set_option maxRecDepth 100000 in
set_option maxHeartbeats 16000000 in
theorem l8Critical_any (v : Value) (F : FnD) (w : World) (hF : FnAt w v F) (hS : FnShape F) :
    Calls Try.prog 16 #[v] w fun e w' => GivesEdges w (critUp F F.blocks.length) e w' := by
  have HF : Hid (FnAt w v F) := hF
  have HS : Hid (FnShape F) := hS
  obtain ⟨n, HN⟩ : ∃ n, Hid (F.blocks.length = n) := ⟨_, rfl⟩
  obtain ⟨vals, HV⟩ : ∃ x, Hid (F.values = x) := ⟨_, rfl⟩
  obtain ⟨ba, bcap, rfl⟩ := hF.out HN.out HV.out
  have hn16 : n ≤ 16 := by have := hS.2.1; have := HN.out; omega
  rw [HN.out]
  clear hF hS
  obtain ⟨i0, hi, hz0, hz1, hz2⟩ := info_parts info_edge
  have hmx : 100 ≤ maxLen := by decide
  go_enter Try.func16, Try.ntmps16
  go_wp2_with fail
  obtain ⟨w1, hw1⟩ : ∃ W, (w.alloc (.cells #[.slice ba n bcap, .int .i64 vals] 26)).alloc (.cells #[] 31) = W := ⟨_, rfl⟩
  have B1 : Hid (Below w.heap.size w w1) := by show Below _ _ _; rw [← hw1]; repeat (first | exact Below.refl _ _ | apply Below.drew | refine Below.alloc ?_ (by simp <;> omega) _ | refine Below.setCell ?_ (by simp <;> omega) _)
  have O1 : Hid (OwnEdges w1 w.heap.size (.slice (some ⟨w.heap.size + 1, 0, none⟩) 0 0) []) := by show OwnEdges _ _ _ _; rw [← hw1]; exact ownEdges_new (by simp) (by omega)
  have X1 : Hid (w1.heap[w.heap.size]? = some (.cells #[.slice ba n bcap, .int .i64 vals] 26 (0, 0))) := by
    show _ = _
    rw [← hw1, Below.heap_alloc _ _ _ (by simp)]
    exact World.alloc_heap_new w _
  rw [hw1]
  clear hw1
  go_loopw [3, 4] (fun s i wr => ∃ k : Nat, k ≤ n ∧ i = .int .i64 (k : Int) ∧ OwnEdges wr w.heap.size s (critUp F k) ∧ Below w.heap.size w wr ∧ wr.heap[w.heap.size]? = some (.cells #[.slice ba n bcap, .int .i64 vals] 26 (0, 0))) (fun _ i _ => n - (intOf i).toNat)
  case atStart => exact ⟨0, Nat.zero_le _, rfl, O1.out, B1.out, X1.out⟩
  case round =>
    obtain ⟨wq, hwq⟩ : ∃ x, x = wr := ⟨_, rfl⟩
    subst hwq
    obtain ⟨k, hk, rfl, ho, hB, hbx⟩ := hrel
    have HOq : Hid (OwnEdges wq w.heap.size u3 (critUp F k)) := ho
    have HBq : Hid (Below w.heap.size w wq) := hB
    have HXq : Hid (wq.heap[w.heap.size]? = some (.cells #[.slice ba n bcap, .int .i64 vals] 26 (0, 0))) := hbx
    have c0 : wq.cell? ⟨w.heap.size, 0, none⟩ = some (.slice ba n bcap) := by simp [World.cell?, hbx]
    have c1 : wq.cell? ⟨w.heap.size, 1, none⟩ = some (.int .i64 vals) := by simp [World.cell?, hbx]
    have hcu := critUp_len F k
    clear ho hB hbx
    by_cases hlt : (k : Int) < (n : Int)
    · have hkn : k < n := by omega
      go_wp2_with fail
      refine (l3Succs_any _ F k _ (HF.out.later HBq.out) (by have := HN.out; omega)).mono ?_
      rintro e w3 ⟨sv, rfl, hs3, b3⟩
      have HB3 : Hid (Below w.heap.size w w3) := Bel.after HBq.out b3
      have HO3 : Hid (OwnEdges w3 w.heap.size u3 (critUp F k)) := HOq.out.keep b3
      have HX3 : Hid (w3.heap[w.heap.size]? = some (.cells #[.slice ba n bcap, .int .i64 vals] 26 (0, 0))) := (b3.block _ (Array.getElem?_eq_some_iff.1 HXq.out).1).trans HXq.out
      have S3 : Hid (OwnInts w3 w.heap.size sv (succsN F k)) := hs3.low HBq.out.size
      obtain ⟨m, HM⟩ : ∃ q, Hid ((succsN F k).length = q) := ⟨_, rfl⟩
      have hm2 : m ≤ 2 := by rw [← HM.out]; exact succsN_small F k
      obtain ⟨sa, scap, rfl, hsl, _⟩ := hs3.at
      rw [HM.out] at hsl S3 ⊢
      clear hs3 b3 c0 c1
      by_cases hm : (1 : Int) < (m : Int)
      · have hmg : (m : Int) > 1 := hm
        have HE : Hid (critUp F (k + 1) = critUp F k ++ critSel F k (succsN F k)) := by
          show critUp F k ++ critFrom F k = _
          unfold critFrom
          rw [if_pos (by have := HM.out; omega)]
        go_wp2_with fail
        go_loopw [3, 6] (fun s i wr => ∃ j : Nat, j ≤ m ∧ i = .int .i64 (j : Int) ∧ OwnEdges wr w.heap.size s (critUp F k ++ critSel F k ((succsN F k).take j)) ∧ Below w.heap.size w wr ∧ wr.heap[w.heap.size]? = some (.cells #[.slice ba n bcap, .int .i64 vals] 26 (0, 0)) ∧ OwnInts wr w.heap.size (.slice sa m scap) (succsN F k)) (fun _ i _ => m - (intOf i).toNat)
        case atStart => exact ⟨0, Nat.zero_le _, rfl, by simpa [critSel] using HO3.out, HB3.out, HX3.out, S3.out⟩
        case round =>
          obtain ⟨wj, hwq⟩ : ∃ x, x = wr := ⟨_, rfl⟩
          subst hwq
          obtain ⟨j, hj, rfl, ho, hB, hbx, hsi⟩ := hrel
          have HO : Hid (OwnEdges wj w.heap.size u3 (critUp F k ++ critSel F k ((succsN F k).take j))) := ho
          have HB : Hid (Below w.heap.size w wj) := hB
          have HX : Hid (wj.heap[w.heap.size]? = some (.cells #[.slice ba n bcap, .int .i64 vals] 26 (0, 0))) := hbx
          have HSI : Hid (OwnInts wj w.heap.size (.slice sa m scap) (succsN F k)) := hsi
          have c0 : wj.cell? ⟨w.heap.size, 0, none⟩ = some (.slice ba n bcap) := by simp [World.cell?, hbx]
          have c1 : wj.cell? ⟨w.heap.size, 1, none⟩ = some (.int .i64 vals) := by simp [World.cell?, hbx]
          have hcl : (critUp F k ++ critSel F k ((succsN F k).take j)).length ≤ 34 := by
            rw [List.length_append]
            have := critSel_len F k ((succsN F k).take j)
            simp at this
            omega
          clear ho hB hbx hsi
          by_cases hltj : (j : Int) < (m : Int)
          · obtain ⟨sb, soff, rfl, sc⟩ := IntsAt.cellsQ HSI.out.at j (by omega)
            obtain ⟨sx, HSX⟩ : ∃ q, Hid ((succsN F k).getD j 0 = q) := ⟨_, rfl⟩
            rw [HSX.out] at sc
            have hin := succs_in HS.out k sx (by rw [← HSX.out]; exact getD_in (by have := HM.out; omega))
            obtain ⟨s, hs⟩ : ∃ s : Nat, sx = (s : Int) := ⟨sx.toNat, by omega⟩
            subst hs
            have hsn : s < n := by have := HN.out; omega
            have hsi2 : (s : Int) < (n : Int) := by omega
            obtain ⟨x, hx⟩ : ∃ x, F.blocks[s]? = some x := ⟨_, List.getElem?_eq_getElem (by have := HN.out; omega)⟩
            have HTK : Hid ((succsN F k).take (j + 1) = (succsN F k).take j ++ [(s : Int)]) := by
              show _ = _
              rw [take_next (by have := HM.out; omega), HSX.out]
            have HPL : Hid (phiLen F s = x.phis.length) := phiLen_at hx
            obtain ⟨b, off, rfl, hat⟩ := (HF.out.later HB.out).blockC HN.out hsn hx
            obtain ⟨pv, lv, b0, _, _, _, _, _, hps, _⟩ := hat
            obtain ⟨np, HNP⟩ : ∃ q, Hid (x.phis.length = q) := ⟨_, rfl⟩
            obtain ⟨pa, pcap, rfl, hpm, _⟩ := hps
            rw [HNP.out] at b0 hpm HPL
            obtain ⟨ql, HQL⟩ : ∃ q, Hid ((predsN F (s : Int)).length = q) := ⟨_, rfl⟩
            clear hx hin
            go_wp2_with fail
            by_cases hq1 : (1 : Int) < (ql : Int)
            · have HY : Hid (critTo F (s : Int) = true) := critTo_yes (.inl (by have := HQL.out; omega))
              have hq2 : (ql : Int) > 1 := hq1
              refine wp_region_held_drew (S := fun w' => w'.cell? ⟨w.heap.size, 0, none⟩ = some (.slice (some ⟨b, off, none⟩) n bcap) ∧ w'.cell? ⟨w.heap.size, 1, none⟩ = some (.int .i64 vals) ∧ w'.cell? ⟨sb, soff + j, none⟩ = some (.int .i64 (s : Int)) ∧ w'.cell? ⟨b, off + s * 6, none⟩ = some (.slice pa np pcap)) (by kernel_rfl) ⟨c0, c1, sc, b0⟩ (fun hHeld => ?_)
              refine wpAnyH_take (i := 0) (oi := { dst := some 29, op := Go.Op.load 26 (Go.Operand.tmp 1), type := 26, pos := "l08_edge.go:11", after := #[], guard := none }) (v := ?_) rfl (by kernel_rfl) (by kernel_rfl) (by kernel_rfl) (fun _ _ _ h => h) (Or.inl ⟨by rfl, ?_⟩) (by assumption) ?_
              rotate_left
              · intro w hSw
                (try dsimp only at hSw)
                go_simp
                (try with_reducible rfl)
              try simp only [Act.put, List.setIfInBounds_toArray, List.set_cons_zero, List.set_cons_succ]
              refine wpAnyH_take (i := 1) (oi := { dst := some 30, op := Go.Op.move (Go.Operand.tmp 5), type := 32, pos := "l08_edge.go:11", after := #[], guard := none }) (v := ?_) rfl (by kernel_rfl) (by kernel_rfl) (by kernel_rfl) (fun _ _ _ h => h) (Or.inl ⟨by rfl, ?_⟩) (by assumption) ?_
              rotate_left
              · intro w hSw
                (try dsimp only at hSw)
                go_simp
                (try with_reducible rfl)
              try simp only [Act.put, List.setIfInBounds_toArray, List.set_cons_zero, List.set_cons_succ]
              refine wpAnyH_take (i := 2) (oi := { dst := some 31, op := Go.Op.move (Go.Operand.tmp 6), type := 3, pos := "l08_edge.go:11", after := #[], guard := none }) (v := ?_) rfl (by kernel_rfl) (by kernel_rfl) (by kernel_rfl) (fun _ _ _ h => h) (Or.inl ⟨by rfl, ?_⟩) (by assumption) ?_
              rotate_left
              · intro w hSw
                (try dsimp only at hSw)
                go_simp
                (try with_reducible rfl)
              try simp only [Act.put, List.setIfInBounds_toArray, List.set_cons_zero, List.set_cons_succ]
              refine wpAnyH_take (i := 3) (oi := { dst := some 32, op := Go.Op.indexAddr 32 (Go.Operand.tmp 30) (Go.Operand.tmp 31), type := 0, pos := "l08_edge.go:11", after := #[{ on := 1, ground := Go.Ground.data }, { on := 2, ground := Go.Ground.data }], guard := none }) (v := ?_) rfl (by kernel_rfl) (by kernel_rfl) (by kernel_rfl) (fun _ _ _ h => h) (Or.inl ⟨by rfl, ?_⟩) (by assumption) ?_
              rotate_left
              · intro w hSw
                (try dsimp only at hSw)
                go_simp
                (try with_reducible rfl)
              try simp only [Act.put, List.setIfInBounds_toArray, List.set_cons_zero, List.set_cons_succ]
              refine wpAnyH_take (i := 4) (oi := { dst := some 33, op := Go.Op.load 3 (Go.Operand.tmp 32), type := 3, pos := "l08_edge.go:11", after := #[{ on := 3, ground := Go.Ground.data }], guard := none }) (v := ?_) rfl (by kernel_rfl) (by kernel_rfl) (by kernel_rfl) (fun _ _ _ h => h) (Or.inl ⟨by rfl, ?_⟩) (by assumption) ?_
              rotate_left
              · intro w hSw
                (try dsimp only at hSw)
                go_simp
                (try with_reducible rfl)
              try simp only [Act.put, List.setIfInBounds_toArray, List.set_cons_zero, List.set_cons_succ]
              refine ckAnyH_oneK (i := 5) (o := { dst := some 34, op := Go.Op.call { callee := Go.Callee.value (Go.Operand.func 30), args := #[Go.Operand.tmp 29, Go.Operand.tmp 33], argTypes := #[26, 3] }, type := 32, pos := "l08_edge.go:11", after := #[{ on := 0, ground := Go.Ground.data }, { on := 4, ground := Go.Ground.data }], guard := none }) rfl rfl (by kernel_rfl) (fun K9 hK9 => ?_)
              refine wp_call_of (f := 30) (args := #[.agg #[.slice (some ⟨b, off, none⟩) n bcap, .int .i64 vals], .int .i64 (s : Int)]) (by go_simp) (l3Preds_any _ F (s : Int) _ (HF.out.later HB.out.drew) (by have := HN.out; omega)) ?_
              rintro e w4 ⟨qv, rfl, hq, b4⟩
              obtain ⟨qa, qcap, rfl, hql, _⟩ := hq.at
              rw [HQL.out] at hql ⊢
              have B4 : Hid (Below wj.heap.size wj w4) := Bel.after ((Below.refl _ _).drew) b4
              refine ⟨_, rfl, ?_⟩
              refine hK9 _ _ ⟨⟨Bel.keeps B4.out c0, Bel.keeps B4.out c1, Bel.keeps B4.out sc, Bel.keeps B4.out b0⟩, ?_⟩
              try simp only [Act.put, List.setIfInBounds_toArray, List.set_cons_zero, List.set_cons_succ]
              have hH4 : w4.cell? ⟨w.heap.size, 0, none⟩ = some (.slice (some ⟨b, off, none⟩) n bcap) ∧ w4.cell? ⟨w.heap.size, 1, none⟩ = some (.int .i64 vals) ∧ w4.cell? ⟨sb, soff + j, none⟩ = some (.int .i64 (s : Int)) ∧ w4.cell? ⟨b, off + s * 6, none⟩ = some (.slice pa np pcap) := ⟨Bel.keeps B4.out c0, Bel.keeps B4.out c1, Bel.keeps B4.out sc, Bel.keeps B4.out b0⟩
              clear hK9 hq b4 hHeld
              refine wpAnyH_take (i := 6) (oi := { dst := some 35, op := Go.Op.call { callee := Go.Callee.builtin Go.Builtin.len, args := #[Go.Operand.tmp 34], argTypes := #[32] }, type := 3, pos := "l08_edge.go:11", after := #[{ on := 5, ground := Go.Ground.data }], guard := none }) (v := ?_) rfl (by kernel_rfl) (by kernel_rfl) (by kernel_rfl) (fun _ _ _ h => h) (Or.inl ⟨by rfl, ?_⟩) (by assumption) ?_
              rotate_left
              · intro w hSw
                (try dsimp only at hSw)
                go_simp
                (try with_reducible rfl)
              try simp only [Act.put, List.setIfInBounds_toArray, List.set_cons_zero, List.set_cons_succ]
              refine wpAnyH_take (i := 7) (oi := { dst := some 36, op := Go.Op.binOp Go.BinOp.gtr 3 (Go.Operand.tmp 35) (Go.Operand.const (Go.Value.int Go.IntKind.i64 1)) 3, type := 4, pos := "l08_edge.go:11", after := #[{ on := 6, ground := Go.Ground.data }], guard := none }) (v := ?_) rfl (by kernel_rfl) (by kernel_rfl) (by kernel_rfl) (fun _ _ _ h => h) (Or.inl ⟨by rfl, ?_⟩) (by assumption) ?_
              rotate_left
              · intro w hSw
                (try dsimp only at hSw)
                go_simp
                (try with_reducible rfl)
              try simp only [Act.put, List.setIfInBounds_toArray, List.set_cons_zero, List.set_cons_succ]
              refine wpAnyH_take (i := 8) (oi := { dst := some 37, op := Go.Op.move (Go.Operand.tmp 36), type := 4, pos := "l08_edge.go:11", after := #[{ on := 7, ground := Go.Ground.data }, { on := 5, ground := Go.Ground.chain }], guard := none }) (v := ?_) rfl (by kernel_rfl) (by kernel_rfl) (by kernel_rfl) (fun _ _ _ h => h) (Or.inl ⟨by rfl, ?_⟩) (by assumption) ?_
              rotate_left
              · intro w hSw
                (try dsimp only at hSw)
                go_simp
                (try with_reducible rfl)
              try simp only [Act.put, List.setIfInBounds_toArray, List.set_cons_zero, List.set_cons_succ]
              refine wpAnyH_take (i := 9) (oi := { dst := some 38, op := Go.Op.fieldAddr 26 (Go.Operand.tmp 1) 0, type := 0, pos := "l08_edge.go:11", after := #[{ on := 8, ground := Go.Ground.guard }], guard := some (8, false) }) (v := undef) rfl (by kernel_rfl) (by kernel_rfl) (by kernel_rfl) (fun _ _ _ h => h) (Or.inr ⟨by rfl, rfl⟩) (by assumption) ?_
              try simp only [Act.put, List.setIfInBounds_toArray, List.set_cons_zero, List.set_cons_succ]
              refine wpAnyH_take (i := 10) (oi := { dst := some 39, op := Go.Op.load 24 (Go.Operand.tmp 38), type := 24, pos := "l08_edge.go:11", after := #[{ on := 9, ground := Go.Ground.data }, { on := 8, ground := Go.Ground.guard }], guard := some (8, false) }) (v := undef) rfl (by kernel_rfl) (by kernel_rfl) (by kernel_rfl) (fun _ _ _ h => h) (Or.inr ⟨by rfl, rfl⟩) (by assumption) ?_
              try simp only [Act.put, List.setIfInBounds_toArray, List.set_cons_zero, List.set_cons_succ]
              refine wpAnyH_take (i := 11) (oi := { dst := some 40, op := Go.Op.move (Go.Operand.tmp 5), type := 32, pos := "l08_edge.go:11", after := #[{ on := 8, ground := Go.Ground.guard }], guard := some (8, false) }) (v := undef) rfl (by kernel_rfl) (by kernel_rfl) (by kernel_rfl) (fun _ _ _ h => h) (Or.inr ⟨by rfl, rfl⟩) (by assumption) ?_
              try simp only [Act.put, List.setIfInBounds_toArray, List.set_cons_zero, List.set_cons_succ]
              refine wpAnyH_take (i := 12) (oi := { dst := some 41, op := Go.Op.move (Go.Operand.tmp 6), type := 3, pos := "l08_edge.go:11", after := #[{ on := 8, ground := Go.Ground.guard }], guard := some (8, false) }) (v := undef) rfl (by kernel_rfl) (by kernel_rfl) (by kernel_rfl) (fun _ _ _ h => h) (Or.inr ⟨by rfl, rfl⟩) (by assumption) ?_
              try simp only [Act.put, List.setIfInBounds_toArray, List.set_cons_zero, List.set_cons_succ]
              refine wpAnyH_take (i := 13) (oi := { dst := some 42, op := Go.Op.indexAddr 32 (Go.Operand.tmp 40) (Go.Operand.tmp 41), type := 0, pos := "l08_edge.go:11", after := #[{ on := 11, ground := Go.Ground.data }, { on := 12, ground := Go.Ground.data }, { on := 8, ground := Go.Ground.guard }], guard := some (8, false) }) (v := undef) rfl (by kernel_rfl) (by kernel_rfl) (by kernel_rfl) (fun _ _ _ h => h) (Or.inr ⟨by rfl, rfl⟩) (by assumption) ?_
              try simp only [Act.put, List.setIfInBounds_toArray, List.set_cons_zero, List.set_cons_succ]
              refine wpAnyH_take (i := 14) (oi := { dst := some 43, op := Go.Op.load 3 (Go.Operand.tmp 42), type := 3, pos := "l08_edge.go:11", after := #[{ on := 13, ground := Go.Ground.data }, { on := 8, ground := Go.Ground.guard }], guard := some (8, false) }) (v := undef) rfl (by kernel_rfl) (by kernel_rfl) (by kernel_rfl) (fun _ _ _ h => h) (Or.inr ⟨by rfl, rfl⟩) (by assumption) ?_
              try simp only [Act.put, List.setIfInBounds_toArray, List.set_cons_zero, List.set_cons_succ]
              refine wpAnyH_take (i := 15) (oi := { dst := some 44, op := Go.Op.indexAddr 24 (Go.Operand.tmp 39) (Go.Operand.tmp 43), type := 0, pos := "l08_edge.go:11", after := #[{ on := 10, ground := Go.Ground.data }, { on := 14, ground := Go.Ground.data }, { on := 8, ground := Go.Ground.guard }], guard := some (8, false) }) (v := undef) rfl (by kernel_rfl) (by kernel_rfl) (by kernel_rfl) (fun _ _ _ h => h) (Or.inr ⟨by rfl, rfl⟩) (by assumption) ?_
              try simp only [Act.put, List.setIfInBounds_toArray, List.set_cons_zero, List.set_cons_succ]
              refine wpAnyH_take (i := 16) (oi := { dst := some 45, op := Go.Op.fieldAddr 40 (Go.Operand.tmp 44) 0, type := 0, pos := "l08_edge.go:11", after := #[{ on := 15, ground := Go.Ground.data }, { on := 8, ground := Go.Ground.guard }], guard := some (8, false) }) (v := undef) rfl (by kernel_rfl) (by kernel_rfl) (by kernel_rfl) (fun _ _ _ h => h) (Or.inr ⟨by rfl, rfl⟩) (by assumption) ?_
              try simp only [Act.put, List.setIfInBounds_toArray, List.set_cons_zero, List.set_cons_succ]
              refine wpAnyH_take (i := 17) (oi := { dst := some 46, op := Go.Op.load 35 (Go.Operand.tmp 45), type := 35, pos := "l08_edge.go:11", after := #[{ on := 16, ground := Go.Ground.data }, { on := 8, ground := Go.Ground.guard }], guard := some (8, false) }) (v := undef) rfl (by kernel_rfl) (by kernel_rfl) (by kernel_rfl) (fun _ _ _ h => h) (Or.inr ⟨by rfl, rfl⟩) (by assumption) ?_
              try simp only [Act.put, List.setIfInBounds_toArray, List.set_cons_zero, List.set_cons_succ]
              refine wpAnyH_take (i := 18) (oi := { dst := some 47, op := Go.Op.call { callee := Go.Callee.builtin Go.Builtin.len, args := #[Go.Operand.tmp 46], argTypes := #[35] }, type := 3, pos := "l08_edge.go:11", after := #[{ on := 17, ground := Go.Ground.data }, { on := 8, ground := Go.Ground.guard }], guard := some (8, false) }) (v := undef) rfl (by kernel_rfl) (by kernel_rfl) (by kernel_rfl) (fun _ _ _ h => h) (Or.inr ⟨by rfl, rfl⟩) (by assumption) ?_
              try simp only [Act.put, List.setIfInBounds_toArray, List.set_cons_zero, List.set_cons_succ]
              refine wpAnyH_take (i := 19) (oi := { dst := some 48, op := Go.Op.binOp Go.BinOp.gtr 3 (Go.Operand.tmp 47) (Go.Operand.const (Go.Value.int Go.IntKind.i64 0)) 3, type := 4, pos := "l08_edge.go:11", after := #[{ on := 18, ground := Go.Ground.data }, { on := 8, ground := Go.Ground.guard }], guard := some (8, false) }) (v := undef) rfl (by kernel_rfl) (by kernel_rfl) (by kernel_rfl) (fun _ _ _ h => h) (Or.inr ⟨by rfl, rfl⟩) (by assumption) ?_
              try simp only [Act.put, List.setIfInBounds_toArray, List.set_cons_zero, List.set_cons_succ]
              refine wpAnyH_take (i := 20) (oi := { dst := some 49, op := Go.Op.pick (Go.Operand.tmp 37) (Go.Operand.const (Go.Value.bool true)) (Go.Operand.tmp 48), type := 4, pos := "l08_edge.go:11", after := #[{ on := 8, ground := Go.Ground.data }, { on := 19, ground := Go.Ground.data }], guard := none }) (v := ?_) rfl (by kernel_rfl) (by kernel_rfl) (by kernel_rfl) (fun _ _ _ h => h) (Or.inl ⟨by rfl, ?_⟩) (by assumption) ?_
              rotate_left
              · intro w hSw
                (try dsimp only at hSw)
                go_simp
                (try with_reducible rfl)
              try simp only [Act.put, List.setIfInBounds_toArray, List.set_cons_zero, List.set_cons_succ]
              refine wpAnyH_done (by kernel_rfl) ?_ _
              clear hH4
              have HB4 : Hid (Below w.heap.size w w4) := Bel.after HB.out B4.out
              have HO4 : Hid (OwnEdges w4 w.heap.size u3 (critUp F k ++ critSel F k ((succsN F k).take j))) := HO.out.keep B4.out
              have HSI4 : Hid (OwnInts w4 w.heap.size (.slice (some ⟨sb, soff, none⟩) m scap) (succsN F k)) := HSI.out.keep B4.out
              have HX4 : Hid (w4.heap[w.heap.size]? = some (.cells #[.slice (some ⟨b, off, none⟩) n bcap, .int .i64 vals] 26 (0, 0))) := (B4.out.block _ (Array.getElem?_eq_some_iff.1 HX.out).1).trans HX.out
              have sc4 := Bel.keeps B4.out sc
              clear c0 c1 sc b0
              simp only [Exit.then]
              go_at_K
              have HTO : Hid (critTo F (s : Int) = true) := HY.out
              go_wp2_with (at_builtin; refine wpList_append_own _ rfl _ _ 28 rfl w.heap.size 31 i0 (.agg #[.int .i64 0, .int .i64 0]) 2 16 Try.underlying28 hi hz0 hz1 hz2 rfl (by decide) _ _ _ rfl (World.ownsRow.alloc HO4.out _) ⟨w4.heap.size, 0, none⟩ 1 1 [.int .i64 (k : Int), .int .i64 (s : Int)] rfl rfl (cells_two_new _ _ _ _) (by simp [Value.oneCell']) (by omega) (by omega) (by have := HB4.out.size; simp; omega) ?_; intro v' wa hown' hgrow _; have HO' : Hid (OwnEdges wa w.heap.size v' ((critUp F k ++ critSel F k ((succsN F k).take j)) ++ [⟨(k : Int), (s : Int)⟩])) := OwnEdges.next hown'; have HG : Hid (World.grownBy _ _ _) := hgrow; clear hown' hgrow)
              go_roundw
              case rel => exact ⟨j + 1, by omega, by go_num, by rw [HTK.out, critSel_yes HY.out, ← List.append_assoc]; exact HO'.out, HB4.out.trans (ownsRow_grown HO4.out HB4.out.size HG.out), box_aside HO4.out HG.out HX4.out (by decide), ints_aside HSI4.out HO4.out HG.out⟩
              case measure => simp [intOf]; omega
            · have hq2 : ¬ (ql : Int) > 1 := hq1
              by_cases hp : (0 : Int) < (np : Int)
              · have HY : Hid (critTo F (s : Int) = true) := critTo_yes (.inr (by show 0 < phiLen F s; rw [HPL.out]; omega))
                have hp2 : (np : Int) > 0 := hp
                refine wp_region_held_drew (S := fun w' => w'.cell? ⟨w.heap.size, 0, none⟩ = some (.slice (some ⟨b, off, none⟩) n bcap) ∧ w'.cell? ⟨w.heap.size, 1, none⟩ = some (.int .i64 vals) ∧ w'.cell? ⟨sb, soff + j, none⟩ = some (.int .i64 (s : Int)) ∧ w'.cell? ⟨b, off + s * 6, none⟩ = some (.slice pa np pcap)) (by kernel_rfl) ⟨c0, c1, sc, b0⟩ (fun hHeld => ?_)
                refine wpAnyH_take (i := 0) (oi := { dst := some 29, op := Go.Op.load 26 (Go.Operand.tmp 1), type := 26, pos := "l08_edge.go:11", after := #[], guard := none }) (v := ?_) rfl (by kernel_rfl) (by kernel_rfl) (by kernel_rfl) (fun _ _ _ h => h) (Or.inl ⟨by rfl, ?_⟩) (by assumption) ?_
                rotate_left
                · intro w hSw
                  (try dsimp only at hSw)
                  go_simp
                  (try with_reducible rfl)
                try simp only [Act.put, List.setIfInBounds_toArray, List.set_cons_zero, List.set_cons_succ]
                refine wpAnyH_take (i := 1) (oi := { dst := some 30, op := Go.Op.move (Go.Operand.tmp 5), type := 32, pos := "l08_edge.go:11", after := #[], guard := none }) (v := ?_) rfl (by kernel_rfl) (by kernel_rfl) (by kernel_rfl) (fun _ _ _ h => h) (Or.inl ⟨by rfl, ?_⟩) (by assumption) ?_
                rotate_left
                · intro w hSw
                  (try dsimp only at hSw)
                  go_simp
                  (try with_reducible rfl)
                try simp only [Act.put, List.setIfInBounds_toArray, List.set_cons_zero, List.set_cons_succ]
                refine wpAnyH_take (i := 2) (oi := { dst := some 31, op := Go.Op.move (Go.Operand.tmp 6), type := 3, pos := "l08_edge.go:11", after := #[], guard := none }) (v := ?_) rfl (by kernel_rfl) (by kernel_rfl) (by kernel_rfl) (fun _ _ _ h => h) (Or.inl ⟨by rfl, ?_⟩) (by assumption) ?_
                rotate_left
                · intro w hSw
                  (try dsimp only at hSw)
                  go_simp
                  (try with_reducible rfl)
                try simp only [Act.put, List.setIfInBounds_toArray, List.set_cons_zero, List.set_cons_succ]
                refine wpAnyH_take (i := 3) (oi := { dst := some 32, op := Go.Op.indexAddr 32 (Go.Operand.tmp 30) (Go.Operand.tmp 31), type := 0, pos := "l08_edge.go:11", after := #[{ on := 1, ground := Go.Ground.data }, { on := 2, ground := Go.Ground.data }], guard := none }) (v := ?_) rfl (by kernel_rfl) (by kernel_rfl) (by kernel_rfl) (fun _ _ _ h => h) (Or.inl ⟨by rfl, ?_⟩) (by assumption) ?_
                rotate_left
                · intro w hSw
                  (try dsimp only at hSw)
                  go_simp
                  (try with_reducible rfl)
                try simp only [Act.put, List.setIfInBounds_toArray, List.set_cons_zero, List.set_cons_succ]
                refine wpAnyH_take (i := 4) (oi := { dst := some 33, op := Go.Op.load 3 (Go.Operand.tmp 32), type := 3, pos := "l08_edge.go:11", after := #[{ on := 3, ground := Go.Ground.data }], guard := none }) (v := ?_) rfl (by kernel_rfl) (by kernel_rfl) (by kernel_rfl) (fun _ _ _ h => h) (Or.inl ⟨by rfl, ?_⟩) (by assumption) ?_
                rotate_left
                · intro w hSw
                  (try dsimp only at hSw)
                  go_simp
                  (try with_reducible rfl)
                try simp only [Act.put, List.setIfInBounds_toArray, List.set_cons_zero, List.set_cons_succ]
                refine ckAnyH_oneK (i := 5) (o := { dst := some 34, op := Go.Op.call { callee := Go.Callee.value (Go.Operand.func 30), args := #[Go.Operand.tmp 29, Go.Operand.tmp 33], argTypes := #[26, 3] }, type := 32, pos := "l08_edge.go:11", after := #[{ on := 0, ground := Go.Ground.data }, { on := 4, ground := Go.Ground.data }], guard := none }) rfl rfl (by kernel_rfl) (fun K9 hK9 => ?_)
                refine wp_call_of (f := 30) (args := #[.agg #[.slice (some ⟨b, off, none⟩) n bcap, .int .i64 vals], .int .i64 (s : Int)]) (by go_simp) (l3Preds_any _ F (s : Int) _ (HF.out.later HB.out.drew) (by have := HN.out; omega)) ?_
                rintro e w4 ⟨qv, rfl, hq, b4⟩
                obtain ⟨qa, qcap, rfl, hql, _⟩ := hq.at
                rw [HQL.out] at hql ⊢
                have B4 : Hid (Below wj.heap.size wj w4) := Bel.after ((Below.refl _ _).drew) b4
                refine ⟨_, rfl, ?_⟩
                refine hK9 _ _ ⟨⟨Bel.keeps B4.out c0, Bel.keeps B4.out c1, Bel.keeps B4.out sc, Bel.keeps B4.out b0⟩, ?_⟩
                try simp only [Act.put, List.setIfInBounds_toArray, List.set_cons_zero, List.set_cons_succ]
                have hH4 : w4.cell? ⟨w.heap.size, 0, none⟩ = some (.slice (some ⟨b, off, none⟩) n bcap) ∧ w4.cell? ⟨w.heap.size, 1, none⟩ = some (.int .i64 vals) ∧ w4.cell? ⟨sb, soff + j, none⟩ = some (.int .i64 (s : Int)) ∧ w4.cell? ⟨b, off + s * 6, none⟩ = some (.slice pa np pcap) := ⟨Bel.keeps B4.out c0, Bel.keeps B4.out c1, Bel.keeps B4.out sc, Bel.keeps B4.out b0⟩
                clear hK9 hq b4 hHeld
                refine wpAnyH_take (i := 6) (oi := { dst := some 35, op := Go.Op.call { callee := Go.Callee.builtin Go.Builtin.len, args := #[Go.Operand.tmp 34], argTypes := #[32] }, type := 3, pos := "l08_edge.go:11", after := #[{ on := 5, ground := Go.Ground.data }], guard := none }) (v := ?_) rfl (by kernel_rfl) (by kernel_rfl) (by kernel_rfl) (fun _ _ _ h => h) (Or.inl ⟨by rfl, ?_⟩) (by assumption) ?_
                rotate_left
                · intro w hSw
                  (try dsimp only at hSw)
                  go_simp
                  (try with_reducible rfl)
                try simp only [Act.put, List.setIfInBounds_toArray, List.set_cons_zero, List.set_cons_succ]
                refine wpAnyH_take (i := 7) (oi := { dst := some 36, op := Go.Op.binOp Go.BinOp.gtr 3 (Go.Operand.tmp 35) (Go.Operand.const (Go.Value.int Go.IntKind.i64 1)) 3, type := 4, pos := "l08_edge.go:11", after := #[{ on := 6, ground := Go.Ground.data }], guard := none }) (v := ?_) rfl (by kernel_rfl) (by kernel_rfl) (by kernel_rfl) (fun _ _ _ h => h) (Or.inl ⟨by rfl, ?_⟩) (by assumption) ?_
                rotate_left
                · intro w hSw
                  (try dsimp only at hSw)
                  go_simp
                  (try with_reducible rfl)
                try simp only [Act.put, List.setIfInBounds_toArray, List.set_cons_zero, List.set_cons_succ]
                refine wpAnyH_take (i := 8) (oi := { dst := some 37, op := Go.Op.move (Go.Operand.tmp 36), type := 4, pos := "l08_edge.go:11", after := #[{ on := 7, ground := Go.Ground.data }, { on := 5, ground := Go.Ground.chain }], guard := none }) (v := ?_) rfl (by kernel_rfl) (by kernel_rfl) (by kernel_rfl) (fun _ _ _ h => h) (Or.inl ⟨by rfl, ?_⟩) (by assumption) ?_
                rotate_left
                · intro w hSw
                  (try dsimp only at hSw)
                  go_simp
                  (try with_reducible rfl)
                try simp only [Act.put, List.setIfInBounds_toArray, List.set_cons_zero, List.set_cons_succ]
                refine wpAnyH_take (i := 9) (oi := { dst := some 38, op := Go.Op.fieldAddr 26 (Go.Operand.tmp 1) 0, type := 0, pos := "l08_edge.go:11", after := #[{ on := 8, ground := Go.Ground.guard }], guard := some (8, false) }) (v := ?_) rfl (by kernel_rfl) (by kernel_rfl) (by kernel_rfl) (fun _ _ _ h => h) (Or.inl ⟨by rfl, ?_⟩) (by assumption) ?_
                rotate_left
                · intro w hSw
                  (try dsimp only at hSw)
                  go_simp
                  (try with_reducible rfl)
                try simp only [Act.put, List.setIfInBounds_toArray, List.set_cons_zero, List.set_cons_succ]
                refine wpAnyH_take (i := 10) (oi := { dst := some 39, op := Go.Op.load 24 (Go.Operand.tmp 38), type := 24, pos := "l08_edge.go:11", after := #[{ on := 9, ground := Go.Ground.data }, { on := 8, ground := Go.Ground.guard }], guard := some (8, false) }) (v := ?_) rfl (by kernel_rfl) (by kernel_rfl) (by kernel_rfl) (fun _ _ _ h => h) (Or.inl ⟨by rfl, ?_⟩) (by assumption) ?_
                rotate_left
                · intro w hSw
                  (try dsimp only at hSw)
                  go_simp
                  (try with_reducible rfl)
                try simp only [Act.put, List.setIfInBounds_toArray, List.set_cons_zero, List.set_cons_succ]
                refine wpAnyH_take (i := 11) (oi := { dst := some 40, op := Go.Op.move (Go.Operand.tmp 5), type := 32, pos := "l08_edge.go:11", after := #[{ on := 8, ground := Go.Ground.guard }], guard := some (8, false) }) (v := ?_) rfl (by kernel_rfl) (by kernel_rfl) (by kernel_rfl) (fun _ _ _ h => h) (Or.inl ⟨by rfl, ?_⟩) (by assumption) ?_
                rotate_left
                · intro w hSw
                  (try dsimp only at hSw)
                  go_simp
                  (try with_reducible rfl)
                try simp only [Act.put, List.setIfInBounds_toArray, List.set_cons_zero, List.set_cons_succ]
                refine wpAnyH_take (i := 12) (oi := { dst := some 41, op := Go.Op.move (Go.Operand.tmp 6), type := 3, pos := "l08_edge.go:11", after := #[{ on := 8, ground := Go.Ground.guard }], guard := some (8, false) }) (v := ?_) rfl (by kernel_rfl) (by kernel_rfl) (by kernel_rfl) (fun _ _ _ h => h) (Or.inl ⟨by rfl, ?_⟩) (by assumption) ?_
                rotate_left
                · intro w hSw
                  (try dsimp only at hSw)
                  go_simp
                  (try with_reducible rfl)
                try simp only [Act.put, List.setIfInBounds_toArray, List.set_cons_zero, List.set_cons_succ]
                refine wpAnyH_take (i := 13) (oi := { dst := some 42, op := Go.Op.indexAddr 32 (Go.Operand.tmp 40) (Go.Operand.tmp 41), type := 0, pos := "l08_edge.go:11", after := #[{ on := 11, ground := Go.Ground.data }, { on := 12, ground := Go.Ground.data }, { on := 8, ground := Go.Ground.guard }], guard := some (8, false) }) (v := ?_) rfl (by kernel_rfl) (by kernel_rfl) (by kernel_rfl) (fun _ _ _ h => h) (Or.inl ⟨by rfl, ?_⟩) (by assumption) ?_
                rotate_left
                · intro w hSw
                  (try dsimp only at hSw)
                  go_simp
                  (try with_reducible rfl)
                try simp only [Act.put, List.setIfInBounds_toArray, List.set_cons_zero, List.set_cons_succ]
                refine wpAnyH_take (i := 14) (oi := { dst := some 43, op := Go.Op.load 3 (Go.Operand.tmp 42), type := 3, pos := "l08_edge.go:11", after := #[{ on := 13, ground := Go.Ground.data }, { on := 8, ground := Go.Ground.guard }], guard := some (8, false) }) (v := ?_) rfl (by kernel_rfl) (by kernel_rfl) (by kernel_rfl) (fun _ _ _ h => h) (Or.inl ⟨by rfl, ?_⟩) (by assumption) ?_
                rotate_left
                · intro w hSw
                  (try dsimp only at hSw)
                  go_simp
                  (try with_reducible rfl)
                try simp only [Act.put, List.setIfInBounds_toArray, List.set_cons_zero, List.set_cons_succ]
                refine wpAnyH_take (i := 15) (oi := { dst := some 44, op := Go.Op.indexAddr 24 (Go.Operand.tmp 39) (Go.Operand.tmp 43), type := 0, pos := "l08_edge.go:11", after := #[{ on := 10, ground := Go.Ground.data }, { on := 14, ground := Go.Ground.data }, { on := 8, ground := Go.Ground.guard }], guard := some (8, false) }) (v := ?_) rfl (by kernel_rfl) (by kernel_rfl) (by kernel_rfl) (fun _ _ _ h => h) (Or.inl ⟨by rfl, ?_⟩) (by assumption) ?_
                rotate_left
                · intro w hSw
                  (try dsimp only at hSw)
                  go_simp
                  (try with_reducible rfl)
                try simp only [Act.put, List.setIfInBounds_toArray, List.set_cons_zero, List.set_cons_succ]
                refine wpAnyH_take (i := 16) (oi := { dst := some 45, op := Go.Op.fieldAddr 40 (Go.Operand.tmp 44) 0, type := 0, pos := "l08_edge.go:11", after := #[{ on := 15, ground := Go.Ground.data }, { on := 8, ground := Go.Ground.guard }], guard := some (8, false) }) (v := ?_) rfl (by kernel_rfl) (by kernel_rfl) (by kernel_rfl) (fun _ _ _ h => h) (Or.inl ⟨by rfl, ?_⟩) (by assumption) ?_
                rotate_left
                · intro w hSw
                  (try dsimp only at hSw)
                  go_simp
                  (try with_reducible rfl)
                try simp only [Act.put, List.setIfInBounds_toArray, List.set_cons_zero, List.set_cons_succ]
                refine wpAnyH_take (i := 17) (oi := { dst := some 46, op := Go.Op.load 35 (Go.Operand.tmp 45), type := 35, pos := "l08_edge.go:11", after := #[{ on := 16, ground := Go.Ground.data }, { on := 8, ground := Go.Ground.guard }], guard := some (8, false) }) (v := ?_) rfl (by kernel_rfl) (by kernel_rfl) (by kernel_rfl) (fun _ _ _ h => h) (Or.inl ⟨by rfl, ?_⟩) (by assumption) ?_
                rotate_left
                · intro w hSw
                  (try dsimp only at hSw)
                  go_simp
                  (try with_reducible rfl)
                try simp only [Act.put, List.setIfInBounds_toArray, List.set_cons_zero, List.set_cons_succ]
                refine wpAnyH_take (i := 18) (oi := { dst := some 47, op := Go.Op.call { callee := Go.Callee.builtin Go.Builtin.len, args := #[Go.Operand.tmp 46], argTypes := #[35] }, type := 3, pos := "l08_edge.go:11", after := #[{ on := 17, ground := Go.Ground.data }, { on := 8, ground := Go.Ground.guard }], guard := some (8, false) }) (v := ?_) rfl (by kernel_rfl) (by kernel_rfl) (by kernel_rfl) (fun _ _ _ h => h) (Or.inl ⟨by rfl, ?_⟩) (by assumption) ?_
                rotate_left
                · intro w hSw
                  (try dsimp only at hSw)
                  go_simp
                  (try with_reducible rfl)
                try simp only [Act.put, List.setIfInBounds_toArray, List.set_cons_zero, List.set_cons_succ]
                refine wpAnyH_take (i := 19) (oi := { dst := some 48, op := Go.Op.binOp Go.BinOp.gtr 3 (Go.Operand.tmp 47) (Go.Operand.const (Go.Value.int Go.IntKind.i64 0)) 3, type := 4, pos := "l08_edge.go:11", after := #[{ on := 18, ground := Go.Ground.data }, { on := 8, ground := Go.Ground.guard }], guard := some (8, false) }) (v := ?_) rfl (by kernel_rfl) (by kernel_rfl) (by kernel_rfl) (fun _ _ _ h => h) (Or.inl ⟨by rfl, ?_⟩) (by assumption) ?_
                rotate_left
                · intro w hSw
                  (try dsimp only at hSw)
                  go_simp
                  (try with_reducible rfl)
                try simp only [Act.put, List.setIfInBounds_toArray, List.set_cons_zero, List.set_cons_succ]
                refine wpAnyH_take (i := 20) (oi := { dst := some 49, op := Go.Op.pick (Go.Operand.tmp 37) (Go.Operand.const (Go.Value.bool true)) (Go.Operand.tmp 48), type := 4, pos := "l08_edge.go:11", after := #[{ on := 8, ground := Go.Ground.data }, { on := 19, ground := Go.Ground.data }], guard := none }) (v := ?_) rfl (by kernel_rfl) (by kernel_rfl) (by kernel_rfl) (fun _ _ _ h => h) (Or.inl ⟨by rfl, ?_⟩) (by assumption) ?_
                rotate_left
                · intro w hSw
                  (try dsimp only at hSw)
                  go_simp
                  (try with_reducible rfl)
                try simp only [Act.put, List.setIfInBounds_toArray, List.set_cons_zero, List.set_cons_succ]
                refine wpAnyH_done (by kernel_rfl) ?_ _
                clear hH4
                have HB4 : Hid (Below w.heap.size w w4) := Bel.after HB.out B4.out
                have HO4 : Hid (OwnEdges w4 w.heap.size u3 (critUp F k ++ critSel F k ((succsN F k).take j))) := HO.out.keep B4.out
                have HSI4 : Hid (OwnInts w4 w.heap.size (.slice (some ⟨sb, soff, none⟩) m scap) (succsN F k)) := HSI.out.keep B4.out
                have HX4 : Hid (w4.heap[w.heap.size]? = some (.cells #[.slice (some ⟨b, off, none⟩) n bcap, .int .i64 vals] 26 (0, 0))) := (B4.out.block _ (Array.getElem?_eq_some_iff.1 HX.out).1).trans HX.out
                have sc4 := Bel.keeps B4.out sc
                clear c0 c1 sc b0
                simp only [Exit.then]
                go_at_K
                have HTO : Hid (critTo F (s : Int) = true) := HY.out
                go_wp2_with (at_builtin; refine wpList_append_own _ rfl _ _ 28 rfl w.heap.size 31 i0 (.agg #[.int .i64 0, .int .i64 0]) 2 16 Try.underlying28 hi hz0 hz1 hz2 rfl (by decide) _ _ _ rfl (World.ownsRow.alloc HO4.out _) ⟨w4.heap.size, 0, none⟩ 1 1 [.int .i64 (k : Int), .int .i64 (s : Int)] rfl rfl (cells_two_new _ _ _ _) (by simp [Value.oneCell']) (by omega) (by omega) (by have := HB4.out.size; simp; omega) ?_; intro v' wa hown' hgrow _; have HO' : Hid (OwnEdges wa w.heap.size v' ((critUp F k ++ critSel F k ((succsN F k).take j)) ++ [⟨(k : Int), (s : Int)⟩])) := OwnEdges.next hown'; have HG : Hid (World.grownBy _ _ _) := hgrow; clear hown' hgrow)
                go_roundw
                case rel => exact ⟨j + 1, by omega, by go_num, by rw [HTK.out, critSel_yes HY.out, ← List.append_assoc]; exact HO'.out, HB4.out.trans (ownsRow_grown HO4.out HB4.out.size HG.out), box_aside HO4.out HG.out HX4.out (by decide), ints_aside HSI4.out HO4.out HG.out⟩
                case measure => simp [intOf]; omega
              · have HY : Hid (critTo F (s : Int) = false) := critTo_no (by have := HQL.out; omega) (by show ¬ 0 < phiLen F s; rw [HPL.out]; omega)
                have hp2 : ¬ (np : Int) > 0 := hp
                refine wp_region_held_drew (S := fun w' => w'.cell? ⟨w.heap.size, 0, none⟩ = some (.slice (some ⟨b, off, none⟩) n bcap) ∧ w'.cell? ⟨w.heap.size, 1, none⟩ = some (.int .i64 vals) ∧ w'.cell? ⟨sb, soff + j, none⟩ = some (.int .i64 (s : Int)) ∧ w'.cell? ⟨b, off + s * 6, none⟩ = some (.slice pa np pcap)) (by kernel_rfl) ⟨c0, c1, sc, b0⟩ (fun hHeld => ?_)
                refine wpAnyH_take (i := 0) (oi := { dst := some 29, op := Go.Op.load 26 (Go.Operand.tmp 1), type := 26, pos := "l08_edge.go:11", after := #[], guard := none }) (v := ?_) rfl (by kernel_rfl) (by kernel_rfl) (by kernel_rfl) (fun _ _ _ h => h) (Or.inl ⟨by rfl, ?_⟩) (by assumption) ?_
                rotate_left
                · intro w hSw
                  (try dsimp only at hSw)
                  go_simp
                  (try with_reducible rfl)
                try simp only [Act.put, List.setIfInBounds_toArray, List.set_cons_zero, List.set_cons_succ]
                refine wpAnyH_take (i := 1) (oi := { dst := some 30, op := Go.Op.move (Go.Operand.tmp 5), type := 32, pos := "l08_edge.go:11", after := #[], guard := none }) (v := ?_) rfl (by kernel_rfl) (by kernel_rfl) (by kernel_rfl) (fun _ _ _ h => h) (Or.inl ⟨by rfl, ?_⟩) (by assumption) ?_
                rotate_left
                · intro w hSw
                  (try dsimp only at hSw)
                  go_simp
                  (try with_reducible rfl)
                try simp only [Act.put, List.setIfInBounds_toArray, List.set_cons_zero, List.set_cons_succ]
                refine wpAnyH_take (i := 2) (oi := { dst := some 31, op := Go.Op.move (Go.Operand.tmp 6), type := 3, pos := "l08_edge.go:11", after := #[], guard := none }) (v := ?_) rfl (by kernel_rfl) (by kernel_rfl) (by kernel_rfl) (fun _ _ _ h => h) (Or.inl ⟨by rfl, ?_⟩) (by assumption) ?_
                rotate_left
                · intro w hSw
                  (try dsimp only at hSw)
                  go_simp
                  (try with_reducible rfl)
                try simp only [Act.put, List.setIfInBounds_toArray, List.set_cons_zero, List.set_cons_succ]
                refine wpAnyH_take (i := 3) (oi := { dst := some 32, op := Go.Op.indexAddr 32 (Go.Operand.tmp 30) (Go.Operand.tmp 31), type := 0, pos := "l08_edge.go:11", after := #[{ on := 1, ground := Go.Ground.data }, { on := 2, ground := Go.Ground.data }], guard := none }) (v := ?_) rfl (by kernel_rfl) (by kernel_rfl) (by kernel_rfl) (fun _ _ _ h => h) (Or.inl ⟨by rfl, ?_⟩) (by assumption) ?_
                rotate_left
                · intro w hSw
                  (try dsimp only at hSw)
                  go_simp
                  (try with_reducible rfl)
                try simp only [Act.put, List.setIfInBounds_toArray, List.set_cons_zero, List.set_cons_succ]
                refine wpAnyH_take (i := 4) (oi := { dst := some 33, op := Go.Op.load 3 (Go.Operand.tmp 32), type := 3, pos := "l08_edge.go:11", after := #[{ on := 3, ground := Go.Ground.data }], guard := none }) (v := ?_) rfl (by kernel_rfl) (by kernel_rfl) (by kernel_rfl) (fun _ _ _ h => h) (Or.inl ⟨by rfl, ?_⟩) (by assumption) ?_
                rotate_left
                · intro w hSw
                  (try dsimp only at hSw)
                  go_simp
                  (try with_reducible rfl)
                try simp only [Act.put, List.setIfInBounds_toArray, List.set_cons_zero, List.set_cons_succ]
                refine ckAnyH_oneK (i := 5) (o := { dst := some 34, op := Go.Op.call { callee := Go.Callee.value (Go.Operand.func 30), args := #[Go.Operand.tmp 29, Go.Operand.tmp 33], argTypes := #[26, 3] }, type := 32, pos := "l08_edge.go:11", after := #[{ on := 0, ground := Go.Ground.data }, { on := 4, ground := Go.Ground.data }], guard := none }) rfl rfl (by kernel_rfl) (fun K9 hK9 => ?_)
                refine wp_call_of (f := 30) (args := #[.agg #[.slice (some ⟨b, off, none⟩) n bcap, .int .i64 vals], .int .i64 (s : Int)]) (by go_simp) (l3Preds_any _ F (s : Int) _ (HF.out.later HB.out.drew) (by have := HN.out; omega)) ?_
                rintro e w4 ⟨qv, rfl, hq, b4⟩
                obtain ⟨qa, qcap, rfl, hql, _⟩ := hq.at
                rw [HQL.out] at hql ⊢
                have B4 : Hid (Below wj.heap.size wj w4) := Bel.after ((Below.refl _ _).drew) b4
                refine ⟨_, rfl, ?_⟩
                refine hK9 _ _ ⟨⟨Bel.keeps B4.out c0, Bel.keeps B4.out c1, Bel.keeps B4.out sc, Bel.keeps B4.out b0⟩, ?_⟩
                try simp only [Act.put, List.setIfInBounds_toArray, List.set_cons_zero, List.set_cons_succ]
                have hH4 : w4.cell? ⟨w.heap.size, 0, none⟩ = some (.slice (some ⟨b, off, none⟩) n bcap) ∧ w4.cell? ⟨w.heap.size, 1, none⟩ = some (.int .i64 vals) ∧ w4.cell? ⟨sb, soff + j, none⟩ = some (.int .i64 (s : Int)) ∧ w4.cell? ⟨b, off + s * 6, none⟩ = some (.slice pa np pcap) := ⟨Bel.keeps B4.out c0, Bel.keeps B4.out c1, Bel.keeps B4.out sc, Bel.keeps B4.out b0⟩
                clear hK9 hq b4 hHeld
                refine wpAnyH_take (i := 6) (oi := { dst := some 35, op := Go.Op.call { callee := Go.Callee.builtin Go.Builtin.len, args := #[Go.Operand.tmp 34], argTypes := #[32] }, type := 3, pos := "l08_edge.go:11", after := #[{ on := 5, ground := Go.Ground.data }], guard := none }) (v := ?_) rfl (by kernel_rfl) (by kernel_rfl) (by kernel_rfl) (fun _ _ _ h => h) (Or.inl ⟨by rfl, ?_⟩) (by assumption) ?_
                rotate_left
                · intro w hSw
                  (try dsimp only at hSw)
                  go_simp
                  (try with_reducible rfl)
                try simp only [Act.put, List.setIfInBounds_toArray, List.set_cons_zero, List.set_cons_succ]
                refine wpAnyH_take (i := 7) (oi := { dst := some 36, op := Go.Op.binOp Go.BinOp.gtr 3 (Go.Operand.tmp 35) (Go.Operand.const (Go.Value.int Go.IntKind.i64 1)) 3, type := 4, pos := "l08_edge.go:11", after := #[{ on := 6, ground := Go.Ground.data }], guard := none }) (v := ?_) rfl (by kernel_rfl) (by kernel_rfl) (by kernel_rfl) (fun _ _ _ h => h) (Or.inl ⟨by rfl, ?_⟩) (by assumption) ?_
                rotate_left
                · intro w hSw
                  (try dsimp only at hSw)
                  go_simp
                  (try with_reducible rfl)
                try simp only [Act.put, List.setIfInBounds_toArray, List.set_cons_zero, List.set_cons_succ]
                refine wpAnyH_take (i := 8) (oi := { dst := some 37, op := Go.Op.move (Go.Operand.tmp 36), type := 4, pos := "l08_edge.go:11", after := #[{ on := 7, ground := Go.Ground.data }, { on := 5, ground := Go.Ground.chain }], guard := none }) (v := ?_) rfl (by kernel_rfl) (by kernel_rfl) (by kernel_rfl) (fun _ _ _ h => h) (Or.inl ⟨by rfl, ?_⟩) (by assumption) ?_
                rotate_left
                · intro w hSw
                  (try dsimp only at hSw)
                  go_simp
                  (try with_reducible rfl)
                try simp only [Act.put, List.setIfInBounds_toArray, List.set_cons_zero, List.set_cons_succ]
                refine wpAnyH_take (i := 9) (oi := { dst := some 38, op := Go.Op.fieldAddr 26 (Go.Operand.tmp 1) 0, type := 0, pos := "l08_edge.go:11", after := #[{ on := 8, ground := Go.Ground.guard }], guard := some (8, false) }) (v := ?_) rfl (by kernel_rfl) (by kernel_rfl) (by kernel_rfl) (fun _ _ _ h => h) (Or.inl ⟨by rfl, ?_⟩) (by assumption) ?_
                rotate_left
                · intro w hSw
                  (try dsimp only at hSw)
                  go_simp
                  (try with_reducible rfl)
                try simp only [Act.put, List.setIfInBounds_toArray, List.set_cons_zero, List.set_cons_succ]
                refine wpAnyH_take (i := 10) (oi := { dst := some 39, op := Go.Op.load 24 (Go.Operand.tmp 38), type := 24, pos := "l08_edge.go:11", after := #[{ on := 9, ground := Go.Ground.data }, { on := 8, ground := Go.Ground.guard }], guard := some (8, false) }) (v := ?_) rfl (by kernel_rfl) (by kernel_rfl) (by kernel_rfl) (fun _ _ _ h => h) (Or.inl ⟨by rfl, ?_⟩) (by assumption) ?_
                rotate_left
                · intro w hSw
                  (try dsimp only at hSw)
                  go_simp
                  (try with_reducible rfl)
                try simp only [Act.put, List.setIfInBounds_toArray, List.set_cons_zero, List.set_cons_succ]
                refine wpAnyH_take (i := 11) (oi := { dst := some 40, op := Go.Op.move (Go.Operand.tmp 5), type := 32, pos := "l08_edge.go:11", after := #[{ on := 8, ground := Go.Ground.guard }], guard := some (8, false) }) (v := ?_) rfl (by kernel_rfl) (by kernel_rfl) (by kernel_rfl) (fun _ _ _ h => h) (Or.inl ⟨by rfl, ?_⟩) (by assumption) ?_
                rotate_left
                · intro w hSw
                  (try dsimp only at hSw)
                  go_simp
                  (try with_reducible rfl)
                try simp only [Act.put, List.setIfInBounds_toArray, List.set_cons_zero, List.set_cons_succ]
                refine wpAnyH_take (i := 12) (oi := { dst := some 41, op := Go.Op.move (Go.Operand.tmp 6), type := 3, pos := "l08_edge.go:11", after := #[{ on := 8, ground := Go.Ground.guard }], guard := some (8, false) }) (v := ?_) rfl (by kernel_rfl) (by kernel_rfl) (by kernel_rfl) (fun _ _ _ h => h) (Or.inl ⟨by rfl, ?_⟩) (by assumption) ?_
                rotate_left
                · intro w hSw
                  (try dsimp only at hSw)
                  go_simp
                  (try with_reducible rfl)
                try simp only [Act.put, List.setIfInBounds_toArray, List.set_cons_zero, List.set_cons_succ]
                refine wpAnyH_take (i := 13) (oi := { dst := some 42, op := Go.Op.indexAddr 32 (Go.Operand.tmp 40) (Go.Operand.tmp 41), type := 0, pos := "l08_edge.go:11", after := #[{ on := 11, ground := Go.Ground.data }, { on := 12, ground := Go.Ground.data }, { on := 8, ground := Go.Ground.guard }], guard := some (8, false) }) (v := ?_) rfl (by kernel_rfl) (by kernel_rfl) (by kernel_rfl) (fun _ _ _ h => h) (Or.inl ⟨by rfl, ?_⟩) (by assumption) ?_
                rotate_left
                · intro w hSw
                  (try dsimp only at hSw)
                  go_simp
                  (try with_reducible rfl)
                try simp only [Act.put, List.setIfInBounds_toArray, List.set_cons_zero, List.set_cons_succ]
                refine wpAnyH_take (i := 14) (oi := { dst := some 43, op := Go.Op.load 3 (Go.Operand.tmp 42), type := 3, pos := "l08_edge.go:11", after := #[{ on := 13, ground := Go.Ground.data }, { on := 8, ground := Go.Ground.guard }], guard := some (8, false) }) (v := ?_) rfl (by kernel_rfl) (by kernel_rfl) (by kernel_rfl) (fun _ _ _ h => h) (Or.inl ⟨by rfl, ?_⟩) (by assumption) ?_
                rotate_left
                · intro w hSw
                  (try dsimp only at hSw)
                  go_simp
                  (try with_reducible rfl)
                try simp only [Act.put, List.setIfInBounds_toArray, List.set_cons_zero, List.set_cons_succ]
                refine wpAnyH_take (i := 15) (oi := { dst := some 44, op := Go.Op.indexAddr 24 (Go.Operand.tmp 39) (Go.Operand.tmp 43), type := 0, pos := "l08_edge.go:11", after := #[{ on := 10, ground := Go.Ground.data }, { on := 14, ground := Go.Ground.data }, { on := 8, ground := Go.Ground.guard }], guard := some (8, false) }) (v := ?_) rfl (by kernel_rfl) (by kernel_rfl) (by kernel_rfl) (fun _ _ _ h => h) (Or.inl ⟨by rfl, ?_⟩) (by assumption) ?_
                rotate_left
                · intro w hSw
                  (try dsimp only at hSw)
                  go_simp
                  (try with_reducible rfl)
                try simp only [Act.put, List.setIfInBounds_toArray, List.set_cons_zero, List.set_cons_succ]
                refine wpAnyH_take (i := 16) (oi := { dst := some 45, op := Go.Op.fieldAddr 40 (Go.Operand.tmp 44) 0, type := 0, pos := "l08_edge.go:11", after := #[{ on := 15, ground := Go.Ground.data }, { on := 8, ground := Go.Ground.guard }], guard := some (8, false) }) (v := ?_) rfl (by kernel_rfl) (by kernel_rfl) (by kernel_rfl) (fun _ _ _ h => h) (Or.inl ⟨by rfl, ?_⟩) (by assumption) ?_
                rotate_left
                · intro w hSw
                  (try dsimp only at hSw)
                  go_simp
                  (try with_reducible rfl)
                try simp only [Act.put, List.setIfInBounds_toArray, List.set_cons_zero, List.set_cons_succ]
                refine wpAnyH_take (i := 17) (oi := { dst := some 46, op := Go.Op.load 35 (Go.Operand.tmp 45), type := 35, pos := "l08_edge.go:11", after := #[{ on := 16, ground := Go.Ground.data }, { on := 8, ground := Go.Ground.guard }], guard := some (8, false) }) (v := ?_) rfl (by kernel_rfl) (by kernel_rfl) (by kernel_rfl) (fun _ _ _ h => h) (Or.inl ⟨by rfl, ?_⟩) (by assumption) ?_
                rotate_left
                · intro w hSw
                  (try dsimp only at hSw)
                  go_simp
                  (try with_reducible rfl)
                try simp only [Act.put, List.setIfInBounds_toArray, List.set_cons_zero, List.set_cons_succ]
                refine wpAnyH_take (i := 18) (oi := { dst := some 47, op := Go.Op.call { callee := Go.Callee.builtin Go.Builtin.len, args := #[Go.Operand.tmp 46], argTypes := #[35] }, type := 3, pos := "l08_edge.go:11", after := #[{ on := 17, ground := Go.Ground.data }, { on := 8, ground := Go.Ground.guard }], guard := some (8, false) }) (v := ?_) rfl (by kernel_rfl) (by kernel_rfl) (by kernel_rfl) (fun _ _ _ h => h) (Or.inl ⟨by rfl, ?_⟩) (by assumption) ?_
                rotate_left
                · intro w hSw
                  (try dsimp only at hSw)
                  go_simp
                  (try with_reducible rfl)
                try simp only [Act.put, List.setIfInBounds_toArray, List.set_cons_zero, List.set_cons_succ]
                refine wpAnyH_take (i := 19) (oi := { dst := some 48, op := Go.Op.binOp Go.BinOp.gtr 3 (Go.Operand.tmp 47) (Go.Operand.const (Go.Value.int Go.IntKind.i64 0)) 3, type := 4, pos := "l08_edge.go:11", after := #[{ on := 18, ground := Go.Ground.data }, { on := 8, ground := Go.Ground.guard }], guard := some (8, false) }) (v := ?_) rfl (by kernel_rfl) (by kernel_rfl) (by kernel_rfl) (fun _ _ _ h => h) (Or.inl ⟨by rfl, ?_⟩) (by assumption) ?_
                rotate_left
                · intro w hSw
                  (try dsimp only at hSw)
                  go_simp
                  (try with_reducible rfl)
                try simp only [Act.put, List.setIfInBounds_toArray, List.set_cons_zero, List.set_cons_succ]
                refine wpAnyH_take (i := 20) (oi := { dst := some 49, op := Go.Op.pick (Go.Operand.tmp 37) (Go.Operand.const (Go.Value.bool true)) (Go.Operand.tmp 48), type := 4, pos := "l08_edge.go:11", after := #[{ on := 8, ground := Go.Ground.data }, { on := 19, ground := Go.Ground.data }], guard := none }) (v := ?_) rfl (by kernel_rfl) (by kernel_rfl) (by kernel_rfl) (fun _ _ _ h => h) (Or.inl ⟨by rfl, ?_⟩) (by assumption) ?_
                rotate_left
                · intro w hSw
                  (try dsimp only at hSw)
                  go_simp
                  (try with_reducible rfl)
                try simp only [Act.put, List.setIfInBounds_toArray, List.set_cons_zero, List.set_cons_succ]
                refine wpAnyH_done (by kernel_rfl) ?_ _
                clear hH4
                have HB4 : Hid (Below w.heap.size w w4) := Bel.after HB.out B4.out
                have HO4 : Hid (OwnEdges w4 w.heap.size u3 (critUp F k ++ critSel F k ((succsN F k).take j))) := HO.out.keep B4.out
                have HSI4 : Hid (OwnInts w4 w.heap.size (.slice (some ⟨sb, soff, none⟩) m scap) (succsN F k)) := HSI.out.keep B4.out
                have HX4 : Hid (w4.heap[w.heap.size]? = some (.cells #[.slice (some ⟨b, off, none⟩) n bcap, .int .i64 vals] 26 (0, 0))) := (B4.out.block _ (Array.getElem?_eq_some_iff.1 HX.out).1).trans HX.out
                have sc4 := Bel.keeps B4.out sc
                clear c0 c1 sc b0
                simp only [Exit.then]
                go_at_K
                go_wp2_with fail
                go_roundw
                case rel => exact ⟨j + 1, by omega, by go_num, by rw [HTK.out, critSel_no HY.out]; exact HO4.out, HB4.out, HX4.out, HSI4.out⟩
                case measure => simp [intOf]; omega
          · have hjm : j = m := by omega
            subst hjm
            have HO5 : Hid (OwnEdges wj w.heap.size u3 (critUp F (k + 1))) := by
              show OwnEdges _ _ _ _
              have h := HO.out
              rw [List.take_of_length_le (by have := HM.out; omega)] at h
              rw [HE.out]
              exact h
            go_wp2_with fail
            go_roundw
            case rel => exact ⟨k + 1, by omega, by go_num, HO5.out, HB.out, HX.out⟩
            case measure => simp [intOf]; omega
      · have hmg : ¬ (m : Int) > 1 := hm
        have HE : Hid (critUp F (k + 1) = critUp F k) := by
          show critUp F k ++ critFrom F k = _
          unfold critFrom
          rw [if_neg (by have := HM.out; omega)]
          simp
        go_wp2_with fail
        go_loopw [3, 6] (fun s i wr => i = .int .i64 0 ∧ OwnEdges w3 w.heap.size s (critUp F k) ∧ wr = w3) (fun _ _ _ => 0)
        case atStart => exact ⟨rfl, HO3.out, rfl⟩
        case round =>
          obtain ⟨rfl, ho, hw⟩ := hrel
          have HO6 : Hid (OwnEdges w3 w.heap.size u3 (critUp F k)) := ho
          clear ho
          have hw := hw.symm
          subst hw
          by_cases h0 : (0 : Int) < (m : Int)
          · go_wp2_with fail
            go_roundw
            case rel => exact ⟨k + 1, by omega, by go_num, by rw [HE.out]; exact HO6.out, HB3.out, HX3.out⟩
            case measure => simp [intOf]; omega
          · go_wp2_with fail
            go_roundw
            case rel => exact ⟨k + 1, by omega, by go_num, by rw [HE.out]; exact HO6.out, HB3.out, HX3.out⟩
            case measure => simp [intOf]; omega
    · have hkn : k = n := by omega
      subst hkn
      go_wp2_with fail
      go_ret
      exact ⟨_, rfl, HOq.out, HBq.out⟩

set_option maxRecDepth 100000 in
set_option maxHeartbeats 4000000 in
theorem spec_critical (v : Value) (F : FnD) (w : World) (hF : FnAt w v F) :
    Calls Try.prog 7 #[v] w fun e w' => GivesEdges w (critOf F) e w' := by
  have HF : Hid (FnAt w v F) := hF
  obtain ⟨n, HN⟩ : ∃ n, Hid (F.blocks.length = n) := ⟨_, rfl⟩
  obtain ⟨vals, HV⟩ : ∃ x, Hid (F.values = x) := ⟨_, rfl⟩
  obtain ⟨ba, bcap, rfl⟩ := hF.out HN.out HV.out
  clear hF
  go_enter Try.func7, Try.ntmps7
  go_wp2_with fail
  obtain ⟨w1, hw1⟩ : ∃ W, w.alloc (.cells #[.slice ba n bcap, .int .i64 vals] 26) = W := ⟨_, rfl⟩
  have B1 : Hid (Below w.heap.size w w1) := by show Below _ _ _; rw [← hw1]; repeat (first | exact Below.refl _ _ | apply Below.drew | refine Below.alloc ?_ (by simp <;> omega) _ | refine Below.setCell ?_ (by simp <;> omega) _)
  have c0 : w1.cell? ⟨w.heap.size, 0, none⟩ = some (.slice ba n bcap) := by rw [← hw1]; simp [go_sem]
  have c1 : w1.cell? ⟨w.heap.size, 1, none⟩ = some (.int .i64 vals) := by rw [← hw1]; simp [go_sem]
  rw [hw1]
  clear hw1
  refine (spec_shapeOk _ F _ (HF.out.later B1.out)).mono ?_
  rintro e w2 ⟨t, rfl, ht, b2⟩
  have B2 : Hid (Below w.heap.size w w2) := Bel.after B1.out b2
  have ST : Hid (t = true ↔ FnShape F) := ht
  replace c0 := Bel.keeps b2 c0
  replace c1 := Bel.keeps b2 c1
  have hs2 := B2.out.size
  clear ht b2
  cases t with
  | false =>
    have HE : Hid (critOf F = []) := critOf_no (fun h => by have := ST.out.2 h; cases this)
    go_wp2_with fail
    go_ret
    rw [HE.out]
    exact ⟨_, rfl, ownEdges_new rfl hs2, B2.out.alloc hs2 _⟩
  | true =>
    have HS : Hid (FnShape F) := ST.out.1 rfl
    have HE : Hid (critOf F = critUp F F.blocks.length) := critOf_yes HS.out
    go_wp2_with fail
    refine (l8Critical_any _ F _ (HF.out.later B2.out) HS.out).mono ?_
    rw [← HE.out]
    rintro e w3 ⟨qv, rfl, hq, b3⟩
    have O3 : Hid (OwnEdges w3 w.heap.size qv (critOf F)) := hq.low hs2
    have B3 : Hid (Below w.heap.size w w3) := Bel.after B2.out b3
    clear hq b3
    go_wp2_with fail
    go_ret
    exact ⟨_, rfl, O3.out, B3.out⟩
end Go.Proofs.Ytfnilamkapabkaa

namespace Go.Proofs.Ytfnilamkapabkaa
set_option linter.unusedVariables false

theorem mem_critFrom {F : FnD} {a : Nat} {e : ArmD} (h : e ∈ critFrom F a) : e.fr = (a : Int) ∧ (succsN F a).length = 2 ∧ e.v ∈ succsN F a ∧ critTo F e.v = true := by
  unfold critFrom at h
  split at h
  · rename_i hl
    unfold critSel at h
    obtain ⟨s, hs, rfl⟩ := List.mem_map.1 h
    obtain ⟨h1, h2⟩ := List.mem_filter.1 hs
    have := succsN_small F a
    exact ⟨rfl, by omega, h1, h2⟩
  · cases h
theorem mem_critUp {F : FnD} {e : ArmD} : ∀ {k : Nat}, e ∈ critUp F k → ∃ a, a < k ∧ e ∈ critFrom F a
  | 0, h => by cases h
  | k + 1, h => by
    unfold critUp at h
    rcases List.mem_append.1 h with h | h
    · obtain ⟨a, ha, h1⟩ := mem_critUp h
      exact ⟨a, by omega, h1⟩
    · exact ⟨k, by omega, h⟩
theorem mem_critOf {F : FnD} {e : ArmD} (h : e ∈ critOf F) : FnShape F ∧ ∃ (a s : Nat), e.fr = (a : Int) ∧ e.v = (s : Int) ∧ a < F.blocks.length ∧ s < F.blocks.length ∧ (succsN F a).length = 2 ∧ (s : Int) ∈ succsN F a ∧ (1 < (predsN F (s : Int)).length ∨ 0 < phiLen F s) := by
  by_cases hS : FnShape F
  · rw [critOf_yes hS] at h
    obtain ⟨a, ha, h1⟩ := mem_critUp h
    obtain ⟨e1, e2, e3, e4⟩ := mem_critFrom h1
    have h5 := succs_in hS a e.v e3
    obtain ⟨s, hs⟩ : ∃ s : Nat, e.v = (s : Int) := ⟨e.v.toNat, by omega⟩
    unfold critTo at e4
    rw [hs] at e3 e4
    exact ⟨hS, a, s, e1, hs, ha, by omega, e2, e3, of_decide_eq_true e4⟩
  · rw [critOf_no hS] at h
    cases h
end Go.Proofs.Ytfnilamkapabkaa
