/- The program's Order and Reached, over the walk. -/
import Derived.Test.YtlmkipmkanhcfaaInto
import Derived.Test.YtlmkipmkanhcfaaShape7
namespace Go.Proofs.Ytlmkipmkanhcfaa
open Go.ChangeShapes Go.WideShapes Go.ChangeAt Go.RowKit Go.Shelf
set_option linter.unusedVariables false

/-- What walkAll gives. -/
def GivesWalk (F : FnD) (x0 x1 : Value) (w : World) (e : Ending) (w' : World) : Prop := ∃ P0 mb lv, e = .returned (.pointer (some ⟨P0, 0, none⟩)) ∧ w.heap.size ≤ P0 ∧ w.heap.size ≤ mb ∧ P0 ≠ mb ∧ WalkSt w' P0 mb w.heap.size x0 x1 (wayOf F) lv ∧ Below w.heap.size w w'

theorem into_zero (F : FnD) (ba : Option Addr) (n bcap : Nat) (vals : Int) (W0 : World) (P0 mb : Nat) (hF : FnAt W0 (.agg #[.slice ba n bcap, .int .i64 vals]) F) (hS : FnShape F) (hN : F.blocks.length = n) (hP : W0.heap.size ≤ P0) (hmb : W0.heap.size ≤ mb) (hne : P0 ≠ mb) (lv : Value) (w : World)
    (hB : Below W0.heap.size W0 w) (hw : WalkSt w P0 mb W0.heap.size (.slice ba n bcap) (.int .i64 vals) ([], []) lv) :
    Calls Try.prog 68 #[.pointer (some ⟨P0, 0, none⟩), .int .i64 0] w fun e w' => GivesInto W0.heap.size P0 mb (.slice ba n bcap) (.int .i64 vals) W0 (wayOf F) w e w' := by
  have h1 : 1 ≤ n := by have := hS.1; omega
  have h16 : n ≤ 16 := by have := hS.2.1; omega
  have h := into_any F ba n bcap vals W0 P0 mb hF hS hN hP hmb hne n 0 ([], []) lv w hB hw (by omega) (by simp) (by rw [unseen_nil]; omega) (by rw [unseen_nil]; simp; omega) (by rw [unseen_nil]; simp; omega) ⟨by simp, by simp⟩
  have e : leave (succsN F) n 0 ([], []) = wayOf F := by rw [← hN]; exact (rfl : wayOf F = wayOf F)
  rw [e] at h
  exact h

theorem wayOf_some {F : FnD} (h : FnShape F) : 0 < (wayOf F).2.length := by
  have h1 := h.1
  obtain ⟨n, hn⟩ : ∃ n, F.blocks.length = n + 1 := ⟨F.blocks.length - 1, by omega⟩
  unfold wayOf
  rw [hn, leave_eq]
  simp

/-! ### A list turned round -/
/-- The first k and the last k stand where the last and the first were. -/
def revTo (L : List Int) (k : Nat) : List Int := (List.range L.length).map (fun t => if t < k ∨ L.length - k ≤ t then L.getD (L.length - 1 - t) 0 else L.getD t 0)
theorem revTo_len (L : List Int) (k : Nat) : (revTo L k).length = L.length := by simp [revTo]
theorem revTo_at (L : List Int) (k : Nat) {t : Nat} (h : t < L.length) : (revTo L k).getD t 0 = if t < k ∨ L.length - k ≤ t then L.getD (L.length - 1 - t) 0 else L.getD t 0 := by
  simp [revTo, List.getD, h]
theorem list_ext {A B : List Int} (hl : A.length = B.length) (h : ∀ t, t < A.length → A.getD t 0 = B.getD t 0) : A = B := by
  apply List.ext_getElem hl
  intro t h1 h2
  have := h t h1
  simpa [List.getD, h1, h2] using this
theorem revTo_zero (L : List Int) : revTo L 0 = L := list_ext (revTo_len L 0) (fun t ht => by
  rw [revTo_len] at ht
  rw [revTo_at L 0 ht, if_neg (by omega)])
theorem revTo_end (L : List Int) {k : Nat} (h : L.length ≤ k + k + 1) (hk : k ≤ L.length) : revTo L k = L.reverse := list_ext (by rw [revTo_len, List.length_reverse]) (fun t ht => by
  rw [revTo_len] at ht
  rw [revTo_at L k ht]
  have e : L.reverse.getD t 0 = L.getD (L.length - 1 - t) 0 := by
    have h2 : L.length - 1 - t < L.length := by omega
    simp [List.getD, ht, h2]
  rw [e]
  split
  · rfl
  · have : L.length - 1 - t = t := by omega
    rw [this])
theorem revTo_step (L : List Int) {k : Nat} (h : k + k + 1 < L.length) : ((revTo L k).set k (L.getD (L.length - 1 - k) 0)).set (L.length - 1 - k) (L.getD k 0) = revTo L (k + 1) := list_ext (by simp [revTo_len]) (fun t ht => by
  have ht2 : t < L.length := by simpa [revTo_len] using ht
  rw [revTo_at L (k + 1) ht2]
  have e0 := revTo_at L k ht2
  by_cases e : t = L.length - 1 - k
  · subst e
    have e2 : L.length - 1 - (L.length - 1 - k) = k := by omega
    rw [if_pos (by omega), e2]
    simp [List.getD, revTo_len, ht2]
  · by_cases e3 : t = k
    · subst e3
      rw [if_pos (by omega)]
      have e4 : ¬ L.length - 1 - t = t := by omega
      simp [List.getD, revTo_len, ht2, e4]
    · have e5 : ¬ L.length - 1 - k = t := fun h => e h.symm
      have e6 : ¬ k = t := fun h => e3 h.symm
      have e7 : (((revTo L k).set k (L.getD (L.length - 1 - k) 0)).set (L.length - 1 - k) (L.getD k 0)).getD t 0 = (revTo L k).getD t 0 := by
        simp only [List.getD, List.getElem?_set, e5, e6, if_false]
      rw [e7, e0]
      by_cases e8 : t < k ∨ L.length - k ≤ t
      · rw [if_pos e8, if_pos (by omega)]
      · rw [if_neg e8, if_neg (by omega)])

set_option maxHeartbeats 4000000 in
theorem reverse_any (lo : Nat) (v : Value) (L : List Int) (w : World) (h : OwnInts w lo v L) (hlo : lo ≤ w.heap.size) (h0 : 0 < L.length) (h100 : L.length ≤ 100) :
    Calls Try.prog 44 #[v] w fun e w' => (∃ r, e = .returned r) ∧ OwnInts w' lo v L.reverse ∧ Below lo w w' := by
  obtain ⟨m, HM⟩ : ∃ m, Hid (L.length = m) := ⟨_, rfl⟩
  rw [HM.out] at h0 h100
  rcases h.2 with ⟨_, e⟩ | ⟨g, cap, cur, rfl, hg, _⟩
  · have := HM.out; omega
  rw [HM.out] at h ⊢
  have HO : Hid (OwnInts w lo (.slice (some ⟨g, 0, none⟩) m cap) L) := h
  clear h
  go_enter Try.func44, Try.ntmps44
  go_wp2
  go_loopw [2, 3] (fun i j wr => ∃ (k : Nat) (z : Int), k ≤ m ∧ k ≤ (m + 1) / 2 ∧ i = .int .i64 (k : Int) ∧ j = .int .i64 z ∧ z = (m : Int) - 1 - k ∧ OwnInts wr lo (.slice (some ⟨g, 0, none⟩) m cap) (revTo L k) ∧ Below lo w wr) (fun i _ _ => m - (intOf i).toNat)
  case atStart => exact ⟨0, (m : Int) - 1, by omega, by omega, rfl, by go_num, by omega, by rw [revTo_zero]; exact HO.out, Below.refl _ _⟩
  case round =>
    obtain ⟨k, z, hk, hk2, rfl, rfl, hz, ho, hb⟩ := hrel
    have H1 : Hid (OwnInts wr lo (.slice (some ⟨g, 0, none⟩) m cap) (revTo L k)) := ho
    have H2 : Hid (Below lo w wr) := hb
    clear ho hb
    by_cases hlt : (k : Int) < z
    · obtain ⟨j, rfl⟩ : ∃ j : Nat, z = (j : Int) := ⟨z.toNat, by omega⟩
      have HJ : Hid (m - 1 - k = j) := by show _ = _; omega
      have hjm : (j : Int) < (m : Int) := by omega
      have hkm : (k : Int) < (m : Int) := by omega
      obtain ⟨ra, rcap, hra, hrc⟩ := H1.out.row
      rw [revTo_len, HM.out] at hra hrc
      obtain ⟨g', e, _, _, hcell, hfz⟩ := hrc h0
      simp only [Value.slice.injEq] at hra
      obtain ⟨hra1, _, _⟩ := hra
      rw [e] at hra1
      simp at hra1
      subst hra1
      have q1 := hcell k (by omega)
      have q2 := hcell j (by omega)
      rw [revTo_at L k (by rw [HM.out]; omega), if_neg (by rw [HM.out]; omega)] at q1
      rw [revTo_at L k (by rw [HM.out]; omega), if_neg (by rw [HM.out]; omega)] at q2
      obtain ⟨x, HX⟩ : ∃ x, Hid (L.getD k 0 = x) := ⟨_, rfl⟩
      obtain ⟨y, HY⟩ : ∃ y, Hid (L.getD j 0 = y) := ⟨_, rfl⟩
      rw [HX.out] at q1
      rw [HY.out] at q2
      have f1 := hfz k
      have f2 := hfz j
      clear hcell hfz hrc hz e
      have HW : Hid (OwnInts ((wr.setCell ⟨g, k, none⟩ (.int .i64 y)).setCell ⟨g, j, none⟩ (.int .i64 x)) lo (.slice (some ⟨g, 0, none⟩) m cap) (revTo L (k + 1)) ∧ Below lo w ((wr.setCell ⟨g, k, none⟩ (.int .i64 y)).setCell ⟨g, j, none⟩ (.int .i64 x))) := by
        refine ⟨?_, (H2.out.setCell (p := ⟨g, k, none⟩) hg _).setCell (p := ⟨g, j, none⟩) hg _⟩
        have h := H1.out
        unfold OwnInts at h ⊢
        rw [revTo_len, HM.out] at h ⊢
        have h2 := (World.ownsRow.stored (World.ownsRow.stored h k (.int .i64 y)).1 j (.int .i64 x)).1
        have e := revTo_step L (k := k) (by have := HJ.out; rw [HM.out]; omega)
        rw [HM.out, HJ.out, HX.out, HY.out] at e
        rw [← e, List.map_set, List.map_set]
        exact h2
      have HK : Hid (k + 1 ≤ m ∧ k + 1 ≤ (m + 1) / 2 ∧ (j : Int) - 1 = (m : Int) - 1 - ((k + 1 : Nat) : Int)) := by have := HJ.out; show _ ∧ _ ∧ _; omega
      go_wp2
      go_region
      all_goals
        go_wp2
        go_roundw
        case rel => exact ⟨k + 1, (j : Int) - 1, HK.out.1, HK.out.2.1, by go_num, by go_num, HK.out.2.2, HW.out.1, HW.out.2.drew⟩
        case measure => simp [intOf]; omega
    · have hkm : m ≤ k + k + 1 := by omega
      clear hz
      go_wp2
      go_end0
      refine ⟨⟨_, rfl⟩, ?_, H2.out⟩
      have h := H1.out
      rw [revTo_end L (by rw [HM.out]; exact hkm) (by rw [HM.out]; exact hk)] at h
      exact h

set_option maxHeartbeats 2000000 in
theorem walkAll_any (F : FnD) (ba : Option Addr) (n bcap : Nat) (vals : Int) (w : World) (hF : FnAt w (.agg #[.slice ba n bcap, .int .i64 vals]) F) (hS : FnShape F) (hN : F.blocks.length = n) :
    Calls Try.prog 43 #[.agg #[.slice ba n bcap, .int .i64 vals]] w fun e w' => GivesWalk F (.slice ba n bcap) (.int .i64 vals) w e w' := by
  have HF : Hid (FnAt w (.agg #[.slice ba n bcap, .int .i64 vals]) F) := hF
  have HS : Hid (FnShape F) := hS
  have HN : Hid (F.blocks.length = n) := hN
  have h1 : 1 ≤ n := by have := hS.1; omega
  have h16 : n ≤ 16 := by have := hS.2.1; omega
  have hmm := @run_makeMap Try.prog
  clear hF hS hN
  go_enter Try.func43, Try.ntmps43
  go_wp2_with fail
  obtain ⟨wI, hwI⟩ : ∃ wI, ((w.alloc (.cells #[.slice ba n bcap, .int .i64 vals] 26)).alloc (.map #[] 0)).alloc (.cells #[.slice ba n bcap, .int .i64 vals, .map (some (w.heap.size + 1)), .slice none 0 0] 71) = wI := ⟨_, rfl⟩
  have BI : Hid (Below w.heap.size w wI) := by rw [← hwI]; repeat (first | exact Below.refl _ _ | apply Below.drew | refine Below.alloc ?_ (by simp <;> omega) _ | refine Below.setCell ?_ (by simp <;> omega) _)
  have WI : Hid (WalkSt wI (w.heap.size + 1 + 1) (w.heap.size + 1) w.heap.size (.slice ba n bcap) (.int .i64 vals) ([], []) (.slice none 0 0)) := by
    rw [← hwI]
    refine WalkSt.mk ?_ ⟨.map [], ?_, fun x => by simp [Maps.has]⟩ ⟨rfl, .inl ⟨rfl, rfl⟩⟩
    · have h := World.alloc_heap_new ((w.alloc (.cells #[.slice ba n bcap, .int .i64 vals] 26)).alloc (.map #[] 0)) (.cells #[.slice ba n bcap, .int .i64 vals, .map (some (w.heap.size + 1)), .slice none 0 0] 71)
      rw [World.size_alloc, World.size_alloc] at h
      exact h
    · have h := World.ownsMap_made (w.alloc (.cells #[.slice ba n bcap, .int .i64 vals] 26)) Try.prog 3 (unitElem (H := Unit))
      rw [World.size_alloc] at h
      exact h.alloc _
  try rw [hwI]
  clear hwI hmm
  refine (into_zero F ba n bcap vals w (w.heap.size + 1 + 1) (w.heap.size + 1) HF.out HS.out HN.out (by omega) (by omega) (by omega) _ wI BI.out WI.out).mono ?_
  rintro e w2 ⟨⟨v2, rfl⟩, ⟨lv2, ws2⟩, b2, _⟩
  have WS2 : Hid (WalkSt w2 (w.heap.size + 1 + 1) (w.heap.size + 1) w.heap.size (.slice ba n bcap) (.int .i64 vals) (wayOf F) lv2) := ws2
  have B2 : Hid (Below w.heap.size w w2) := b2
  clear ws2 b2
  go_wp2_with fail
  go_ret
  exact ⟨_, _, _, rfl, by omega, by omega, by omega, WS2.out, B2.out⟩

set_option maxHeartbeats 2000000 in
theorem impl_order (v : Value) (F : FnD) (w : World) (hF : FnAt w v F) :
    Calls Try.prog 18 #[v] w fun e w' => GivesOwn w (orderOf F) e w' := by
  have HF : Hid (FnAt w v F) := hF
  obtain ⟨n, HN⟩ : ∃ n, Hid (F.blocks.length = n) := ⟨_, rfl⟩
  obtain ⟨vals, HV⟩ : ∃ x, Hid (F.values = x) := ⟨_, rfl⟩
  obtain ⟨ba, bcap, rfl⟩ := hF.out HN.out HV.out
  clear hF
  go_enter Try.func18, Try.ntmps18
  go_wp2_with fail
  refine (impl_shapeOk _ F _ (HF.out.later (by repeat (first | exact Below.refl _ _ | apply Below.drew | refine Below.alloc ?_ (by simp <;> omega) _ | refine Below.setCell ?_ (by simp <;> omega) _)))).mono ?_
  rintro e w1 ⟨s1, rfl, hs1, b1⟩
  have S1 : Hid (s1 = true ↔ FnShape F) := hs1
  have B1 : Hid (Below w.heap.size w w1) := Bel.after (by repeat (first | exact Below.refl _ _ | apply Below.drew | refine Below.alloc ?_ (by simp <;> omega) _ | refine Below.setCell ?_ (by simp <;> omega) _)) b1
  have c0 : w1.cell? ⟨w.heap.size, 0, none⟩ = some (.slice ba n bcap) := Bel.keeps b1 (by simp [go_sem])
  have c1 : w1.cell? ⟨w.heap.size, 1, none⟩ = some (.int .i64 vals) := Bel.keeps b1 (by simp [go_sem])
  clear b1 hs1
  cases s1 with
  | false =>
    have HE : Hid (orderOf F = []) := orderOf_no (fun h => by have := S1.out.2 h; cases this)
    go_wp2_with fail
    go_ret
    rw [HE.out]
    exact ⟨_, rfl, ownInts_nil rfl B1.out.size, Bel.after B1.out (by repeat (first | exact Below.refl _ _ | apply Below.drew | refine Below.alloc ?_ (by simp <;> omega) _ | refine Below.setCell ?_ (by simp <;> omega) _))⟩
  | true =>
    have hyes : Hid (FnShape F) := S1.out.1 rfl
    have HE : Hid (orderOf F = (wayOf F).2.reverse) := orderOf_yes hyes.out
    go_wp2_with fail
    refine (walkAll_any F ba n bcap vals _ (HF.out.later B1.out) hyes.out HN.out).mono ?_
    rintro e w2 ⟨P0, mb, lv, rfl, hP, hm, hne, ws, b2⟩
    have WS : Hid (WalkSt w2 P0 mb w1.heap.size (.slice ba n bcap) (.int .i64 vals) (wayOf F) lv) := ws
    have B2 : Hid (Below w1.heap.size w1 w2) := b2
    obtain ⟨_, _, _, d3, _⟩ := ws.cells
    obtain ⟨la, lcap, hlv, _⟩ := ws.left.row
    obtain ⟨ln, HLN⟩ : ∃ ln, Hid ((wayOf F).2.length = ln) := ⟨_, rfl⟩
    rw [HLN.out] at hlv
    subst hlv
    clear ws b2 c0 c1
    go_wp2_with fail
    refine (reverse_any w1.heap.size _ (wayOf F).2 _ WS.out.left B2.out.size (wayOf_some hyes.out) (by have h1 := (wayOf_len hyes.out).1; have h2 := hyes.out.2.1; omega)).mono ?_
    rintro e w3 ⟨⟨r, rfl⟩, o3, b3⟩
    have O3 : Hid (OwnInts w3 w1.heap.size (.slice la ln lcap) (wayOf F).2.reverse) := o3
    have B3 : Hid (Below w1.heap.size w2 w3) := b3
    clear o3 b3 d3
    go_wp2_with fail
    go_ret
    rw [HE.out]
    exact ⟨_, rfl, O3.out.low B1.out.size, Bel.after B1.out (B2.out.trans B3.out)⟩
end Go.Proofs.Ytlmkipmkanhcfaa
