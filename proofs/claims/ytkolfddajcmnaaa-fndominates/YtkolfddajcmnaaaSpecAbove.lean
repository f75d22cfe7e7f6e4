/- The model's Above. -/
import Derived.Test.YtkolfddajcmnaaaSpecDom
import Derived.Test.YtkolfddajcmnaaaImplAbove
namespace Go.Proofs.Ytkolfddajcmnaaa
open Go.ChangeShapes Go.WideShapes Go.ChangeAt Go.RowKit Go.Shelf
set_option linter.unusedVariables false

/-- The test of Above, of one that dominates. -/
noncomputable def aboveQ (F : FnD) (b a : Nat) : Bool := decide (a ≠ b) && decide ((domsN F a).length = (domsN F b).length - 1)
/-- Those that dominate, as they are told. -/
noncomputable def domsNat (F : FnD) (b : Nat) : List Nat := (List.range F.blocks.length).filter (fun a => domB F a b)
theorem domsN_map (F : FnD) (b : Nat) : domsN F b = (domsNat F b).map (fun (p : Nat) => (p : Int)) := rfl
theorem above_find (F : FnD) (b : Nat) : (List.range F.blocks.length).find? (aboveS F b) = (domsNat F b).find? (aboveQ F b) := by
  unfold domsNat
  rw [List.find?_filter]
  congr 1
  funext a
  rw [Bool.eq_iff_iff]
  simp [aboveS, aboveQ]
theorem domsNat_at {F : FnD} {b i : Nat} (h : i < (domsN F b).length) : ∃ x, (domsNat F b)[i]? = some x ∧ (domsN F b).getD i 0 = (x : Int) ∧ domB F x b = true ∧ x < F.blocks.length := by
  rw [domsN_map, List.length_map] at h
  refine ⟨(domsNat F b)[i], List.getElem?_eq_getElem h, ?_, ?_⟩
  · rw [domsN_map]
    simp [List.getD, h]
  · have := List.getElem_mem h
    unfold domsNat at this
    rw [List.mem_filter] at this
    exact ⟨this.2, List.mem_range.1 this.1⟩

set_option maxRecDepth 100000 in
set_option maxHeartbeats 4000000 in
theorem spec_above (v : Value) (F : FnD) (b : Int) (w : World) (hF : FnAt w v F) :
    Calls Try.prog 20 #[v, .int .i64 b] w fun e w' => e = .returned (.int .i64 (aboveOf F b)) ∧ Below w.heap.size w w' := by
  have HF : Hid (FnAt w v F) := hF
  obtain ⟨n, HN⟩ : ∃ n, Hid (F.blocks.length = n) := ⟨_, rfl⟩
  obtain ⟨vals, HV⟩ : ∃ x, Hid (F.values = x) := ⟨_, rfl⟩
  obtain ⟨ba, bcap, rfl⟩ := hF.out HN.out HV.out
  clear hF
  go_enter Try.func20, Try.ntmps20
  go_wp2_with fail
  refine (l3Right_any _ F b _ (HF.out.later (by repeat (first | exact Below.refl _ _ | apply Below.drew | refine Below.alloc ?_ (by simp <;> omega) _ | refine Below.setCell ?_ (by simp <;> omega) _)))).mono ?_
  rintro e w1 ⟨s1, rfl, hs1, b1⟩
  have S1 : Hid (s1 = true ↔ RightAt F b) := hs1
  have B1 : Hid (Below w.heap.size w w1) := Bel.after (by repeat (first | exact Below.refl _ _ | apply Below.drew | refine Below.alloc ?_ (by simp <;> omega) _ | refine Below.setCell ?_ (by simp <;> omega) _)) b1
  have c0 : w1.cell? ⟨w.heap.size, 0, none⟩ = some (.slice ba n bcap) := Bel.keeps b1 (by simp [go_sem])
  have c1 : w1.cell? ⟨w.heap.size, 1, none⟩ = some (.int .i64 vals) := Bel.keeps b1 (by simp [go_sem])
  clear b1 hs1
  cases s1 with
  | false =>
    have HE : Hid (aboveOf F b = -1) := aboveOf_no (fun h => by have := S1.out.2 h; cases this)
    go_wp2_with fail
    go_ret
    exact ⟨by rw [HE.out]; rfl, B1.out⟩
  | true =>
    have hyes : Hid (RightAt F b) := S1.out.1 rfl
    obtain ⟨bn, rfl⟩ : ∃ bn : Nat, b = (bn : Int) := ⟨b.toNat, by have := hyes.out.2.1; omega⟩
    have hbn : bn < n := by have := hyes.out.2.2; rw [HN.out] at this; omega
    have hbi : (bn : Int) < (n : Int) := by omega
    have h16 : n ≤ 16 := by rw [← HN.out]; exact hyes.out.1.2.1
    have HYES : Hid (∀ (k x : Nat), (domsNat F bn)[k]? = some x → (∀ (j : Nat), j < k → ∀ (y : Nat), (domsNat F bn)[j]? = some y → aboveQ F bn y = false) → aboveQ F bn x = true → aboveOf F (bn : Int) = (x : Int)) := fun k x hx h hq => by
      unfold aboveOf
      rw [if_pos (show FnShape F ∧ 0 ≤ (bn : Int) ∧ (bn : Int) < F.blocks.length from hyes.out)]
      have e : ((bn : Int)).toNat = bn := by simp
      rw [e, above_find, find_at _ _ k x h hx hq]
    have HNO : Hid ((∀ (j : Nat) (y : Nat), (domsNat F bn)[j]? = some y → aboveQ F bn y = false) → aboveOf F (bn : Int) = -1) := fun h => by
      unfold aboveOf
      rw [if_pos (show FnShape F ∧ 0 ≤ (bn : Int) ∧ (bn : Int) < F.blocks.length from hyes.out)]
      have e : ((bn : Int)).toNat = bn := by simp
      rw [e, above_find, find_none _ _ h]
    go_wp2_with fail
    refine (l4Doms_any _ F _ (HF.out.later B1.out) hyes.out.1).mono ?_
    rw [HN.out]
    rintro e w2 ⟨g, us, rfl, r2, b2⟩
    have R2 : Hid (OwnRows w2 w1.heap.size g n us (domsN F)) := r2
    have B2 : Hid (Below w.heap.size w w2) := Bel.after B1.out b2
    have HROW : Hid (∀ i, i < n → ∃ a cap, w2.cell? ⟨g, i, none⟩ = some (.slice a (domsN F i).length cap) ∧ (0 < (domsN F i).length → ∃ gg, a = some ⟨gg, 0, none⟩ ∧ ∀ j, j < (domsN F i).length → w2.cell? ⟨gg, j, none⟩ = some (.int .i64 ((domsN F i).getD j 0)))) := fun i hi => by
      obtain ⟨a, cap, e, h⟩ := (R2.out.row i hi).row
      refine ⟨a, cap, by rw [← e]; exact R2.out.cell hi, fun hp => ?_⟩
      obtain ⟨gg, h1, _, _, h2, _⟩ := h hp
      exact ⟨gg, h1, h2⟩
    clear r2 b2 c0 c1
    obtain ⟨m, HM⟩ : ∃ m, Hid ((domsN F bn).length = m) := ⟨_, rfl⟩
    have hm16 : m ≤ 16 := by
      rw [← HM.out]
      have := domsUp_len F bn F.blocks.length
      rw [HN.out] at this
      unfold domsN
      rw [HN.out]
      omega
    obtain ⟨ab, capb, qb, hab⟩ := HROW.out bn hbn
    rw [HM.out] at qb hab
    have HAB : Hid (0 < m → ∃ gg, ab = some ⟨gg, 0, none⟩ ∧ ∀ j, j < m → w2.cell? ⟨gg, j, none⟩ = some (.int .i64 ((domsN F bn).getD j 0))) := hab
    clear hab
    go_wp2_with fail
    go_loopw [6] (fun i wr => ∃ k : Nat, k ≤ m ∧ i = .int .i64 k ∧ Below w2.heap.size w2 wr ∧ ∀ (j : Nat), j < k → ∀ (y : Nat), (domsNat F bn)[j]? = some y → aboveQ F bn y = false) (fun i _ => m - (intOf i).toNat)
    case atStart => exact ⟨0, Nat.zero_le _, rfl, Below.refl _ _, fun j hj => absurd hj (by omega)⟩
    case round =>
      obtain ⟨k, hk, rfl, hB, hA⟩ := hrel
      have HB : Hid (Below w2.heap.size w2 wr) := hB
      have HA : Hid (∀ (j : Nat), j < k → ∀ (y : Nat), (domsNat F bn)[j]? = some y → aboveQ F bn y = false) := hA
      have pb := Bel.keeps hB qb
      clear hA hB qb
      by_cases hlt : (k : Int) < (m : Int)
      · obtain ⟨gg, rfl, hcell⟩ := HAB.out (by omega)
        obtain ⟨x, hx1, hx2, hx3, hx4⟩ := domsNat_at (F := F) (b := bn) (i := k) (by rw [HM.out]; omega)
        have q1 := Bel.keeps HB.out (hcell k (by omega))
        rw [hx2] at q1
        have HX : Hid ((domsNat F bn)[k]? = some x) := hx1
        have hxn : x < n := by rw [← HN.out]; exact hx4
        have hxi : (x : Int) < (n : Int) := by omega
        have HNEXT : Hid (aboveQ F bn x = false → ∀ (j : Nat), j < k + 1 → ∀ (y : Nat), (domsNat F bn)[j]? = some y → aboveQ F bn y = false) := fun h j hj y hy => by
          by_cases e : j = k
          · subst e
            rw [HX.out] at hy
            cases hy
            exact h
          · exact HA.out j (by omega) y hy
        clear hcell hx1 hx2 hx3 hx4
        by_cases hxb : x = bn
        · subst hxb
          have HQ : Hid (aboveQ F x x = false) := by
            show aboveQ F x x = false
            simp [aboveQ]
          go_wp2_with fail
          go_region
          all_goals
            go_wp2_with fail
            go_roundw
            case rel => exact ⟨k + 1, by omega, by go_num, HB.out.drew, HNEXT.out HQ.out⟩
            case measure => simp [intOf]; omega
        · have hne : ((x : Int) != (bn : Int)) = true := by simp; omega
          obtain ⟨aa, capa, qa, _⟩ := HROW.out x hxn
          obtain ⟨la, HLA⟩ : ∃ la, Hid ((domsN F x).length = la) := ⟨_, rfl⟩
          rw [HLA.out] at qa
          have pa := Bel.keeps HB.out qa
          clear qa
          by_cases hl : (la : Int) = (m : Int) - 1
          · have hq : aboveQ F bn x = true := by
              simp only [aboveQ, HLA.out, HM.out]
              simp [hxb]
              omega
            have HE : Hid (aboveOf F (bn : Int) = (x : Int)) := HYES.out k x HX.out HA.out hq
            have hle : ((la : Int) == (m : Int) - 1) = true := by simp [hl]
            clear hq hl
            go_wp2_with fail
            go_region
            all_goals
              go_wp2_with fail
              go_ret
              exact ⟨by rw [HE.out]; rfl, Bel.after B2.out HB.out.drew⟩
          · have hq : aboveQ F bn x = false := by
              simp only [aboveQ, HLA.out, HM.out]
              simp [hxb]
              omega
            have HQ : Hid (aboveQ F bn x = false) := hq
            have hle : ((la : Int) == (m : Int) - 1) = false := by simp [hl]
            clear hq hl
            go_wp2_with fail
            go_region
            all_goals
              go_wp2_with fail
              go_roundw
              case rel => exact ⟨k + 1, by omega, by go_num, HB.out.drew, HNEXT.out HQ.out⟩
              case measure => simp [intOf]; omega
      · have hkm : k = m := by omega
        subst hkm
        have HE : Hid (aboveOf F (bn : Int) = -1) := HNO.out (fun j y hy => HA.out j (by
          have := (List.getElem?_eq_some_iff.1 hy).1
          have h2 := HM.out
          rw [domsN_map, List.length_map] at h2
          omega) y hy)
        go_wp2_with fail
        go_ret
        exact ⟨by rw [HE.out]; rfl, Bel.after B2.out HB.out⟩
end Go.Proofs.Ytkolfddajcmnaaa
