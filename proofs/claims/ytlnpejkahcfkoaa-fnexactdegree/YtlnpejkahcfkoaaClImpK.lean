/- Who is in whose way: the program's Clash and Degree. -/
import Derived.Test.YtlnpejkahcfkoaaClPoK
import Derived.Test.YtlnpejkahcfkoaaClSpFK
namespace Go.Proofs.Ytlnpejkahcfkoaa
open Go.ChangeShapes Go.WideShapes Go.ChangeAt Go.RowKit Go.Shelf
set_option linter.unusedVariables false

theorem plain24 {F : FnD} (h : FnPlain F) : ∀ (k : Nat) (x : BlockD), F.blocks[k]? = some x → x.list.length ≤ 24 := fun k x hx => (h.1.2.2.2.2 k x hx).2.1

set_option maxHeartbeats 4000000 in
theorem impl_clash (v : Value) (F : FnD) (a b : Int) (w : World) (hF : FnAt w v F) (ha : Wf a) (hb : Wf b) :
    Calls Try.prog 8 #[v, .int .i64 a, .int .i64 b] w fun e w' => GivesClash w (clashOf F a b) e w' := by
  have HF : Hid (FnAt w v F) := hF
  have HA : Hid (Wf a ∧ Wf b) := ⟨ha, hb⟩
  obtain ⟨n, HN⟩ : ∃ n, Hid (F.blocks.length = n) := ⟨_, rfl⟩
  obtain ⟨vals, HV⟩ : ∃ x, Hid (F.values = x) := ⟨_, rfl⟩
  obtain ⟨ba, bcap, rfl⟩ := hF.out HN.out HV.out
  clear hF ha hb
  obtain ⟨wA, hwA⟩ : ∃ wA, w.alloc (.cells #[.slice ba n bcap, .int .i64 vals] 29) = wA := ⟨_, rfl⟩
  have BA : Hid (Below w.heap.size w wA) := by rw [← hwA]; exact Bel.alloc _ _
  have a0 : wA.cell? ⟨w.heap.size, 0, none⟩ = some (.slice ba n bcap) := by rw [← hwA]; simp [go_sem]
  have a1 : wA.cell? ⟨w.heap.size, 1, none⟩ = some (.int .i64 vals) := by rw [← hwA]; simp [go_sem]
  obtain ⟨R, HR⟩ : ∃ R, Hid (clashOf F a b = R) := ⟨_, rfl⟩
  rw [HR.out]
  go_enter Try.func8, Try.ntmps8
  go_wp2_with fail
  refine (impl_plainOk _ F _ (HF.out.later BA.out)).mono ?_
  rintro e w2 ⟨s, rfl, hs, b2⟩
  have HS : Hid (s = true ↔ FnPlain F) := hs
  have B2 : Hid (Below w.heap.size w w2) := Bel.after BA.out b2
  have c0 := Bel.keeps b2 a0
  have c1 := Bel.keeps b2 a1
  clear hs b2 a0 a1 hwA BA
  cases s
  · have hR : R = false := HR.out.symm.trans (clashOf_no (fun h => by have := HS.out.2 h.1; cases this))
    subst hR
    go_wp2_with fail
    go_ret
    exact ⟨rfl, B2.out⟩
  · have HP : Hid (FnPlain F) := HS.out.1 rfl
    clear HS
    obtain ⟨n', V, hv⟩ := plainV_of HP.out
    have HPV : Hid (PlainV F n' V) := hv
    clear hv
    go_wp2_with fail
    refine (pairsOf_any _ F n' V _ (HF.out.later B2.out) HPV.out (plain24 HP.out)).mono ?_
    rintro e w3 ⟨mb, N, rfl, hm, b3⟩
    have HM : Hid (MapP w3 mb N (Clsh F)) := hm
    have B3 : Hid (Below w.heap.size w w3) := Bel.after B2.out b3
    clear hm b3
    go_wp2_with fail
    refine (pairsHas_any mb N (Clsh F) a b w3 HM.out HA.out.1 HA.out.2).mono ?_
    rintro e w4 ⟨r, rfl, hr, b4⟩
    have B4 : Hid (Below w.heap.size w w4) := Bel.after B3.out b4
    have hR : r = R := by
      rw [← HR.out]
      have h1 := clashOf_eq HP.out a b
      rw [← hr] at h1
      cases r <;> cases h : clashOf F a b <;> simp_all
    subst hR
    clear hr b4
    go_wp2_with fail
    go_ret
    exact ⟨rfl, B4.out⟩

set_option maxHeartbeats 4000000 in
theorem impl_degree (v : Value) (F : FnD) (z : Int) (w : World) (hF : FnAt w v F) :
    Calls Try.prog 11 #[v, .int .i64 z] w fun e w' => GivesDeg w (degreeOf F z) e w' := by
  have HF : Hid (FnAt w v F) := hF
  obtain ⟨n, HN⟩ : ∃ n, Hid (F.blocks.length = n) := ⟨_, rfl⟩
  obtain ⟨vals, HV⟩ : ∃ x, Hid (F.values = x) := ⟨_, rfl⟩
  obtain ⟨ba, bcap, rfl⟩ := hF.out HN.out HV.out
  clear hF
  obtain ⟨wA, hwA⟩ : ∃ wA, w.alloc (.cells #[.slice ba n bcap, .int .i64 vals] 29) = wA := ⟨_, rfl⟩
  have BA : Hid (Below w.heap.size w wA) := by rw [← hwA]; exact Bel.alloc _ _
  have a0 : wA.cell? ⟨w.heap.size, 0, none⟩ = some (.slice ba n bcap) := by rw [← hwA]; simp [go_sem]
  have a1 : wA.cell? ⟨w.heap.size, 1, none⟩ = some (.int .i64 vals) := by rw [← hwA]; simp [go_sem]
  obtain ⟨R, HR⟩ : ∃ R, Hid (degreeOf F z = R) := ⟨_, rfl⟩
  rw [HR.out]
  go_enter Try.func11, Try.ntmps11
  go_wp2_with fail
  refine (impl_plainOk _ F _ (HF.out.later BA.out)).mono ?_
  rintro e w2 ⟨s, rfl, hs, b2⟩
  have HS : Hid (s = true ↔ FnPlain F) := hs
  have B2 : Hid (Below w.heap.size w w2) := Bel.after BA.out b2
  have c0 := Bel.keeps b2 a0
  have c1 := Bel.keeps b2 a1
  clear hs b2 a0 a1 hwA BA
  cases s
  · have hR : R = -1 := HR.out.symm.trans (degreeOf_no (fun h => by have := HS.out.2 h.1; cases this))
    subst hR
    go_wp2_with fail
    go_ret
    exact ⟨rfl, B2.out⟩
  · have HP : Hid (FnPlain F) := HS.out.1 rfl
    clear HS
    obtain ⟨n', V, hv⟩ := plainV_of HP.out
    have HPV : Hid (PlainV F n' V) := hv
    have evV : vals = (V : Int) := HV.out.symm.trans hv.vals
    have hV8 := hv.v80
    subst evV
    clear hv
    go_wp2_with fail
    refine (valueIn_any _ _ _ _ _ _).mono ?_
    rintro e w3 ⟨rfl, b3⟩
    have B3 : Hid (Below w.heap.size w w3) := Bel.after B2.out b3
    have d0 := Bel.keeps b3 c0
    have d1 := Bel.keeps b3 c1
    obtain ⟨t, HT⟩ : ∃ t, Hid (valIn (V : Int) z = t) := ⟨_, rfl⟩
    rw [HT.out]
    have HTT : Hid (t = true ↔ 0 ≤ z ∧ z < (V : Int)) := by rw [← HT.out]; exact valIn_iff
    clear b3 c0 c1
    cases t
    · have hR : R = -1 := HR.out.symm.trans (degreeOf_no (fun h => by have := HTT.out.2 ⟨h.2.1, by rw [← HV.out]; exact h.2.2⟩; cases this))
      subst hR
      go_wp2_with fail
      go_ret
      exact ⟨rfl, B3.out⟩
    · obtain ⟨hz0, hzV⟩ := HTT.out.1 rfl
      clear HTT
      obtain ⟨x, rfl⟩ : ∃ x : Nat, z = (x : Int) := ⟨z.toNat, by omega⟩
      have hxV : x < V := by omega
      obtain ⟨L, HL⟩ : ∃ L, Hid (setL (Clsh F) x = L) := ⟨_, rfl⟩
      have HR2 : Hid (R = (degN L V : Nat)) := by
        rw [← HL.out]
        exact HR.out.symm.trans (degreeOf_yes HP.out HPV.out hxV)
      go_wp2_with fail
      refine (pairsOf_any _ F n' V _ (HF.out.later B3.out) HPV.out (plain24 HP.out)).mono ?_
      rintro e w4 ⟨mb, N, rfl, hm, b4⟩
      have HM : Hid (MapP w4 mb N (Clsh F)) := hm
      have B4 : Hid (Below w.heap.size w w4) := Bel.after B3.out b4
      have f1 := Bel.keeps b4 d1
      clear hm b4
      go_wp2_with fail
      go_loopw [6, 21] (fun nv i wr => ∃ k : Nat, k ≤ V ∧ i = .int .i64 k ∧ nv = .int .i64 (degN L k : Nat) ∧ Below w4.heap.size w4 wr) (fun _ i _ => V - (intOf i).toNat)
      case atStart => exact ⟨0, Nat.zero_le _, rfl, rfl, Below.refl _ _⟩
      case round =>
        obtain ⟨k, hk, rfl, rfl, hb⟩ := hrel
        have BR : Hid (Below w4.heap.size w4 wr) := hb
        clear hb
        by_cases hlt : (k : Int) < (V : Int)
        · have hkV : k < V := by omega
          obtain ⟨dk, HDK⟩ : ∃ m, Hid (degN L k = m) := ⟨_, rfl⟩
          have hdk : dk ≤ k := by rw [← HDK.out]; exact degN_le L k
          rw [HDK.out]
          go_wp2_with fail
          refine (pairsHas_any mb N (Clsh F) x k wr (HM.out.keep BR.out) (wf_of (by omega) (by omega)) (wf_of (by omega) (by omega))).mono ?_
          rintro e w5 ⟨t, rfl, hr, b5⟩
          have hn2 : degN L (k + 1) = dk + (if t then 1 else 0) := by
            have h9 : (k : Int) ∈ L ↔ Clsh F x k := by
              rw [← HL.out, setL_mem]
              exact ⟨fun h => h.1, fun h => ⟨h, by omega, by omega⟩⟩
            rw [degN_next, HDK.out]
            cases t
            · rw [if_neg (fun h => by have := hr.2 (h9.1 h); cases this)]; simp
            · rw [if_pos (h9.2 (hr.1 rfl))]; simp
          have HN2 : Hid (degN L (k + 1) = dk + (if t then 1 else 0)) := hn2
          have BR5 : Hid (Below w4.heap.size w4 w5) := Bel.after BR.out b5
          clear hn2 hr b5
          cases t
          · go_wp2_with fail
            go_roundw
            case rel => exact ⟨k + 1, by omega, by simp, by rw [HN2.out]; simp, BR5.out⟩
            case measure => simp [intOf]; omega
          · go_wp2_with fail
            go_roundw
            case rel => exact ⟨k + 1, by omega, by simp, by rw [HN2.out]; simp, BR5.out⟩
            case measure => simp [intOf]; omega
        · have ekn : V = k := by omega
          subst ekn
          go_wp2_with fail
          go_ret
          rw [HR2.out]
          exact ⟨rfl, B4.out.trans (BR.out.mono B4.out.size)⟩
end Go.Proofs.Ytlnpejkahcfkoaa
