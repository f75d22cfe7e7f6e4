/- Who is in whose way: the model's Clash and Degree. -/
import Derived.Test.YtjfogpbhacadbaaClSpK
namespace Go.Proofs.Ytjfogpbhacadbaa
open Go.ChangeShapes Go.WideShapes Go.ChangeAt Go.RowKit Go.Shelf
set_option linter.unusedVariables false

def GivesClash (w : World) (r : Bool) (e : Ending) (w' : World) : Prop := e = .returned (.bool r) ∧ Below w.heap.size w w'
def GivesDeg (w : World) (x : Int) (e : Ending) (w' : World) : Prop := e = .returned (.int .i64 x) ∧ Below w.heap.size w w'

set_option maxHeartbeats 1000000 in
theorem l12Bit_any (t : Bool) (w : World) : Calls Try.prog 12 #[.bool t] w fun e w' => e = .returned (.int .i64 (if t then 1 else 0)) ∧ w' = w := by
  cases t
  · go_enter Try.func12, Try.ntmps12
    go_wp2
    go_ret
    exact ⟨rfl, rfl⟩
  · go_enter Try.func12, Try.ntmps12
    go_wp2
    go_ret
    exact ⟨rfl, rfl⟩

set_option maxHeartbeats 4000000 in
theorem l12Value_any (v : Value) (F : FnD) (z : Int) (w : World) (hF : FnAt w v F) :
    Calls Try.prog 10 #[v, .int .i64 z] w fun e w' => GivesIff w (FnPlain F ∧ 0 ≤ z ∧ z < F.values) e w' := by
  have HF : Hid (FnAt w v F) := hF
  obtain ⟨n, HN⟩ : ∃ n, Hid (F.blocks.length = n) := ⟨_, rfl⟩
  obtain ⟨vals, HV⟩ : ∃ x, Hid (F.values = x) := ⟨_, rfl⟩
  obtain ⟨ba, bcap, rfl⟩ := hF.out HN.out HV.out
  clear hF
  obtain ⟨wA, hwA⟩ : ∃ wA, w.alloc (.cells #[.slice ba n bcap, .int .i64 vals] 29) = wA := ⟨_, rfl⟩
  have BA : Hid (Below w.heap.size w wA) := by rw [← hwA]; exact Bel.alloc _ _
  have a0 : wA.cell? ⟨w.heap.size, 0, none⟩ = some (.slice ba n bcap) := by rw [← hwA]; simp [go_sem]
  have a1 : wA.cell? ⟨w.heap.size, 1, none⟩ = some (.int .i64 vals) := by rw [← hwA]; simp [go_sem]
  go_enter Try.func10, Try.ntmps10
  go_wp2_with fail
  refine (spec_plainOk _ F _ (HF.out.later BA.out)).mono ?_
  rintro e w2 ⟨s, rfl, hs, b2⟩
  have HS : Hid (s = true ↔ FnPlain F) := hs
  have B2 : Hid (Below w.heap.size w w2) := Bel.after BA.out b2
  have c0 := Bel.keeps b2 a0
  have c1 := Bel.keeps b2 a1
  clear hs b2 a0 a1 hwA BA
  cases s
  · go_wp2_with fail
    go_ret
    exact ⟨false, rfl, ⟨fun h => (by cases h), fun h => (by have := HS.out.2 h.1; cases this)⟩, B2.out⟩
  · have hp : FnPlain F := HS.out.1 rfl
    have HP : Hid (FnPlain F) := hp
    have hv0 : 0 ≤ vals := by rw [← HV.out]; exact hp.1.2.2.1
    have hv8 : vals ≤ 80 := by rw [← HV.out]; exact hp.1.2.2.2.1
    clear hp
    go_wp2_with fail
    refine (l1In_any z 0 (vals - 1) w2).mono ?_
    rintro e w3 ⟨rfl, rfl⟩
    obtain ⟨r, HR⟩ : ∃ r, Hid ((decide (0 ≤ z) && decide (z ≤ vals - 1)) = r) := ⟨_, rfl⟩
    rw [HR.out]
    go_wp2_with fail
    go_ret
    refine ⟨r, rfl, ?_, B2.out⟩
    rw [← HR.out, HV.out]
    simp
    exact ⟨fun h => ⟨HP.out, h.1, by omega⟩, fun h => ⟨h.2.1, by omega⟩⟩

set_option maxHeartbeats 4000000 in
theorem spec_degree (v : Value) (F : FnD) (z : Int) (w : World) (hF : FnAt w v F) :
    Calls Try.prog 5 #[v, .int .i64 z] w fun e w' => GivesDeg w (degreeOf F z) e w' := by
  have HF : Hid (FnAt w v F) := hF
  obtain ⟨n, HN⟩ : ∃ n, Hid (F.blocks.length = n) := ⟨_, rfl⟩
  obtain ⟨vals, HV⟩ : ∃ x, Hid (F.values = x) := ⟨_, rfl⟩
  obtain ⟨ba, bcap, rfl⟩ := hF.out HN.out HV.out
  clear hF
  obtain ⟨wA, hwA⟩ : ∃ wA, w.alloc (.cells #[.slice ba n bcap, .int .i64 vals] 29) = wA := ⟨_, rfl⟩
  have BA : Hid (Below w.heap.size w wA) := by rw [← hwA]; exact Bel.alloc _ _
  have a0 : wA.cell? ⟨w.heap.size, 0, none⟩ = some (.slice ba n bcap) := by rw [← hwA]; simp [go_sem]
  have a1 : wA.cell? ⟨w.heap.size, 1, none⟩ = some (.int .i64 vals) := by rw [← hwA]; simp [go_sem]
  obtain ⟨R, HR⟩ : ∃ R, Hid (degreeOf F z = R) := ⟨_, rfl⟩
  rw [HR.out]
  go_enter Try.func5, Try.ntmps5
  go_wp2_with fail
  refine (l12Value_any _ F z _ (HF.out.later BA.out)).mono ?_
  rintro e w2 ⟨s, rfl, hs, b2⟩
  have HS : Hid (s = true ↔ (FnPlain F ∧ 0 ≤ z ∧ z < F.values)) := hs
  have B2 : Hid (Below w.heap.size w w2) := Bel.after BA.out b2
  have c0 := Bel.keeps b2 a0
  have c1 := Bel.keeps b2 a1
  clear hs b2 a0 a1 hwA BA
  cases s
  · have hR : R = -1 := HR.out.symm.trans (degreeOf_no (fun h => by have := HS.out.2 h; cases this))
    subst hR
    go_wp2_with fail
    go_ret
    exact ⟨rfl, B2.out⟩
  · obtain ⟨hp, hz0, hzV⟩ := HS.out.1 rfl
    have HP : Hid (FnPlain F) := hp
    obtain ⟨n', V, hv⟩ := plainV_of hp
    have en : n' = n := hv.len.symm.trans HN.out
    subst en
    have HPV : Hid (PlainV F n' V) := hv
    rw [hv.vals] at hzV
    have hV8 := hv.v80
    obtain ⟨x, rfl⟩ : ∃ x : Nat, z = (x : Int) := ⟨z.toNat, by omega⟩
    have hxV : x < V := by omega
    obtain ⟨L, HL⟩ : ∃ L, Hid (setL (Clsh F) x = L) := ⟨_, rfl⟩
    have HR2 : Hid (R = (degN L V : Nat)) := by
      rw [← HL.out]
      exact HR.out.symm.trans (degreeOf_yes hp hv hxV)
    clear hp hv
    go_wp2_with fail
    refine (l12Clashes_any _ F n' V _ (HF.out.later B2.out) HPV.out).mono ?_
    rintro e w4 ⟨g, cap, hs, rfl, hm, b4⟩
    have B4 : Hid (Below w.heap.size w w4) := Bel.after B2.out b4
    have HM : Hid (MatW w4 w2.heap.size g V V hs (setL (Clsh F))) := hm
    have f1 := hm.head hxV
    clear hm b4
    go_wp2_with fail
    go_loopw [6, 7] (fun nv i wr => ∃ k : Nat, k ≤ V ∧ i = .int .i64 k ∧ nv = .int .i64 (degN L k : Nat) ∧ wr = w4) (fun _ i _ => V - (intOf i).toNat)
    case atStart => exact ⟨0, Nat.zero_le _, rfl, rfl, rfl⟩
    case round =>
      obtain ⟨k, hk, rfl, rfl, rfl⟩ := hrel
      by_cases hlt : (k : Int) < (V : Int)
      · have hkV : k < V := by omega
        have f2 := (HM.out.bit hxV hkV).1
        rw [HL.out] at f2
        obtain ⟨t, HT⟩ : ∃ t, Hid (decide ((k : Int) ∈ L) = t) := ⟨_, rfl⟩
        rw [HT.out] at f2
        obtain ⟨dk, HDK⟩ : ∃ m, Hid (degN L k = m) := ⟨_, rfl⟩
        have hdk : dk ≤ k := by rw [← HDK.out]; exact degN_le L k
        have hn2 : degN L (k + 1) = dk + (if t then 1 else 0) := by
          rw [degN_next, HDK.out]
          cases t
          · rw [if_neg (of_decide_eq_false HT.out)]; simp
          · rw [if_pos (of_decide_eq_true HT.out)]; simp
        have HN2 : Hid (degN L (k + 1) = dk + (if t then 1 else 0)) := hn2
        clear hn2
        rw [HDK.out]
        go_wp2_with fail
        refine (l12Bit_any t _).mono ?_
        rintro e w5 ⟨rfl, rfl⟩
        cases t
        · simp only [Bool.false_eq_true, if_false]
          go_wp2_with fail
          go_roundw
          case rel => exact ⟨k + 1, by omega, by simp, by rw [HN2.out]; simp, trivial⟩
          case measure => simp [intOf]; omega
        · simp only [if_true]
          go_wp2_with fail
          go_roundw
          case rel => exact ⟨k + 1, by omega, by simp, by rw [HN2.out]; simp, trivial⟩
          case measure => simp [intOf]; omega
      · have ekn : V = k := by omega
        subst ekn
        go_wp2_with fail
        go_ret
        rw [HR2.out]
        exact ⟨rfl, B4.out⟩
end Go.Proofs.Ytjfogpbhacadbaa
