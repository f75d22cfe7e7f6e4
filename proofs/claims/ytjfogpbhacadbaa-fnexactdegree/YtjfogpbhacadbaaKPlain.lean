/- A program's blocks and lists in memory, one at a time. A program without phis: the program's PlainOk and the model's tell FnPlain. -/
import Derived.Test.YtjfogpbhacadbaaKIns
import Derived.Test.YtjfogpbhacadbaaKSh5
import Derived.Test.YtjfogpbhacadbaaKSh8
import Derived.Test.YtjfogpbhacadbaaKGraph
namespace Go.Proofs.Ytjfogpbhacadbaa
open Go.ChangeShapes Go.WideShapes Go.ChangeAt Go.RowKit
set_option linter.unusedVariables false

theorem FnAt.blockC {w : World} {ba : Option Addr} {n bcap : Nat} {vals : Int} {F : FnD} (h : FnAt w (.agg #[.slice ba n bcap, .int .i64 vals]) F) {k : Nat} {x : BlockD} (hn : F.blocks.length = n) (hk : k < n) (hx : F.blocks[k]? = some x) : ∃ b off, ba = some ⟨b, off, none⟩ ∧ BlockAt 0 w b (off + k * 6) x := by
  obtain ⟨bv, he, a0, cap0, hbv, _, hc⟩ := h
  have e1 : (.slice ba n bcap : Value) = bv := by simp at he; exact he.1
  rw [hbv] at e1
  simp at e1
  obtain ⟨b, off, hb, _, hel⟩ := hc (by omega)
  exact ⟨b, off, e1.1.trans hb, hel k x hx⟩
theorem listAt_at {α : Type} {sz : Nat} {E : World → Nat → Nat → α → Prop} {w : World} {a : Option Addr} {n cap : Nat} {l : List α} (h : ListAt 0 sz E w (.slice a n cap) l) {k : Nat} {x : α} (hx : l[k]? = some x) : ∃ b off, a = some ⟨b, off, none⟩ ∧ E w b (off + k * sz) x := by
  obtain ⟨a0, cap0, e, _, hc⟩ := h
  simp at e
  have hk := (List.getElem?_eq_some_iff.1 hx).1
  obtain ⟨b, off, ha, _, hd⟩ := hc (by omega)
  exact ⟨b, off, e.1.trans ha, hd k x hx⟩
end Go.Proofs.Ytjfogpbhacadbaa

namespace Go.Proofs.Ytjfogpbhacadbaa
open Go.ChangeShapes Go.WideShapes Go.ChangeAt Go.RowKit
set_option linter.unusedVariables false

/-- Plain: of the right shape, and no block has a phi. -/
def FnPlain (F : FnD) : Prop := FnShape F ∧ ∀ (j : Nat) b, F.blocks[j]? = some b → b.phis = []

theorem phis_len {b : BlockD} (h : b.phis = []) : b.phis.length = 0 := by rw [h]; rfl
theorem FnAt.most {w : World} {v : Value} {F : FnD} (h : FnAt w v F) : F.blocks.length ≤ 9223372036854775807 := by
  obtain ⟨bv, _, a, cap, _, hm, _⟩ := h
  exact hm

set_option maxHeartbeats 4000000 in
theorem spec_plainOk (v : Value) (F : FnD) (w : World) (hF : FnAt w v F) :
    Calls Try.prog 20 #[v] w fun e w' => GivesIff w (FnPlain F) e w' := by
  have HF : Hid (FnAt w v F) := hF
  obtain ⟨n, HN⟩ : ∃ n, Hid (F.blocks.length = n) := ⟨_, rfl⟩
  obtain ⟨vals, HV⟩ : ∃ x, Hid (F.values = x) := ⟨_, rfl⟩
  obtain ⟨ba, bcap, rfl⟩ := hF.out HN.out HV.out
  have hmost : n ≤ 9223372036854775807 := by rw [← HN.out]; exact hF.most
  clear hF
  obtain ⟨wA, hwA⟩ : ∃ wA, w.alloc (.cells #[.slice ba n bcap, .int .i64 vals] 29) = wA := ⟨_, rfl⟩
  have HwA : Hid (Below w.heap.size w wA) := by rw [← hwA]; exact Bel.alloc _ _
  have a0 : wA.cell? ⟨w.heap.size, 0, none⟩ = some (.slice ba n bcap) := by rw [← hwA]; simp [go_sem]
  have a1' : wA.cell? ⟨w.heap.size, 1, none⟩ = some (.int .i64 vals) := by rw [← hwA]; simp [go_sem]
  go_enter Try.func20, Try.ntmps20
  go_wp2_with fail
  try rw [hwA]
  clear hwA
  refine (spec_shapeOk _ F _ (HF.out.later HwA.out)).mono ?_
  rintro e w1 ⟨s, rfl, hs, b1⟩
  have HS : Hid (s = true ↔ FnShape F) := hs
  have B1 : Hid (Below w.heap.size w w1) := Bel.after HwA.out b1
  replace a0 := Bel.keeps b1 a0
  replace a1' := Bel.keeps b1 a1'
  clear b1 hs
  cases s
  · go_wp2_with fail
    go_ret
    exact ⟨false, rfl, iff_no (fun h => by have := HS.out.2 h.1; cases this), B1.out⟩
  · go_wp2_with fail
    go_loopw [3] (fun i wr => ∃ k : Nat, k ≤ n ∧ i = .int .i64 k ∧ (∀ (j : Nat) p, j < k → F.blocks[j]? = some p → p.phis = []) ∧ Below w1.heap.size w1 wr) (fun i _ => n - (intOf i).toNat)
    case atStart => exact ⟨0, Nat.zero_le _, rfl, fun j x hj => absurd hj (by omega), Below.refl _ _⟩
    case round =>
      obtain ⟨k, hk, rfl, hok, hb3⟩ := hrel
      have HK : Hid (∀ (j : Nat) p, j < k → F.blocks[j]? = some p → p.phis = []) := hok
      have H0 : Hid (Below w1.heap.size w1 wr) := hb3
      have H1 : Hid (Below w.heap.size w wr) := Bel.after B1.out hb3
      have f0 := Bel.keeps hb3 a0
      have f1 := Bel.keeps hb3 a1'
      clear hok hb3
      by_cases hlt : (k : Int) < (n : Int)
      · have hkl : k < F.blocks.length := by have := HN.out; omega
        obtain ⟨x, HX⟩ : ∃ x, Hid (F.blocks[k]? = some x) := ⟨F.blocks[k], List.getElem?_eq_getElem hkl⟩
        obtain ⟨b, off, rfl, pv, lv, c0, c1, c2, c3, c4, c5, hpv, hlv⟩ := FnAt.blockC (HF.out.later H1.out) HN.out (by omega) HX.out
        clear hkl c1 c2 c3 c4 c5 hlv
        obtain ⟨pa, pcap, rfl, hpm, _⟩ := hpv
        obtain ⟨m, HM⟩ : ∃ m, Hid (x.phis.length = m) := ⟨_, rfl⟩
        rw [HM.out] at c0 hpm
        by_cases h0 : (m : Int) > 0
        · go_wp2_with fail
          go_ret
          exact ⟨false, rfl, iff_no (fun h => by have h1 := phis_len (h.2 k x HX.out); have h2 := HM.out; omega), H1.out⟩
        · go_wp2_with fail
          go_roundw
          case rel =>
            refine ⟨k + 1, by omega, by go_num, fun j p hj hp => ?_, H0.out⟩
            by_cases e : j = k
            · subst e
              have e2 := HX.out.symm.trans hp
              simp only [Option.some.injEq] at e2
              subst e2
              exact List.length_eq_zero_iff.1 (by have := HM.out; omega)
            · exact HK.out j p (by omega) hp
          case measure => simp [intOf]; omega
      · have hkn : k = n := by omega
        have HALL : Hid (FnPlain F) := by
          refine ⟨HS.out.1 (by simp), fun j p hp => ?_⟩
          exact HK.out j p (by have h1 := getElem_lt hp; have h2 := HN.out; omega) hp
        clear hkn
        go_wp2_with fail
        go_ret
        exact ⟨true, rfl, ⟨fun _ => HALL.out, fun _ => rfl⟩, H1.out⟩

set_option maxHeartbeats 4000000 in
theorem impl_plain (v : Value) (F : FnD) (w : World) (hF : FnAt w v F) :
    Calls Try.prog 26 #[v] w fun e w' => GivesIff w (FnPlain F) e w' := by
  have HF : Hid (FnAt w v F) := hF
  obtain ⟨n, HN⟩ : ∃ n, Hid (F.blocks.length = n) := ⟨_, rfl⟩
  obtain ⟨vals, HV⟩ : ∃ x, Hid (F.values = x) := ⟨_, rfl⟩
  obtain ⟨ba, bcap, rfl⟩ := hF.out HN.out HV.out
  have hmost : n ≤ 9223372036854775807 := by rw [← HN.out]; exact hF.most
  clear hF
  obtain ⟨wA, hwA⟩ : ∃ wA, w.alloc (.cells #[.slice ba n bcap, .int .i64 vals] 29) = wA := ⟨_, rfl⟩
  have HwA : Hid (Below w.heap.size w wA) := by rw [← hwA]; exact Bel.alloc _ _
  have a0 : wA.cell? ⟨w.heap.size, 0, none⟩ = some (.slice ba n bcap) := by rw [← hwA]; simp [go_sem]
  have a1' : wA.cell? ⟨w.heap.size, 1, none⟩ = some (.int .i64 vals) := by rw [← hwA]; simp [go_sem]
  go_enter Try.func26, Try.ntmps26
  go_wp2_with fail
  try rw [hwA]
  clear hwA
  go_loopw [8] (fun i wr => ∃ k : Nat, k ≤ n ∧ i = .int .i64 k ∧ (∀ (j : Nat) p, j < k → F.blocks[j]? = some p → p.phis = []) ∧ Below wA.heap.size wA wr) (fun i _ => n - (intOf i).toNat)
  case atStart => exact ⟨0, Nat.zero_le _, rfl, fun j x hj => absurd hj (by omega), Below.refl _ _⟩
  case round =>
    obtain ⟨k, hk, rfl, hok, hb3⟩ := hrel
    have HK : Hid (∀ (j : Nat) p, j < k → F.blocks[j]? = some p → p.phis = []) := hok
    have H0 : Hid (Below wA.heap.size wA wr) := hb3
    have H1 : Hid (Below w.heap.size w wr) := Bel.after HwA.out hb3
    have f0 := Bel.keeps hb3 a0
    have f1 := Bel.keeps hb3 a1'
    clear hok hb3
    by_cases hlt : (k : Int) < (n : Int)
    · have hkl : k < F.blocks.length := by have := HN.out; omega
      obtain ⟨x, HX⟩ : ∃ x, Hid (F.blocks[k]? = some x) := ⟨F.blocks[k], List.getElem?_eq_getElem hkl⟩
      obtain ⟨b, off, rfl, pv, lv, c0, c1, c2, c3, c4, c5, hpv, hlv⟩ := FnAt.blockC (HF.out.later H1.out) HN.out (by omega) HX.out
      clear hkl
      obtain ⟨pa, pcap, rfl, hpm, _⟩ := hpv
      obtain ⟨la, lcap, rfl, hlm, _⟩ := hlv
      obtain ⟨m, HM⟩ : ∃ m, Hid (x.phis.length = m) := ⟨_, rfl⟩
      rw [HM.out] at c0 hpm
      by_cases h0 : (m : Int) > 0
      · go_wp2_with fail
        go_ret
        exact ⟨false, rfl, iff_no (fun h => by have h1 := phis_len (h.2 k x HX.out); have h2 := HM.out; omega), Bel.after H1.out (Bel.alloc _ _)⟩
      · go_wp2_with fail
        go_roundw
        case rel =>
          refine ⟨k + 1, by omega, by go_num, fun j p hj hp => ?_, Bel.after H0.out (Bel.alloc _ _)⟩
          by_cases e : j = k
          · subst e
            have e2 := HX.out.symm.trans hp
            simp only [Option.some.injEq] at e2
            subst e2
            exact List.length_eq_zero_iff.1 (by have := HM.out; omega)
          · exact HK.out j p (by omega) hp
        case measure => simp [intOf]; omega
    · have hkn : k = n := by omega
      have HALL : Hid (∀ (j : Nat) p, F.blocks[j]? = some p → p.phis = []) := fun j p hp =>
        HK.out j p (by have h1 := getElem_lt hp; have h2 := HN.out; omega) hp
      clear hkn
      go_wp2_with fail
      refine (impl_shapeOk _ F _ (HF.out.later H1.out)).mono ?_
      rintro e w2 ⟨s, rfl, hs, b2⟩
      have HS : Hid (s = true ↔ FnShape F) := hs
      have B2 : Hid (Below w.heap.size w w2) := Bel.after H1.out b2
      clear hs b2
      go_wp2_with fail
      go_ret
      exact ⟨s, rfl, ⟨fun h => ⟨HS.out.1 h, HALL.out⟩, fun h => HS.out.2 h.1⟩, B2.out⟩

set_option maxHeartbeats 1000000 in
theorem impl_plainOk (v : Value) (F : FnD) (w : World) (hF : FnAt w v F) :
    Calls Try.prog 14 #[v] w fun e w' => GivesIff w (FnPlain F) e w' := by
  have HF : Hid (FnAt w v F) := hF
  obtain ⟨n, HN⟩ : ∃ n, Hid (F.blocks.length = n) := ⟨_, rfl⟩
  obtain ⟨vals, HV⟩ : ∃ x, Hid (F.values = x) := ⟨_, rfl⟩
  obtain ⟨ba, bcap, rfl⟩ := hF.out HN.out HV.out
  clear hF
  go_enter Try.func14, Try.ntmps14
  go_wp2_with fail
  refine (impl_plain _ F _ (HF.out.later (Bel.alloc _ _))).mono ?_
  rintro e w2 ⟨s, rfl, hs, b2⟩
  have HS : Hid (s = true ↔ FnPlain F) := hs
  have B2 : Hid (Below w.heap.size w w2) := Bel.after (Bel.alloc _ _) b2
  clear hs b2
  go_wp2_with fail
  go_ret
  exact ⟨s, rfl, HS.out, B2.out⟩
end Go.Proofs.Ytjfogpbhacadbaa
