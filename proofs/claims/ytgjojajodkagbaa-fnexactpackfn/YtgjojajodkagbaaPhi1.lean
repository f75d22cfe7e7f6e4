/- The shape of a program, part 5: the phis, as the model looks at them. -/
import Derived.Test.YtgjojajodkagbaaShape1
namespace Go.Proofs.Ytgjojajodkagbaa
open Go.ChangeShapes Go.WideShapes Go.ChangeAt Go.RowKit
set_option linter.unusedVariables false

/-- A Bool is returned that tells p; the world only grows. -/
def GivesIff (w : World) (p : Prop) (e : Ending) (w' : World) : Prop := ∃ b : Bool, e = .returned (.bool b) ∧ (b = true ↔ p) ∧ Below w.heap.size w w'

theorem iff_no {p : Prop} (h : ¬ p) : (false = true ↔ p) := ⟨fun e => (nomatch e), fun hp => (h hp).elim⟩

/-- The first k arms are right. -/
def ArmsOk (blocks vals : Int) (arms : List ArmD) (k : Nat) : Prop :=
  ∀ j x, j < k → arms[j]? = some x → valIn blocks x.fr = true ∧ valIn vals x.v = true ∧ ∀ i y, i < j → arms[i]? = some y → (y.fr == x.fr) = false
def PhiOk (blocks vals : Int) (x : PhiD) : Prop := valIn vals x.d = true ∧ x.arms.length ≤ 16 ∧ ArmsOk blocks vals x.arms x.arms.length

theorem ArmsOk.step {blocks vals : Int} {arms : List ArmD} {k : Nat} {x : ArmD} (h : ArmsOk blocks vals arms k) (hx : arms[k]? = some x) (h1 : valIn blocks x.fr = true) (h2 : valIn vals x.v = true) (h3 : ∀ i y, i < k → arms[i]? = some y → (y.fr == x.fr) = false) : ArmsOk blocks vals arms (k + 1) := by
  intro j z hj hz
  by_cases e : j = k
  · subst e
    have e2 := hx.symm.trans hz
    simp only [Option.some.injEq] at e2
    subst e2
    exact ⟨h1, h2, h3⟩
  · exact h j z (by omega) hz

theorem getElem_lt {α : Type} {l : List α} {i : Nat} {x : α} (h : l[i]? = some x) : i < l.length := by
  by_cases hlt : i < l.length
  · exact hlt
  · rw [List.getElem?_eq_none (by omega)] at h
    cases h

set_option maxHeartbeats 4000000 in
theorem l2Phi_any (d : Int) (sv : Value) (arms : List ArmD) (blocks vals : Int) (w : World) (ha : ListAt 0 2 ArmAt w sv arms) (hb0 : 0 ≤ blocks) (hb1 : blocks ≤ 9223372036854775807) :
    Calls Try.prog 43 #[.agg #[.int .i64 d, sv], .int .i64 blocks, .int .i64 vals] w fun e w' => GivesIff w (PhiOk blocks vals ⟨d, arms⟩) e w' := by
  obtain ⟨a, cap, rfl, hm, hc⟩ := ha
  obtain ⟨n, HN⟩ : ∃ n, Hid (arms.length = n) := ⟨_, rfl⟩
  rw [HN.out] at hm hc ⊢
  have HC : Hid (0 < n → ∃ b off, a = some ⟨b, off, none⟩ ∧ 0 ≤ b ∧ ∀ i x, arms[i]? = some x → ArmAt w b (off + i * 2) x) := hc
  clear hc
  go_enter Try.func43, Try.ntmps43
  go_wp2_with fail
  refine (l2Value_any d vals _).mono ?_
  rintro e w1 ⟨rfl, rfl⟩
  cases hvd : valIn vals d
  · go_wp2
    go_ret
    exact ⟨false, rfl, by simp [PhiOk, hvd], Bel.alloc _ _⟩
  · by_cases h16 : (16 : Int) < (n : Int)
    · go_wp2
      go_ret
      exact ⟨false, rfl, by have := HN.out; simp [PhiOk]; intro _ h; omega, Bel.alloc _ _⟩
    · go_wp2
      go_loopw [7] (fun i wr => ∃ k : Nat, k ≤ n ∧ i = .int .i64 k ∧ ArmsOk blocks vals arms k ∧ Below (w.alloc (.cells #[.int .i64 d, .slice a n cap] 68)).heap.size (w.alloc (.cells #[.int .i64 d, .slice a n cap] 68)) wr) (fun i _ => n - (intOf i).toNat)
      case atStart => exact ⟨0, Nat.zero_le _, rfl, fun j x hj => absurd hj (by omega), Below.refl _ _⟩
      case round =>
        obtain ⟨k, hk, rfl, hok, hb3⟩ := hrel
        have HK : Hid (ArmsOk blocks vals arms k) := hok
        have H0 : Hid (Below (w.alloc (.cells #[.int .i64 d, .slice a n cap] 68)).heap.size (w.alloc (.cells #[.int .i64 d, .slice a n cap] 68)) wr) := hb3
        have H1 : Hid (Below w.heap.size w wr) := Bel.after (Bel.alloc w _) hb3
        have g0 := box_cell hb3 0
        have g1 := box_cell hb3 1
        simp at g0 g1
        clear hok hb3
        by_cases hlt : (k : Int) < (n : Int)
        · obtain ⟨b, off, rfl, _, hc1⟩ := HC.out (by omega)
          have HC1 : Hid (∀ i x, arms[i]? = some x → ArmAt w b (off + i * 2) x) := hc1
          have hkl : k < arms.length := by have := HN.out; omega
          obtain ⟨x, HX⟩ : ∃ x, Hid (arms[k]? = some x) := ⟨arms[k], List.getElem?_eq_getElem hkl⟩
          obtain ⟨c0, c1⟩ := (hc1 k x HX.out).keep (Keeps.of_below H1.out 0) (Nat.zero_le _)
          clear hc1 hkl
          obtain ⟨x0, x1⟩ := x
          go_wp2_with fail
          refine (l1In_block x0 blocks _).mono ?_
          rintro e w2 ⟨rfl, rfl⟩
          cases hvb : valIn blocks x0
          · go_wp2
            go_ret
            exact ⟨false, rfl, iff_no (by intro hp; obtain ⟨_, _, h⟩ := hp; have h2 := (h k ⟨x0, x1⟩ (by have := HN.out; show k < arms.length; omega) HX.out).1; rw [hvb] at h2; exact (nomatch h2)), H1.out⟩
          · go_wp2_with fail
            refine (l2Value_any x1 vals _).mono ?_
            rintro e w3 ⟨rfl, rfl⟩
            cases hvv : valIn vals x1
            · go_wp2
              go_ret
              exact ⟨false, rfl, iff_no (by intro hp; obtain ⟨_, _, h⟩ := hp; have h2 := (h k ⟨x0, x1⟩ (by have := HN.out; show k < arms.length; omega) HX.out).2.1; rw [hvv] at h2; exact (nomatch h2)), H1.out⟩
            · go_wp2
              obtain ⟨wo, HWO⟩ : ∃ wo : World, Hid (wo = w3) := ⟨_, rfl⟩
              go_loopw [8] (fun i wr => ∃ m : Nat, m ≤ k ∧ i = .int .i64 m ∧ (∀ i y, i < m → arms[i]? = some y → (y.fr == x0) = false) ∧ Below (w.alloc (.cells #[.int .i64 d, .slice (some ⟨b, off, none⟩) n cap] 68)).heap.size (w.alloc (.cells #[.int .i64 d, .slice (some ⟨b, off, none⟩) n cap] 68)) wr) (fun i _ => k - (intOf i).toNat)
              case atStart => exact ⟨0, Nat.zero_le _, rfl, fun j x hj => absurd hj (by omega), H0.out⟩
              case round =>
                obtain ⟨m, hmk, rfl, hdiff, hb4⟩ := hrel
                have HDF : Hid (∀ i y, i < m → arms[i]? = some y → (y.fr == x0) = false) := hdiff
                have HI0 : Hid (Below (w.alloc (.cells #[.int .i64 d, .slice (some ⟨b, off, none⟩) n cap] 68)).heap.size (w.alloc (.cells #[.int .i64 d, .slice (some ⟨b, off, none⟩) n cap] 68)) wr) := hb4
                have HI1 : Hid (Below w.heap.size w wr) := Bel.after (Bel.alloc w _) hb4
                have j0 := box_cell hb4 0
                have j1 := box_cell hb4 1
                simp at j0 j1
                clear hdiff hb4
                by_cases hlt2 : (m : Int) < (k : Int)
                · have hml : m < arms.length := by have := HN.out; omega
                  obtain ⟨y, HY⟩ : ∃ y, Hid (arms[m]? = some y) := ⟨arms[m], List.getElem?_eq_getElem hml⟩
                  obtain ⟨p0, p1⟩ := (HC1.out m y HY.out).keep (Keeps.of_below HI1.out 0) (Nat.zero_le _)
                  obtain ⟨q0, q1⟩ := (HC1.out k _ HX.out).keep (Keeps.of_below HI1.out 0) (Nat.zero_le _)
                  obtain ⟨y0, y1⟩ := y
                  have hmn : (m : Int) < (n : Int) := by omega
                  clear hml c0 c1 g0 g1
                  cases heq : (y0 == x0)
                  · go_wp2
                    go_quiet (fail)
                    go_wp2
                    go_roundw
                    case rel =>
                      refine ⟨m + 1, by omega, by go_num, fun i z hi hz => ?_, HI0.out.trans ⟨rfl, rfl, rfl, Nat.le_refl _, fun _ _ => rfl⟩⟩
                      by_cases e : i = m
                      · subst e
                        have e2 := HY.out.symm.trans hz
                        simp only [Option.some.injEq] at e2
                        subst e2
                        exact heq
                      · exact HDF.out i z (by omega) hz
                    case measure => simp [intOf]; omega
                  · go_wp2
                    go_quiet (fail)
                    go_wp2
                    go_ret
                    exact ⟨false, rfl, iff_no (by intro hp; obtain ⟨_, _, h⟩ := hp; have h2 := (h k ⟨x0, x1⟩ (by have := HN.out; show k < arms.length; omega) HX.out).2.2 m ⟨y0, y1⟩ (by omega) HY.out; rw [heq] at h2; exact (nomatch h2)), HI1.out.trans ⟨rfl, rfl, rfl, Nat.le_refl _, fun _ _ => rfl⟩⟩
                · have hme : m = k := by omega
                  have HME : Hid (m = k) := hme
                  clear hme
                  go_wp2
                  go_roundw
                  case rel => exact ⟨k + 1, by omega, by go_num, HK.out.step HX.out hvb hvv (by have := HME.out; subst this; exact HDF.out), HI0.out⟩
                  case measure => simp [intOf]; omega
        · have hkn : k = n := by omega
          have HKN : Hid (k = n) := hkn
          clear hkn
          go_wp2
          go_ret
          exact ⟨true, rfl, ⟨fun _ => ⟨hvd, by have := HN.out; show arms.length ≤ 16; omega, by show ArmsOk blocks vals arms arms.length; rw [HN.out, ← HKN.out]; exact HK.out⟩, fun _ => rfl⟩, H1.out⟩
end Go.Proofs.Ytgjojajodkagbaa
