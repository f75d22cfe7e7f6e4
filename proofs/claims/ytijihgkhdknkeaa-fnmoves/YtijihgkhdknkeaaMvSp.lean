/- Sequence, of the model. -/
import Derived.Test.YtijihgkhdknkeaaMvSeq
import Derived.Test.YtijihgkhdknkeaaMvOk
import Derived.Test.YtijihgkhdknkeaaCks
namespace Go.Proofs.Ytijihgkhdknkeaa
open Go.ChangeShapes Go.WideShapes Go.ChangeAt Go.RowKit
set_option linter.unusedVariables false

/-- The first one that is free, or -1. -/
def freeN (left : List ArmD) : Int := match mvFree left with | some i => (i : Int) | none => -1
/-- Somebody among the first k, but number i, takes d. -/
def OthersTake (l : List ArmD) (i : Nat) (d : Int) (k : Nat) : Prop := ∃ j y, j < k ∧ j ≠ i ∧ l[j]? = some y ∧ y.v = d
theorem othersTake_next {l : List ArmD} {i : Nat} {d : Int} {k : Nat} {y : ArmD} (hy : l[k]? = some y) : OthersTake l i d (k + 1) ↔ OthersTake l i d k ∨ (k ≠ i ∧ y.v = d) := by
  constructor
  · rintro ⟨j, z, hj, hji, hz, e⟩
    by_cases hjk : j = k
    · subst hjk
      rw [hy] at hz
      cases hz
      exact .inr ⟨hji, e⟩
    · exact .inl ⟨j, z, by omega, hji, hz, e⟩
  · rintro (⟨j, z, hj, hji, hz, e⟩ | ⟨hk, e⟩)
    · exact ⟨j, z, by omega, hji, hz, e⟩
    · exact ⟨k, y, by omega, hk, hy, e⟩
theorem othersTake_all {l : List ArmD} {i : Nat} {x : ArmD} (hx : l[i]? = some x) (hne : ∀ x ∈ l, x.fr ≠ x.v) : OthersTake l i x.fr l.length ↔ mvTaken l x.fr = true := by
  rw [mvTaken_iff]
  constructor
  · rintro ⟨j, y, _, _, hy, e⟩
    exact ⟨y, List.mem_of_getElem? hy, e⟩
  · rintro ⟨y, hy, e⟩
    obtain ⟨j, hj⟩ := List.mem_iff_getElem?.1 hy
    refine ⟨j, y, (List.getElem?_eq_some_iff.1 hj).1, fun e2 => ?_, hj, e⟩
    subst e2
    rw [hx] at hj
    cases hj
    exact hne x hy e.symm

set_option maxHeartbeats 4000000 in
theorem l9Free_any (v : Value) (l : List ArmD) (w : World) (ha : MovesAt w v l) (hne : ∀ x ∈ l, x.fr ≠ x.v) :
    Calls Try.prog 49 #[v] w fun e w' => e = .returned (.int .i64 (freeN l)) ∧ Below w.heap.size w w' := by
  obtain ⟨a, cap, rfl, hm, hc⟩ := ha
  obtain ⟨m, HM⟩ : ∃ m, Hid (l.length = m) := ⟨_, rfl⟩
  obtain ⟨R, HR⟩ : ∃ R, Hid (freeN l = R) := ⟨_, rfl⟩
  rw [HM.out] at hm hc ⊢
  rw [HR.out]
  have HC : Hid (0 < m → ∃ b off, a = some ⟨b, off, none⟩ ∧ 0 ≤ b ∧ ∀ i x, l[i]? = some x → ArmAt w b (off + i * 2) x) := hc
  have HNE : Hid (∀ x ∈ l, x.fr ≠ x.v) := hne
  clear hc hne
  go_enter Try.func49, Try.ntmps49
  go_wp2
  go_loopw [3] (fun i wr => ∃ k : Nat, k ≤ m ∧ i = .int .i64 k ∧ (∀ j y, j < k → l[j]? = some y → mvTaken l y.fr = true) ∧ Below w.heap.size w wr) (fun i _ => m - (intOf i).toNat)
  case atStart => exact ⟨0, Nat.zero_le _, rfl, fun j y hj => absurd hj (by omega), Below.refl _ _⟩
  case round =>
    obtain ⟨k, hk, rfl, hno, hB⟩ := hrel
    have HNO : Hid (∀ j y, j < k → l[j]? = some y → mvTaken l y.fr = true) := hno
    have HB : Hid (Below w.heap.size w wr) := hB
    clear hno hB
    by_cases hlt2 : (k : Int) < (m : Int)
    · obtain ⟨b, off, rfl, _, hc1⟩ := HC.out (by omega)
      have HC1 : Hid (∀ i x, l[i]? = some x → ArmAt w b (off + i * 2) x) := hc1
      have hkl : k < l.length := by have := HM.out; omega
      obtain ⟨x, HX⟩ : ∃ x, Hid (l[k]? = some x) := ⟨l[k], List.getElem?_eq_getElem hkl⟩
      clear hc1 hkl
      obtain ⟨d, s⟩ := x
      have HC0 : Hid (w.cell? ⟨b, off + k * 2, none⟩ = some (.int .i64 d)) := (HC1.out k _ HX.out).1
      go_wp2
      go_loopw [4, 5] (fun t i w2 => ∃ (j : Nat) (q : Bool), j ≤ m ∧ i = .int .i64 j ∧ t = .bool q ∧ (q = true ↔ OthersTake l k d j) ∧ Below w.heap.size w w2) (fun _ i _ => m - (intOf i).toNat)
      case atStart => exact ⟨0, false, Nat.zero_le _, rfl, rfl, ⟨fun h => (by cases h), fun ⟨j, y, h, _⟩ => absurd h (by omega)⟩, HB.out⟩
      case round =>
        obtain ⟨j, q, hj, rfl, rfl, hq, hB2⟩ := hrel
        have HQ : Hid (q = true ↔ OthersTake l k d j) := hq
        have HB2 : Hid (Below w.heap.size w wr) := hB2
        have c0 := Bel.keeps hB2 HC0.out
        clear hq hB2
        by_cases hlt3 : (j : Int) < (m : Int)
        · have hjl : j < l.length := by have := HM.out; omega
          obtain ⟨y, HY⟩ : ∃ y, Hid (l[j]? = some y) := ⟨l[j], List.getElem?_eq_getElem hjl⟩
          have q0 := Bel.keeps HB2.out (HC1.out j y HY.out).2
          obtain ⟨d2, s2⟩ := y
          dsimp only at q0
          clear hjl
          cases q with
          | true =>
            have HQ1 : Hid (OthersTake l k d j) := HQ.out.1 rfl
            clear HQ
            go_wp2
            go_quiet (fail)
            go_wp2
            go_roundw
            case rel => exact ⟨j + 1, true, by omega, by go_num, rfl, ⟨fun _ => (othersTake_next HY.out).2 (.inl HQ1.out), fun _ => rfl⟩, Bel.drewN HB2.out _⟩
            case measure => simp [intOf]; omega
          | false =>
            have HQ0 : Hid (¬ OthersTake l k d j) := fun h => by cases HQ.out.2 h
            clear HQ
            by_cases hjk : (j : Int) = (k : Int)
            · have hjk2 : ((j : Int) != (k : Int)) = false := by simpa using hjk
              have HJK : Hid (j = k) := by show _ = _; omega
              clear hjk
              go_wp2
              go_quiet (fail)
              go_wp2
              go_roundw
              case rel => exact ⟨j + 1, false, by omega, by go_num, rfl, ⟨fun h => (by cases h), fun h => (by
                rcases (othersTake_next HY.out).1 h with h | h
                · exact absurd h HQ0.out
                · exact absurd HJK.out h.1)⟩, Bel.drewN HB2.out _⟩
              case measure => simp [intOf]; omega
            · have hjk2 : ((j : Int) != (k : Int)) = true := by simpa using hjk
              have HJK : Hid (¬ j = k) := by show ¬ _; omega
              clear hjk
              by_cases hd : s2 = d
              · subst hd
                have hee : (s2 == s2) = true := by simp
                go_wp2
                go_quiet (fail)
                go_wp2
                go_roundw
                case rel => exact ⟨j + 1, true, by omega, by go_num, rfl, ⟨fun _ => (othersTake_next HY.out).2 (.inr ⟨HJK.out, rfl⟩), fun _ => rfl⟩, Bel.drewN HB2.out _⟩
                case measure => simp [intOf]; omega
              · have hee : (s2 == d) = false := by simpa using hd
                have HD : Hid (¬ s2 = d) := hd
                clear hd
                go_wp2
                go_quiet (fail)
                go_wp2
                go_roundw
                case rel => exact ⟨j + 1, false, by omega, by go_num, rfl, ⟨fun h => (by cases h), fun h => (by
                  rcases (othersTake_next HY.out).1 h with h | h
                  · exact absurd h HQ0.out
                  · exact absurd h.2 HD.out)⟩, Bel.drewN HB2.out _⟩
                case measure => simp [intOf]; omega
        · have hjm : j = m := by omega
          subst hjm
          have HT : Hid (q = mvTaken l d) := by
            have h1 := othersTake_all HX.out HNE.out
            rw [HM.out] at h1
            have h2 := HQ.out.trans h1
            show _ = _
            cases q <;> cases h3 : mvTaken l d <;> simp_all
          cases q with
          | true =>
            go_wp2
            go_roundw
            case rel =>
              refine ⟨k + 1, by omega, by go_num, fun i y hi hy => ?_, HB2.out⟩
              by_cases e : i = k
              · subst e
                rw [HX.out] at hy
                cases hy
                exact HT.out.symm
              · exact HNO.out i y (by omega) hy
            case measure => simp [intOf]; omega
          | false =>
            obtain rfl : (k : Int) = R := by
              rw [← HR.out]
              unfold freeN
              rw [mvFree_is HX.out HT.out.symm HNO.out]
            go_wp2
            go_ret
            exact ⟨rfl, HB2.out⟩
    · have hkm : k = m := by omega
      subst hkm
      obtain rfl : (-1 : Int) = R := by
        rw [← HR.out]
        unfold freeN
        rw [mvFree_not (fun x hx => by
          obtain ⟨j, hj⟩ := List.mem_iff_getElem?.1 hx
          exact HNO.out j x (by have := (List.getElem?_eq_some_iff.1 hj).1; have := HM.out; omega) hj)]
      go_wp2
      go_ret
      exact ⟨rfl, HB.out⟩
end Go.Proofs.Ytijihgkhdknkeaa
