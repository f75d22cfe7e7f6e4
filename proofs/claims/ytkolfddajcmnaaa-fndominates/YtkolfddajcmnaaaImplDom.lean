/- The program's Dominates and Above. -/
import Derived.Test.YtkolfddajcmnaaaDomsOf
import Derived.Test.YtkolfddajcmnaaaSetList
namespace Go.Proofs.Ytkolfddajcmnaaa
open Go.ChangeShapes Go.WideShapes Go.ChangeAt Go.RowKit Go.Shelf
set_option linter.unusedVariables false

theorem run_index_tab (T : Tab) {b : Nat} (hb : b < 16) (w : World) : (Instr.index 59 (tabV T) (.int .i64 (b : Int))).run Try.prog w = .ok (setV (T b)) w := by
  have h2 : (b : Int) < 16 := by omega
  have hp := part_set T hb w
  unfold tabV
  simp [Instr.index, asIntOf, Sem.run_bind, Try.sizeOf57, hp]
  intro hh
  omega

theorem dominatesOf_a {F : FnD} {a b : Int} {n : Nat} (hN : F.blocks.length = n) (h : valIn (n : Int) a = false) : dominatesOf F a b = false := by
  unfold dominatesOf
  rw [decide_eq_false_iff_not]
  rintro ⟨hS, h0, h1, h2, hd⟩
  have := (dom_lt hS hd).1
  rw [hN] at this
  rw [valIn_yes h0 (by omega)] at h
  cases h
theorem dominatesOf_b {F : FnD} {a b : Int} {n : Nat} (hN : F.blocks.length = n) (h : valIn (n : Int) b = false) : dominatesOf F a b = false := by
  unfold dominatesOf
  rw [decide_eq_false_iff_not]
  rintro ⟨hS, h0, h1, h2, hd⟩
  rw [hN] at h2
  rw [valIn_yes h1 h2] at h
  cases h
theorem dominatesOf_yes {F : FnD} (hS : FnShape F) {a b : Nat} (hb : b < F.blocks.length) : dominatesOf F a b = domB F a b := by
  unfold dominatesOf
  rw [Bool.eq_iff_iff, domB_iff]
  simp
  constructor
  · rintro ⟨_, _, h⟩
    exact h
  · intro h
    exact ⟨hS, hb, h⟩

set_option maxRecDepth 100000 in
set_option maxHeartbeats 4000000 in
theorem impl_dominates (v : Value) (F : FnD) (a b : Int) (w : World) (hF : FnAt w v F) :
    Calls Try.prog 19 #[v, .int .i64 a, .int .i64 b] w fun e w' => e = .returned (.bool (dominatesOf F a b)) ∧ Below w.heap.size w w' := by
  have HF : Hid (FnAt w v F) := hF
  obtain ⟨n, HN⟩ : ∃ n, Hid (F.blocks.length = n) := ⟨_, rfl⟩
  obtain ⟨vals, HV⟩ : ∃ x, Hid (F.values = x) := ⟨_, rfl⟩
  obtain ⟨ba, bcap, rfl⟩ := hF.out HN.out HV.out
  clear hF
  go_enter Try.func19, Try.ntmps19
  go_wp2_with fail
  refine (impl_shapeOk _ F _ (HF.out.later (by repeat (first | exact Below.refl _ _ | apply Below.drew | refine Below.alloc ?_ (by simp <;> omega) _ | refine Below.setCell ?_ (by simp <;> omega) _)))).mono ?_
  rintro e w1 ⟨s1, rfl, hs1, b1⟩
  have S1 : Hid (s1 = true ↔ FnShape F) := hs1
  have B1 : Hid (Below w.heap.size w w1) := Bel.after (by repeat (first | exact Below.refl _ _ | apply Below.drew | refine Below.alloc ?_ (by simp <;> omega) _ | refine Below.setCell ?_ (by simp <;> omega) _)) b1
  have c0 : w1.cell? ⟨w.heap.size, 0, none⟩ = some (.slice ba n bcap) := Bel.keeps b1 (by simp [go_sem])
  have c1 : w1.cell? ⟨w.heap.size, 1, none⟩ = some (.int .i64 vals) := Bel.keeps b1 (by simp [go_sem])
  clear b1 hs1
  cases s1 with
  | false =>
    have HE : Hid (dominatesOf F a b = false) := by
      unfold dominatesOf
      rw [decide_eq_false_iff_not]
      exact fun h => by have := S1.out.2 h.1; cases this
    go_wp2_with fail
    go_ret
    exact ⟨by rw [HE.out]; rfl, B1.out⟩
  | true =>
    have hyes : Hid (FnShape F) := S1.out.1 rfl
    have h16 : n ≤ 16 := by rw [← HN.out]; exact hyes.out.2.1
    go_wp2_with fail
    refine (blockIn_any ba n bcap vals a _).mono ?_
    rintro e w2 ⟨rfl, b2⟩
    have B2 : Hid (Below w.heap.size w w2) := Bel.after B1.out b2
    replace c0 := Bel.keeps b2 c0
    replace c1 := Bel.keeps b2 c1
    clear b2
    cases hva : valIn (n : Int) a with
    | false =>
      have HE : Hid (dominatesOf F a b = false) := dominatesOf_a HN.out hva
      go_wp2_with fail
      go_ret
      exact ⟨by rw [HE.out]; rfl, B2.out⟩
    | true =>
      obtain ⟨ha0, ha1⟩ := valIn_iff.1 hva
      go_wp2_with fail
      refine (blockIn_any ba n bcap vals b _).mono ?_
      rintro e w3 ⟨rfl, b3⟩
      have B3 : Hid (Below w.heap.size w w3) := Bel.after B2.out b3
      replace c0 := Bel.keeps b3 c0
      replace c1 := Bel.keeps b3 c1
      clear b3 hva
      cases hvb : valIn (n : Int) b with
      | false =>
        have HE : Hid (dominatesOf F a b = false) := dominatesOf_b HN.out hvb
        go_wp2_with fail
        go_ret
        exact ⟨by rw [HE.out]; rfl, B3.out⟩
      | true =>
        obtain ⟨hb0, hb1⟩ := valIn_iff.1 hvb
        obtain ⟨an, rfl⟩ : ∃ an : Nat, a = (an : Int) := ⟨a.toNat, by omega⟩
        obtain ⟨bn, rfl⟩ : ∃ bn : Nat, b = (bn : Int) := ⟨b.toNat, by omega⟩
        have HE : Hid (dominatesOf F (an : Int) (bn : Int) = domB F an bn) := dominatesOf_yes hyes.out (by rw [HN.out]; omega)
        clear hvb
        go_wp2_with fail
        refine (domsOf_any _ F _ (HF.out.later B3.out) hyes.out).mono ?_
        rintro e w4 ⟨rfl, b4⟩
        have B4 : Hid (Below w.heap.size w w4) := Bel.after B3.out b4
        have hix := run_index_tab (fun b a => domB F a b) (b := bn) (by omega)
        clear b4 c0 c1
        go_wp2_with fail
        refine (setHas_any (fun a => domB F a bn) an (by omega) _).mono ?_
        rintro e w5 ⟨rfl, b5⟩
        have B5 : Hid (Below w.heap.size w w5) := Bel.after B4.out b5
        clear b5 hix
        go_wp2_with fail
        go_ret
        exact ⟨by rw [HE.out]; rfl, B5.out⟩
end Go.Proofs.Ytkolfddajcmnaaa
