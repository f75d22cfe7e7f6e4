/- The model's Dominates and Above. -/
import Derived.Test.YtkolfddajcmnaaaLDoms
namespace Go.Proofs.Ytkolfddajcmnaaa
open Go.ChangeShapes Go.WideShapes Go.ChangeAt Go.RowKit Go.Shelf
set_option linter.unusedVariables false

theorem mem_domsN {F : FnD} (hS : FnShape F) {a : Int} {b : Nat} : a ∈ domsN F b ↔ 0 ≤ a ∧ Dom F a.toNat b := by
  unfold domsN domsUp
  rw [List.mem_map]
  constructor
  · rintro ⟨p, hp, rfl⟩
    rw [List.mem_filter] at hp
    exact ⟨by omega, by simpa using domB_iff.1 hp.2⟩
  · rintro ⟨h0, h⟩
    exact ⟨a.toNat, List.mem_filter.2 ⟨List.mem_range.2 (dom_lt hS h).1, domB_iff.2 h⟩, by omega⟩
theorem dominatesOf_right {F : FnD} {a b : Int} (h : ¬ RightAt F b) : dominatesOf F a b = false := by
  unfold dominatesOf
  rw [decide_eq_false_iff_not]
  rintro ⟨hS, h0, h1, h2, hd⟩
  exact h ⟨hS, h1, h2⟩
theorem dominatesOf_mem {F : FnD} {a : Int} {b : Nat} (h : RightAt F b) : dominatesOf F a b = decide (a ∈ domsN F b) := by
  unfold dominatesOf
  rw [Bool.eq_iff_iff]
  simp only [decide_eq_true_eq]
  rw [mem_domsN h.1]
  constructor
  · rintro ⟨hS, h0, h1, h2, hd⟩
    exact ⟨h0, by simpa using hd⟩
  · rintro ⟨h0, hd⟩
    exact ⟨h.1, h0, h.2.1, h.2.2, by simpa using hd⟩

set_option maxRecDepth 100000 in
set_option maxHeartbeats 4000000 in
theorem spec_dominates (v : Value) (F : FnD) (a b : Int) (w : World) (hF : FnAt w v F) :
    Calls Try.prog 18 #[v, .int .i64 a, .int .i64 b] w fun e w' => e = .returned (.bool (dominatesOf F a b)) ∧ Below w.heap.size w w' := by
  have HF : Hid (FnAt w v F) := hF
  obtain ⟨n, HN⟩ : ∃ n, Hid (F.blocks.length = n) := ⟨_, rfl⟩
  obtain ⟨vals, HV⟩ : ∃ x, Hid (F.values = x) := ⟨_, rfl⟩
  obtain ⟨ba, bcap, rfl⟩ := hF.out HN.out HV.out
  clear hF
  go_enter Try.func18, Try.ntmps18
  go_wp2_with fail
  refine (l3Right_any _ F b _ (HF.out.later (by repeat (first | exact Below.refl _ _ | apply Below.drew | refine Below.alloc ?_ (by simp <;> omega) _ | refine Below.setCell ?_ (by simp <;> omega) _)))).mono ?_
  rintro e w1 ⟨s1, rfl, hs1, b1⟩
  have S1 : Hid (s1 = true ↔ RightAt F b) := hs1
  have B1 : Hid (Below w.heap.size w w1) := Bel.after (by repeat (first | exact Below.refl _ _ | apply Below.drew | refine Below.alloc ?_ (by simp <;> omega) _ | refine Below.setCell ?_ (by simp <;> omega) _)) b1
  have c0 : w1.cell? ⟨w.heap.size, 0, none⟩ = some (.slice ba n bcap) := Bel.keeps b1 (by simp [go_sem])
  have c1 : w1.cell? ⟨w.heap.size, 1, none⟩ = some (.int .i64 vals) := Bel.keeps b1 (by simp [go_sem])
  clear b1 hs1
  cases s1 with
  | false =>
    have HE : Hid (dominatesOf F a b = false) := dominatesOf_right (fun h => by have := S1.out.2 h; cases this)
    go_wp2_with fail
    go_ret
    exact ⟨by rw [HE.out]; rfl, B1.out⟩
  | true =>
    have hyes : Hid (RightAt F b) := S1.out.1 rfl
    obtain ⟨bn, rfl⟩ : ∃ bn : Nat, b = (bn : Int) := ⟨b.toNat, by have := hyes.out.2.1; omega⟩
    have HE : Hid (dominatesOf F a (bn : Int) = decide (a ∈ domsN F bn)) := dominatesOf_mem hyes.out
    have hbn : bn < n := by have := hyes.out.2.2; rw [HN.out] at this; omega
    have hbi : (bn : Int) < (n : Int) := by omega
    go_wp2_with fail
    refine (l4Doms_any _ F _ (HF.out.later B1.out) hyes.out.1).mono ?_
    rw [HN.out]
    rintro e w2 ⟨g, us, rfl, r2, b2⟩
    obtain ⟨u, HU⟩ : ∃ u, Hid (us.getD bn (.slice none 0 0) = u) := ⟨_, rfl⟩
    have q1 : w2.cell? ⟨g, bn, none⟩ = some u := by rw [← HU.out]; exact r2.cell hbn
    have O2 : Hid (OwnInts w2 w1.heap.size u (domsN F bn)) := by rw [← HU.out]; exact r2.row bn hbn
    have B2 : Hid (Below w.heap.size w w2) := Bel.after B1.out b2
    clear r2 b2 c0 c1
    go_wp2_with fail
    refine (l3Has_any u _ a _ O2.out.at).mono ?_
    rintro e w3 ⟨rfl, hw3⟩
    subst hw3
    obtain ⟨r, HRR⟩ : ∃ r, Hid (decide (a ∈ domsN F bn) = r) := ⟨_, rfl⟩
    rw [HRR.out]
    have HE2 : Hid (dominatesOf F a (bn : Int) = r) := HE.out.trans HRR.out
    go_wp2_with fail
    go_ret
    exact ⟨by rw [HE2.out]; rfl, B2.out⟩

end Go.Proofs.Ytkolfddajcmnaaa
