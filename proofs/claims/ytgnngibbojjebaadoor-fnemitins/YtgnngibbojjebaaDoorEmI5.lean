/- Code from homes: the program's EmitIns. -/
import Derived.Test.YtgnngibbojjebaaDoorEmI4
namespace Go.Proofs.YtgnngibbojjebaaDoor
open Go.ChangeShapes Go.WideShapes Go.ChangeAt Go.RowKit
set_option linter.unusedVariables false

theorem homesX_iff (op d a b n : Int) : homesX ⟨op, d, a, b, n⟩ = ((!makesV op || homeB d) && (usesV op a b).all homeB) := rfl
theorem all_homes (L : List Int) : L.all homeB = true ↔ HomesIn L := by
  rw [List.all_eq_true]
  exact ⟨fun h z hz => homeB_iff.1 (h z hz), fun h z hz => homeB_iff.2 (h z hz)⟩
theorem hX_d {op d a b n : Int} (h : homesX ⟨op, d, a, b, n⟩ = true) (hm : makesV op = true) : homeB d = true := by
  rw [homesX_iff, hm] at h
  simp at h
  exact h.1
theorem hX_u {op d a b n : Int} (h : homesX ⟨op, d, a, b, n⟩ = true) : ∀ z ∈ usesV op a b, homeB z = true := by
  rw [homesX_iff, Bool.and_eq_true, List.all_eq_true] at h
  exact h.2

theorem placeAtHome_any (op d a b n : Int) (w : World) :
    Calls Tryd.prog 33 #[placeV op d a b n] w fun e w' => e = .returned (.bool (homesX ⟨op, d, a, b, n⟩)) ∧ Below w.heap.size w w' := by
  obtain ⟨P, HP⟩ : ∃ P, Hid (placeV op d a b n = P) := ⟨_, rfl⟩
  have HD : Hid (∀ w, Calls Tryd.prog 44 #[P] w fun e w' => e = .returned (.tuple #[.int .i64 (madeV op d), .bool (makesV op)]) ∧ Below w.heap.size w w') := fun w => by rw [← HP.out]; exact placeDef_any op d a b n w
  have HU : Hid (∀ w, Calls Tryd.prog 60 #[P] w fun e w' => GivesInts w (usesV op a b) e w') := fun w => by rw [← HP.out]; exact placeUses_any op d a b n w
  rw [HP.out, homesX_iff]
  obtain ⟨mk, HM⟩ : ∃ m, Hid (makesV op = m) := ⟨_, rfl⟩
  obtain ⟨hd, HH⟩ : ∃ m, Hid (homeB d = m) := ⟨_, rfl⟩
  obtain ⟨L, HL⟩ : ∃ L, Hid (usesV op a b = L) := ⟨_, rfl⟩
  rw [HM.out, HH.out, HL.out]
  go_enter Tryd.func33, Tryd.ntmps33
  go_wp2_with fail
  refine (HD.out _).mono ?_
  rintro e w1 ⟨rfl, b1⟩
  have B1 : Hid (Below w.heap.size w w1) := b1
  clear b1
  rw [HM.out]
  cases mk with
  | false =>
    go_wp2_with fail
    refine (HU.out _).mono ?_
    rw [HL.out]
    rintro e w2 ⟨u, k, rfl, _, hr, b2⟩
    have B2 : Hid (Below w.heap.size w w2) := Bel.after B1.out b2
    obtain ⟨ua, uc, hua⟩ := intsAt_form hr.at
    have HI : Hid (IntsAt w2 u L) := hr.at
    subst hua
    clear hr b2
    go_wp2_with fail
    refine (allHomes_any _ _ _ L _ HI.out).mono ?_
    rintro e w3 ⟨r, rfl, hri, hw3⟩
    subst hw3
    have HR : Hid (r = L.all homeB) := by show _ = _; rw [Bool.eq_iff_iff, all_homes]; exact hri
    clear hri
    go_wp2
    go_ret
    exact ⟨by rw [← HR.out]; rfl, B2.out⟩
  | true =>
    have e1 : madeV op d = d := by unfold madeV; rw [HM.out]; rfl
    rw [e1]
    clear e1
    go_wp2_with fail
    refine (homeOk_any d _).mono ?_
    rw [HH.out]
    rintro e w2 ⟨rfl, hw2⟩
    subst hw2
    cases hd with
    | false =>
      go_wp2
      go_ret
      exact ⟨rfl, B1.out⟩
    | true =>
      go_wp2_with fail
      refine (HU.out _).mono ?_
      rw [HL.out]
      rintro e w3 ⟨u, k, rfl, _, hr, b2⟩
      have B2 : Hid (Below w.heap.size w w3) := Bel.after B1.out b2
      obtain ⟨ua, uc, hua⟩ := intsAt_form hr.at
      have HI : Hid (IntsAt w3 u L) := hr.at
      subst hua
      clear hr b2
      go_wp2_with fail
      refine (allHomes_any _ _ _ L _ HI.out).mono ?_
      rintro e w4 ⟨r, rfl, hri, hw4⟩
      subst hw4
      have HR : Hid (r = L.all homeB) := by show _ = _; rw [Bool.eq_iff_iff, all_homes]; exact hri
      clear hri
      go_wp2
      go_ret
      exact ⟨by rw [← HR.out]; rfl, B2.out⟩

/-- A new emitter. -/
theorem newEmitter_any (w : World) :
    Calls Tryd.prog 31 #[] w fun e w' => ∃ E v, e = .returned (.pointer (some ⟨E, 0, none⟩)) ∧ EmIs w.heap.size w' E v [] ∧ Below w.heap.size w w' := by
  go_enter Tryd.func31, Tryd.ntmps31
  go_wp2
  go_ret
  refine ⟨w.heap.size + 1, .slice (some ⟨w.heap.size, 0, none⟩) 0 0, rfl, ⟨?_, ?_, by omega⟩, by repeat (first | exact Below.refl _ _ | apply Below.drew | refine Below.alloc ?_ (by simp <;> omega) _ | refine Below.setCell ?_ (by simp <;> omega) _)⟩
  · have h := World.alloc_heap_new (w.alloc (.cells #[] 32)) (.cells #[.slice (some ⟨w.heap.size, 0, none⟩) 0 0, .func (.func 56) #[] #[]] 59)
    rw [World.size_alloc] at h
    exact h
  · refine ownSteps_new ?_ (Nat.le_refl _)
    rw [Below.heap_alloc _ _ _ (by simp)]
    exact World.alloc_heap_new w _

/-- Each kind of place. -/
theorem place_any (lo E : Nat) (v : Value) (l : List InsD) (op d a b n : Int) (w : World) (he : EmIs lo w E v l) (hlo : lo ≤ w.heap.size) (hn : l.length ≤ 800000) (hh : homesX ⟨op, d, a, b, n⟩ = true) (hnn : makesV op = true ∨ op = 22 ∨ op = 23) :
    Calls Tryd.prog 34 #[.pointer (some ⟨E, 0, none⟩), placeV op d a b n] w fun e w' => GivesEm lo E w v (fun _ => True) (l ++ stepsX ⟨op, d, a, b, n⟩) e w' := by
  have hu := hX_u hh
  by_cases e0 : op = 20
  · subst e0
    exact em_const lo E v l d n w he hlo hn (hX_d hh rfl)
  by_cases e1 : op = 21
  · subst e1
    exact em_load lo E v l d a w he hlo hn (hX_d hh rfl) (hu a (by simp [usesV]))
  by_cases e2 : op = 22
  · subst e2
    exact em_store lo E v l a b w he hlo hn (hu a (by simp [usesV])) (hu b (by simp [usesV]))
  by_cases e3 : op = 23
  · subst e3
    exact em_out lo E v l a w he hlo hn (hu a (by simp [usesV]))
  by_cases e4 : op = 24
  · subst e4
    exact em_read lo E v l d w he hlo hn (hX_d hh rfl)
  by_cases e5 : op = 25
  · subst e5
    exact em_copy lo E v l d a w he hlo hn (hX_d hh rfl) (hu a (by simp [usesV]))
  have ew : 1 ≤ op ∧ op ≤ 10 := by
    rcases hnn with h | h | h
    · simp [makesV] at h; omega
    · exact absurd h e2
    · exact absurd h e3
  have ep : placeV op d a b n = .iface 97 (.agg #[.int .i64 op, .int .i64 d, .int .i64 a, .int .i64 b]) := by simp [placeV, e0, e1, e2, e3, e4, e5, ew.1, ew.2]
  have es : stepsX ⟨op, d, a, b, n⟩ = takeL a 4 ++ (takeL b 5 ++ giveL d (11 + op) (takeR a 4) (takeR b 5) 0) := by simp [stepsX, e0, e1, e2, e3, e4, e5, ew.1, ew.2]
  rw [ep, es]
  rw [usesV_word ew.1 ew.2] at hu
  exact em_word lo E v l op d a b w he hlo hn (hX_d hh (makesV_word ew.1 ew.2)) (hu a (by simp)) (hu b (by simp)) ew

set_option maxRecDepth 100000 in
set_option maxHeartbeats 2000000 in
theorem impl_emitIns (op d a b n : Int) (w : World) :
    Calls Tryd.prog 9 #[.agg #[.int .i64 op, .int .i64 d, .int .i64 a, .int .i64 b, .int .i64 n]] w fun e w' => GivesSteps w (emitX ⟨op, d, a, b, n⟩) e w' := by
  obtain ⟨w0, hw0⟩ : ∃ W, w.alloc (.cells #[.int .i64 op, .int .i64 d, .int .i64 a, .int .i64 b, .int .i64 n] 25) = W := ⟨_, rfl⟩
  have HB0 : Hid (Below w.heap.size w w0) := by show Below _ _ _; rw [← hw0]; exact Bel.alloc _ _
  have HX0 : Hid (w0.heap[w.heap.size]? = some (.cells #[.int .i64 op, .int .i64 d, .int .i64 a, .int .i64 b, .int .i64 n] 25 (0, 0))) := by show _ = _; rw [← hw0]; exact World.alloc_heap_new _ _
  obtain ⟨P, HP⟩ : ∃ P, Hid (placeV op d a b n = P) := ⟨_, rfl⟩
  obtain ⟨L, HL⟩ : ∃ L, Hid (emitX ⟨op, d, a, b, n⟩ = L) := ⟨_, rfl⟩
  rw [HL.out]
  go_enter Tryd.func9, Tryd.ntmps9
  go_wp2_with fail
  try rw [hw0]
  clear hw0
  refine (newEmitter_any _).mono ?_
  rintro e w1 ⟨E, v1, rfl, he1, b1⟩
  have HE1 : Hid (EmIs w.heap.size w1 E v1 []) := ⟨he1.box, he1.own.low HB0.out.size, Nat.le_trans HB0.out.size he1.lo⟩
  have HB1 : Hid (Below w.heap.size w w1) := Bel.after HB0.out b1
  have hX1 := (b1.block _ (Array.getElem?_eq_some_iff.1 HX0.out).1).trans HX0.out
  have c0 : w1.cell? ⟨w.heap.size, 0, none⟩ = some (.int .i64 op) := by simp [World.cell?, hX1]
  have c1 : w1.cell? ⟨w.heap.size, 1, none⟩ = some (.int .i64 d) := by simp [World.cell?, hX1]
  have c2 : w1.cell? ⟨w.heap.size, 2, none⟩ = some (.int .i64 a) := by simp [World.cell?, hX1]
  have c3 : w1.cell? ⟨w.heap.size, 3, none⟩ = some (.int .i64 b) := by simp [World.cell?, hX1]
  have c4 : w1.cell? ⟨w.heap.size, 4, none⟩ = some (.int .i64 n) := by simp [World.cell?, hX1]
  clear he1 b1 hX1
  go_wp2_with fail
  refine (placeOf_any op d a b n _).mono ?_
  rw [HP.out]
  rintro e w2 ⟨rfl, b2⟩
  have HE2 : Hid (EmIs w.heap.size w2 E v1 []) := HE1.out.grow b2
  have HB2 : Hid (Below w.heap.size w w2) := Bel.after HB1.out b2
  clear b2 c0 c1 c2 c3 c4
  by_cases hk : makesV op = true ∨ op = 22 ∨ op = 23
  · obtain ⟨t, pv, hpv⟩ : ∃ t pv, P = .iface t pv := by
      rw [← HP.out]
      unfold placeV
      repeat' split
      all_goals first | exact ⟨_, _, rfl⟩ | skip
      exfalso
      simp [makesV] at hk
      omega
    have HPV : Hid (placeV op d a b n = .iface t pv) := HP.out.trans hpv
    subst hpv
    obtain ⟨hh, HH⟩ : ∃ h, Hid (homesX ⟨op, d, a, b, n⟩ = h) := ⟨_, rfl⟩
    have HPA : Hid (∀ w, Calls Tryd.prog 33 #[.iface t pv] w fun e w' => e = .returned (.bool hh) ∧ Below w.heap.size w w') := fun w => by have h9 := placeAtHome_any op d a b n w; rw [HPV.out, HH.out] at h9; exact h9
    go_wp2_with fail
    refine (HPA.out _).mono ?_
    rintro e w3 ⟨rfl, b3⟩
    have HE3 : Hid (EmIs w.heap.size w3 E v1 []) := HE2.out.grow b3
    have HB3 : Hid (Below w.heap.size w w3) := Bel.after HB2.out b3
    clear b3
    cases hh with
    | false =>
      have hL : ([] : List InsD) = L := by rw [← HL.out]; unfold emitX; rw [HH.out]; rfl
      obtain ⟨c0, c1, f0, hE⟩ := HE3.out.cells
      go_wp2
      go_ret
      exact ⟨_, rfl, by rw [← hL]; exact HE3.out.own, HB3.out⟩
    | true =>
      have hL : stepsX ⟨op, d, a, b, n⟩ = L := by rw [← HL.out]; unfold emitX; rw [HH.out]; rfl
      have HPL : Hid (∀ w4, EmIs w.heap.size w4 E v1 [] → w.heap.size ≤ w4.heap.size → Calls Tryd.prog 34 #[.pointer (some ⟨E, 0, none⟩), .iface t pv] w4 fun e w' => GivesEm w.heap.size E w4 v1 (fun _ => True) L e w') := fun w4 h4 h5 => by
        have h9 := place_any w.heap.size E v1 [] op d a b n w4 h4 h5 (by simp) HH.out hk
        rw [HPV.out, hL, List.nil_append] at h9
        exact h9
      clear hL
      go_wp2_with fail
      refine (HPL.out _ HE3.out HB3.out.size).mono ?_
      rintro e w5 ⟨x, v5, rfl, _, h1, h2⟩
      have HE5 : Hid (EmIs w.heap.size w5 E v5 L) := h1
      have HB5 : Hid (Below w.heap.size w w5) := HB3.out.trans h2.bel
      obtain ⟨c0, c1, f0, hE⟩ := h1.cells
      clear h1 h2
      go_wp2
      go_ret
      exact ⟨_, rfl, HE5.out.own, HB5.out⟩
  · have hpn : P = .nilIface := by
      rw [← HP.out]
      unfold placeV
      have hk2 : ¬ op = 20 ∧ ¬ op = 21 ∧ ¬ op = 22 ∧ ¬ op = 23 ∧ ¬ op = 24 ∧ ¬ op = 25 ∧ ¬ (1 ≤ op ∧ op ≤ 10) := by simp [makesV] at hk; omega
      obtain ⟨k0, k1, k2, k3, k4, k5, k6⟩ := hk2
      rw [if_neg k0, if_neg k1, if_neg k2, if_neg k3, if_neg k4, if_neg k5, if_neg k6]
    subst hpn
    have hL : ([] : List InsD) = L := by
      rw [← HL.out]
      unfold emitX stepsX
      have hk2 : ¬ op = 20 ∧ ¬ op = 21 ∧ ¬ op = 22 ∧ ¬ op = 23 ∧ ¬ op = 24 ∧ ¬ op = 25 ∧ ¬ (1 ≤ op ∧ op ≤ 10) := by simp [makesV] at hk; omega
      obtain ⟨k0, k1, k2, k3, k4, k5, k6⟩ := hk2
      dsimp only
      rw [if_neg k0, if_neg k1, if_neg k2, if_neg k3, if_neg k4, if_neg k5, if_neg k6]
      split <;> rfl
    obtain ⟨c0, c1, f0, hE⟩ := HE2.out.cells
    clear hk
    go_wp2
    go_ret
    exact ⟨_, rfl, by rw [← hL]; exact HE2.out.own, HB2.out⟩
end Go.Proofs.YtgnngibbojjebaaDoor
