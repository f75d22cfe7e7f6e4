/- The model's reader: a block. -/
import Derived.Test.YthdioeeanodjiaaDoorKUc
namespace Go.Proofs.YthdioeeanodjiaaDoor
open Go.ChangeShapes Go.WideShapes Go.ChangeAt Go.RowKit
set_option linter.unusedVariables false
set_option linter.unusedSimpArgs false

/-- A block was read by the model. -/
def GivesSb (w : World) (X : Nat) (v : Value) (l : List UInt8) (p : Nat) (ok : Bool) (e : Ending) (w' : World) : Prop :=
  ∃ (x : BlockD) (pv lv : Value) (p' : Nat) (ok' : Bool), e = .returned (.agg #[pv, lv, .int .i64 x.term.k, .int .i64 x.term.a, .int .i64 x.term.t, .int .i64 x.term.e]) ∧ CurS w' X v l p' ok' ∧ FrB X w w' ∧ (∀ w2, w'.heap.size ≤ w2.heap.size → (∀ b, b < w'.heap.size → w.heap.size ≤ b → w2.heap[b]? = w'.heap[b]?) → GBlk w2 (blockC pv lv x.term) x) ∧ (∀ y0 ys, ok = true → On l p (blockN y0 ++ ys) → x = y0 ∧ ok' = true ∧ On l p' ys) ∧ p ≤ p' ∧ (ok' = true → ok = true ∧ p < p')
/-- How far the loop is: each round reads, or ends. -/
def Far (k p : Nat) (ok : Bool) : Prop := k ≤ p ∨ (ok = false ∧ k ≤ p + 1)
theorem Far.step {k p p' : Nat} {ok' : Bool} (h : Far k p true) (h1 : p ≤ p') (h2 : ok' = true → p < p') : Far (k + 1) p' ok' := by
  have hk : k ≤ p := by
    rcases h with h | ⟨h, _⟩
    · exact h
    · cases h
  cases ok' with
  | true => have := h2 rfl; exact .inl (by omega)
  | false => exact .inr ⟨rfl, by omega⟩
theorem Far.le {k p m : Nat} {ok : Bool} (h : Far k p ok) (hp : p ≤ m) : k ≤ m + 1 := by
  rcases h with h | ⟨_, h⟩ <;> omega
theorem frB_alloc {X : Nat} {w w' : World} (h : FrB X w w') (o : Obj) : FrB X w (w'.alloc o) := h.trans (FrB.ofBelow (Bel.alloc _ _))

theorem frB_grown {X : Nat} {w w' w2 : World} {ob : Option Nat} (h : FrB X w w') (hg : w'.grownBy w2 ob) (ho : ∀ j, ob = some j → w.heap.size ≤ j) : FrB X w w2 :=
  ⟨hg.os.trans h.os, hg.tape.trans h.tape, hg.output.trans h.output, Nat.le_trans h.size hg.size, fun b hb hX => (hg.block b (Nat.lt_of_lt_of_le hb h.size) (fun e => by have := ho b e.symm; omega)).trans (h.block b hb hX)⟩
theorem cells_newS (w : World) (l : List Value) (T : TypeId) : ∀ j u, l[j]? = some u → (w.alloc (.cells l.toArray T)).cell? ((⟨w.heap.size, 0, none⟩ : Addr).add j) = some u := fun j u hu => by
  rw [Addr.add_mid, Nat.zero_add, World.cell?_alloc_new]
  simpa using hu

set_option maxRecDepth 100000 in
set_option maxHeartbeats 16000000 in
theorem sblock_any {w : World} {X : Nat} {v : Value} {l : List UInt8} {p : Nat} {ok : Bool} (h : CurS w X v l p ok) :
    Calls Tryd.prog 36 #[.pointer (some ⟨X, 0, none⟩)] w fun e w' => GivesSb w X v l p ok e w' := by
  have HC : Hid (CurS w X v l p ok) := h
  have HXw : Hid (X < w.heap.size) := h.lt
  clear h
  go_enter Tryd.func36, Tryd.ntmps36
  go_wp2_with fail
  have HCB : Hid (CurS ((w.alloc (.cells #[.slice none 0 0, .slice none 0 0, .int .i64 0, .int .i64 0, .int .i64 0, .int .i64 0] 46)).alloc (.cells #[.slice none 0 0, .slice none 0 0, .int .i64 0, .int .i64 0, .int .i64 0, .int .i64 0] 46)) X v l p ok) := HC.out.below (Bel.after (Bel.alloc _ _) (Bel.alloc _ _))
  have HFB : Hid (FrB X w ((w.alloc (.cells #[.slice none 0 0, .slice none 0 0, .int .i64 0, .int .i64 0, .int .i64 0, .int .i64 0] 46)).alloc (.cells #[.slice none 0 0, .slice none 0 0, .int .i64 0, .int .i64 0, .int .i64 0, .int .i64 0] 46))) := frB_alloc (FrB.ofBelow (Bel.alloc _ _)) _
  have HRB : Hid (((w.alloc (.cells #[.slice none 0 0, .slice none 0 0, .int .i64 0, .int .i64 0, .int .i64 0, .int .i64 0] 46)).alloc (.cells #[.slice none 0 0, .slice none 0 0, .int .i64 0, .int .i64 0, .int .i64 0, .int .i64 0] 46)).heap[w.heap.size]? = some (.cells #[.slice none 0 0, .slice none 0 0, .int .i64 0, .int .i64 0, .int .i64 0, .int .i64 0] 46 (0, 0))) := by
    show _ = _
    rw [Below.heap_alloc _ _ _ (by simp)]
    exact World.alloc_heap_new w _
  have HBB : Hid (((w.alloc (.cells #[.slice none 0 0, .slice none 0 0, .int .i64 0, .int .i64 0, .int .i64 0, .int .i64 0] 46)).alloc (.cells #[.slice none 0 0, .slice none 0 0, .int .i64 0, .int .i64 0, .int .i64 0, .int .i64 0] 46)).heap[w.heap.size + 1]? = some (.cells #[.slice none 0 0, .slice none 0 0, .int .i64 0, .int .i64 0, .int .i64 0, .int .i64 0] 46 (0, 0))) := by
    have h := World.alloc_heap_new (w.alloc (.cells #[.slice none 0 0, .slice none 0 0, .int .i64 0, .int .i64 0, .int .i64 0, .int .i64 0] 46)) (.cells #[.slice none 0 0, .slice none 0 0, .int .i64 0, .int .i64 0, .int .i64 0, .int .i64 0] 46)
    rw [World.size_alloc] at h
    exact h
  generalize (w.alloc (.cells #[.slice none 0 0, .slice none 0 0, .int .i64 0, .int .i64 0, .int .i64 0, .int .i64 0] 46)).alloc (.cells #[.slice none 0 0, .slice none 0 0, .int .i64 0, .int .i64 0, .int .i64 0, .int .i64 0] 46) = wB at HCB HFB HRB HBB ⊢
  obtain ⟨R, HRR⟩ : ∃ R, Hid (w.heap.size = R) := ⟨_, rfl⟩
  rw [HRR.out] at HRB HBB HXw ⊢
  obtain ⟨B, HBD⟩ : ∃ B, Hid (R + 1 = B) := ⟨_, rfl⟩
  rw [HBD.out] at HBB ⊢
  have HNE : Hid (R ≠ X ∧ B ≠ X ∧ R ≠ B) := ⟨by have := HXw.out; omega, by have := HXw.out; have := HBD.out; omega, by have := HBD.out; omega⟩
  refine (snum_any HCB.out).mono ?_
  rintro e w1 ⟨n, p1, ok1, rfl, hC, hF, hS, hO, hpp, hkk⟩
  have HC1 : Hid (CurS w1 X v l p1 ok1) := hC
  have HF1 : Hid (FrB X w w1) := HFB.out.trans hF
  have HO1 : Hid (∀ y ys, ok = true → On l p (y :: ys) → n = y ∧ ok1 = true ∧ On l p1 ys) := hO
  have HP1 : Hid (p ≤ p1 ∧ (ok1 = true → ok = true ∧ p < p1)) := ⟨hpp, hkk⟩
  have HR1 : Hid (w1.heap[R]? = some (.cells #[.slice none 0 0, .slice none 0 0, .int .i64 0, .int .i64 0, .int .i64 0, .int .i64 0] 46 (0, 0))) := hF.at HRB.out rfl HNE.out.1
  have HB1 : Hid (w1.heap[B]? = some (.cells #[.slice none 0 0, .slice none 0 0, .int .i64 0, .int .i64 0, .int .i64 0, .int .i64 0] 46 (0, 0))) := hF.at HBB.out rfl HNE.out.2.1
  clear hC hF hS hO hpp hkk HCB HFB HRB HBB
  go_wp2_with fail
  go_loopw [5] (fun iv wr => ∃ (cur : List PhiD) (pv : Value) (q : Nat) (ok' : Bool), iv = .int .i64 (cur.length : Int) ∧ CurS wr X v l q ok' ∧ FrB X w wr ∧ wr.heap[B]? = some (.cells #[pv, .slice none 0 0, .int .i64 0, .int .i64 0, .int .i64 0, .int .i64 0] 46 (0, 0)) ∧ wr.heap[R]? = some (.cells #[.slice none 0 0, .slice none 0 0, .int .i64 0, .int .i64 0, .int .i64 0, .int .i64 0] 46 (0, 0)) ∧ RowK 61 2 GPhi wr R (fun b => b = B ∨ b = R) pv cur ∧ Far cur.length q ok' ∧ SoFarS phiN l p ok q ok' n cur ∧ p ≤ q ∧ (ok' = true → ok = true ∧ p < q)) (fun iv _ => l.length + 2 - (intOf iv).toNat)
  case atStart => exact ⟨[], _, p1, ok1, rfl, HC1.out, HF1.out, HB1.out, HR1.out, RowK.empty _ _ _, .inl (Nat.zero_le _), SoFarS.zero HO1.out, HP1.out⟩
  case round =>
    obtain ⟨wq, hwq⟩ : ∃ x, x = wr := ⟨_, rfl⟩
    subst hwq
    obtain ⟨cur, pv, q, ok', rfl, hC, hF, hB, hR, hV, hfar, hS, hpq⟩ := hrel
    have HCq : Hid (CurS wq X v l q ok') := hC
    have HFq : Hid (FrB X w wq) := hF
    have HBq : Hid (wq.heap[B]? = some (.cells #[pv, .slice none 0 0, .int .i64 0, .int .i64 0, .int .i64 0, .int .i64 0] 46 (0, 0))) := hB
    have HRq : Hid (wq.heap[R]? = some (.cells #[.slice none 0 0, .slice none 0 0, .int .i64 0, .int .i64 0, .int .i64 0, .int .i64 0] 46 (0, 0))) := hR
    have HVq : Hid (RowK 61 2 GPhi wq R (fun b => b = B ∨ b = R) pv cur) := hV
    have HFar : Hid (Far cur.length q ok') := hfar
    have HSq : Hid (SoFarS phiN l p ok q ok' n cur) := hS
    have HPq : Hid (p ≤ q ∧ (ok' = true → ok = true ∧ p < q)) := hpq
    have x2 : wq.cell? ⟨X, 2, none⟩ = some (.bool ok') := by simp [World.cell?, hC.cx]
    clear hC hF hB hR hV hfar hS hpq
    obtain ⟨k, HK⟩ : ∃ k, Hid (cur.length = k) := ⟨_, rfl⟩
    rw [HK.out] at HFar ⊢
    have hkb : (k : Int) ≤ 1048577 := by have := HFar.out.le HCq.out.hp; have := HCq.out.hl; omega
    by_cases hlt : (k : Int) < n
    · cases ok' with
      | true =>
        go_wp2_with fail
        refine (snum_any HCq.out).mono ?_
        rintro e w2 ⟨d, p2, ok2, rfl, hC, hF, hS, hO, hpp, hkk⟩
        have HC2 : Hid (CurS (w2.alloc (.cells #[.int .i64 d, .slice none 0 0] 61)) X v l p2 ok2) := hC.below (Bel.alloc _ _)
        have HF2 : Hid (FrB X wq (w2.alloc (.cells #[.int .i64 d, .slice none 0 0] 61))) := frB_alloc hF _
        have HO2 : Hid (∀ y ys, true = true → On l q (y :: ys) → d = y ∧ ok2 = true ∧ On l p2 ys) := hO
        have HP2 : Hid (q ≤ p2 ∧ (ok2 = true → true = true ∧ q < p2)) := ⟨hpp, hkk⟩
        have HPP : Hid ((w2.alloc (.cells #[.int .i64 d, .slice none 0 0] 61)).heap[w2.heap.size]? = some (.cells #[.int .i64 d, .slice none 0 0] 61 (0, 0))) := World.alloc_heap_new _ _
        have HSP : Hid (w2.heap.size = wq.heap.size ∧ (w2.alloc (.cells #[.int .i64 d, .slice none 0 0] 61)).heap.size = wq.heap.size + 1) := ⟨hS, by simp [hS]⟩
        clear hC hF hS hO hpp hkk x2
        go_wp2_with fail
        generalize w2.alloc (.cells #[.int .i64 d, .slice none 0 0] 61) = wP at HC2 HF2 HPP HSP ⊢
        obtain ⟨P, HPD⟩ : ∃ P, Hid (w2.heap.size = P) := ⟨_, rfl⟩
        rw [HPD.out] at HPP HSP ⊢
        have HPX : Hid (P ≠ X) := by have := HCq.out.lt; have := HSP.out.1; show _ ≠ _; omega
        refine (snum_any HC2.out).mono ?_
        rintro e w3 ⟨m, p3, ok3, rfl, hC, hF, hS, hO, hpp, hkk⟩
        have HC3 : Hid (CurS w3 X v l p3 ok3) := hC
        have HF3 : Hid (FrB X wq w3) := HF2.out.trans hF
        have HO3 : Hid (∀ y ys, ok2 = true → On l p2 (y :: ys) → m = y ∧ ok3 = true ∧ On l p3 ys) := hO
        have HP3 : Hid (p2 ≤ p3 ∧ (ok3 = true → ok2 = true ∧ p2 < p3)) := ⟨hpp, hkk⟩
        have HPP3 : Hid (w3.heap[P]? = some (.cells #[.int .i64 d, .slice none 0 0] 61 (0, 0))) := hF.at HPP.out rfl HPX.out
        have HS3 : Hid (w3.heap.size = wq.heap.size + 1) := hS.trans HSP.out.2
        clear hC hF hS hO hpp hkk HPP
        go_wp2_with fail
        go_loopw [8] (fun iv ws => ∃ (ca : List ArmD) (av : Value) (q2 : Nat) (ok4 : Bool), iv = .int .i64 (ca.length : Int) ∧ CurS ws X v l q2 ok4 ∧ FrB X wq ws ∧ w3.heap.size ≤ ws.heap.size ∧ ws.heap[P]? = some (.cells #[.int .i64 d, av] 61 (0, 0)) ∧ RowK 63 2 GArm ws w3.heap.size (fun _ => False) av ca ∧ Far ca.length q2 ok4 ∧ SoFarS armN1 l p2 ok2 q2 ok4 m ca ∧ p3 ≤ q2 ∧ (ok4 = true → ok3 = true)) (fun iv _ => l.length + 2 - (intOf iv).toNat)
        case atStart => exact ⟨[], _, p3, ok3, rfl, HC3.out, HF3.out, Nat.le_refl _, HPP3.out, RowK.empty _ _ _, .inl (Nat.zero_le _), SoFarS.zero HO3.out, Nat.le_refl _, fun h => h⟩
        case round =>
          obtain ⟨wa, hwa⟩ : ∃ x, x = wr := ⟨_, rfl⟩
          subst hwa
          obtain ⟨ca, av, q2, ok4, rfl, hC, hF, hsz, hP, hV, hfar, hS, hpq, hok⟩ := hrel
          have HCa : Hid (CurS wa X v l q2 ok4) := hC
          have HFa : Hid (FrB X wq wa) := hF
          have HZa : Hid (w3.heap.size ≤ wa.heap.size) := hsz
          have HPa : Hid (wa.heap[P]? = some (.cells #[.int .i64 d, av] 61 (0, 0))) := hP
          have HVa : Hid (RowK 63 2 GArm wa w3.heap.size (fun _ => False) av ca) := hV
          have HFra : Hid (Far ca.length q2 ok4) := hfar
          have HSa : Hid (SoFarS armN1 l p2 ok2 q2 ok4 m ca) := hS
          have HQa : Hid (p3 ≤ q2 ∧ (ok4 = true → ok3 = true)) := ⟨hpq, hok⟩
          have x2 : wa.cell? ⟨X, 2, none⟩ = some (.bool ok4) := by simp [World.cell?, hC.cx]
          clear hC hF hsz hP hV hfar hS hpq hok
          obtain ⟨ja, HJ⟩ : ∃ k, Hid (ca.length = k) := ⟨_, rfl⟩
          rw [HJ.out] at HFra ⊢
          have hjb : (ja : Int) ≤ 1048577 := by have := HFra.out.le HCa.out.hp; have := HCa.out.hl; omega
          by_cases hltj : (ja : Int) < m
          · cases ok4 with
            | true =>
              go_wp2_with fail
              refine (snum_any HCa.out).mono ?_
              rintro e w4 ⟨f, p4, ok5, rfl, hC, hF, hS, hO, hpp, hkk⟩
              have HC4 : Hid (CurS (w4.alloc (.cells #[.int .i64 f, .int .i64 0] 63)) X v l p4 ok5) := hC.below (Bel.alloc _ _)
              have HF4 : Hid (FrB X wa (w4.alloc (.cells #[.int .i64 f, .int .i64 0] 63))) := frB_alloc hF _
              have HO4 : Hid (∀ y ys, true = true → On l q2 (y :: ys) → f = y ∧ ok5 = true ∧ On l p4 ys) := hO
              have HP4 : Hid (q2 ≤ p4 ∧ (ok5 = true → true = true ∧ q2 < p4)) := ⟨hpp, hkk⟩
              have HAA : Hid ((w4.alloc (.cells #[.int .i64 f, .int .i64 0] 63)).heap[w4.heap.size]? = some (.cells #[.int .i64 f, .int .i64 0] 63 (0, 0))) := World.alloc_heap_new _ _
              have HSA : Hid (w4.heap.size = wa.heap.size ∧ (w4.alloc (.cells #[.int .i64 f, .int .i64 0] 63)).heap.size = wa.heap.size + 1) := ⟨hS, by simp [hS]⟩
              clear hC hF hS hO hpp hkk x2
              go_wp2_with fail
              generalize w4.alloc (.cells #[.int .i64 f, .int .i64 0] 63) = wA at HC4 HF4 HAA HSA ⊢
              obtain ⟨A, HAD⟩ : ∃ A, Hid (w4.heap.size = A) := ⟨_, rfl⟩
              rw [HAD.out] at HAA HSA ⊢
              have HAX : Hid (A ≠ X ∧ P < A) := by
                have h1 := HCa.out.lt
                have h2 := HSA.out.1
                have h3 := (Array.getElem?_eq_some_iff.1 HPa.out).1
                exact ⟨by omega, by omega⟩
              refine (snum_any HC4.out).mono ?_
              rintro e w5 ⟨u, p5, ok6, rfl, hC, hF, hS, hO, hpp, hkk⟩
              have HC5 : Hid (CurS w5 X v l p5 ok6) := hC
              have HF5 : Hid (FrB X wa w5) := HF4.out.trans hF
              have HO5 : Hid (∀ y ys, ok5 = true → On l p4 (y :: ys) → u = y ∧ ok6 = true ∧ On l p5 ys) := hO
              have HP5 : Hid (p4 ≤ p5 ∧ (ok6 = true → ok5 = true ∧ p4 < p5)) := ⟨hpp, hkk⟩
              have hA5 : w5.heap[A]? = some (.cells #[.int .i64 f, .int .i64 0] 63 (0, 0)) := hF.at HAA.out rfl HAX.out.1
              have hP5 : w5.heap[P]? = some (.cells #[.int .i64 d, av] 61 (0, 0)) := HF5.out.at HPa.out rfl HPX.out
              have hs5 : w5.heap.size = wa.heap.size + 1 := hS.trans HSA.out.2
              clear hC hF hS hO hpp hkk
              have a0 : w5.cell? ⟨A, 0, none⟩ = some (.int .i64 f) := by simp [World.cell?, hA5]
              have a1 : w5.cell? ⟨A, 1, none⟩ = some (.int .i64 0) := by simp [World.cell?, hA5]
              have az : ∀ j, w5.frozen? ⟨A, j, none⟩ = false := fun j => by simp [World.frozen?, hA5]
              obtain ⟨w6, hw6⟩ : ∃ W, w5.setCell ⟨A, 1, none⟩ (.int .i64 u) = W := ⟨_, rfl⟩
              have hPA : P ≠ A := by have := HAX.out.2; omega
              have hP6 : w6.heap[P]? = some (.cells #[.int .i64 d, av] 61 (0, 0)) := by rw [← hw6]; exact (Below.heap_setCell _ _ _ P hPA).trans hP5
              have hA6 : w6.heap[A]? = some (.cells #[.int .i64 f, .int .i64 u] 63 (0, 0)) := by rw [← hw6]; simp [World.setCell, Array.getElem?_modify, hA5]
              have hs6 : w6.heap.size = wa.heap.size + 1 := by rw [← hw6]; simpa using hs5
              have HX6 : Hid (w6.heap[X]? = w5.heap[X]?) := by rw [← hw6]; exact Below.heap_setCell _ _ _ X (fun e => HAX.out.1 e.symm)
              have HF6 : Hid (FrB X wa w6) := by rw [← hw6]; exact frB_setCells X A [.int .i64 u] 1 w5 wa HF5.out (by have := HSA.out.1; omega)
              have e0 : w6.cell? ⟨A, 0, none⟩ = some (.int .i64 f) := by simp [World.cell?, hA6]
              have e1 : w6.cell? ⟨A, 1, none⟩ = some (.int .i64 u) := by simp [World.cell?, hA6]
              have f1 : w6.cell? ⟨P, 1, none⟩ = some av := by simp [World.cell?, hP6]
              have hwA : Below w6.heap.size w6 (w6.alloc (.cells #[.int .i64 f, .int .i64 u] 63)) := Bel.alloc _ _
              have hw3a := HZa.out
              have hXw3 : X < w3.heap.size := HC3.out.lt
              have hVA := HVa.out.keep (w' := w6.alloc (.cells #[.int .i64 f, .int .i64 u] 63)) (fun b h0 h1 _ => (hwA.block b (by omega)).trans (HF6.out.block b h1 (by omega))) (by have := hwA.size; omega)
              have hca : ca.length ≤ l.length + 1 := by rw [HJ.out]; exact HFra.out.le HCa.out.hp
              have hl9 := HCa.out.hl
              obtain ⟨av', w7, hrun, hV7, hg7⟩ := hVA.push (t := 59) (z := .agg #[.int .i64 0, .int .i64 0]) (bytes := 16) Tryd.underlying59 (by kernel_rfl) rfl (by decide) (by decide) (by omega) (by have := hwA.size; omega) (fun b hb => hb.elim) ⟨w6.heap.size, 0, none⟩ [.int .i64 f, .int .i64 u] rfl (fun j u hu => cells_newS _ _ _ j u hu) (by
                intro u hu
                simp at hu
                rcases hu with rfl | rfl <;> rfl) ⟨f, u⟩ (fun _ _ => rfl)
              obtain ⟨pa7, pc7, hav7⟩ := hV7.form
              rw [List.length_append, List.length_singleton, HJ.out] at hav7
              subst hav7
              have HV7 : Hid (RowK 63 2 GArm w7 w3.heap.size (fun _ => False) (.slice pa7 (ja + 1) pc7) (ca ++ [⟨f, u⟩])) := hV7
              have HG7 : Hid ((w6.alloc (.cells #[.int .i64 f, .int .i64 u] 63)).grownBy w7 av.ownBlock) := hg7
              have hPs : P < w3.heap.size := (Array.getElem?_eq_some_iff.1 HPP3.out).1
              have HP7 : Hid (w7.heap[P]? = some (.cells #[.int .i64 d, av] 61 (0, 0))) := (hg7.block P (by have := hwA.size; omega) (fun e => by have := (HVa.out.lt P e.symm).1; omega)).trans ((hwA.block P (by omega)).trans hP6)
              have g1 : w7.cell? ⟨P, 1, none⟩ = some av := by simp [World.cell?, HP7.out]
              have gz : ∀ j, w7.frozen? ⟨P, j, none⟩ = false := fun j => by simp [World.frozen?, HP7.out]
              have HS6 : Hid (w6.heap.size = wa.heap.size + 1 ∧ w3.heap.size ≤ wa.heap.size ∧ X < w3.heap.size ∧ P < w3.heap.size) := ⟨hs6, hw3a, hXw3, hPs⟩
              clear hVA hV7 hg7 hwA hca hl9 hP6 hA6 hs6 hA5 hP5 hs5 hw3a hXw3 hPs hPA
              go_wp2_with (at_builtin; refine wpList_appendR rfl _ _ 59 rfl rfl rfl hrun ?_)
              have hP8 : wq.heap.size ≤ P ∧ w3.heap.size = wq.heap.size + 1 := ⟨Nat.le_of_eq HSP.out.1.symm, HS3.out⟩
              have hF8 : FrB X wq (w7.setCell ⟨P, 1, none⟩ (.slice pa7 (ja + 1) pc7)) := frB_setCells X P [.slice pa7 (ja + 1) pc7] 1 w7 wq (frB_grown (frB_alloc (HFa.out.trans HF6.out) _) HG7.out (fun j e => by have := (HVa.out.lt j e).1; omega)) hP8.1
              have hx7 : w7.heap[X]? = w5.heap[X]? := (HG7.out.block X (Nat.lt_of_lt_of_le (by have := HS6.out; omega) (Bel.alloc _ _).size) (fun e => by have := (HVa.out.lt X e.symm).1; have := HS6.out; omega)).trans ((Below.heap_alloc _ _ _ (by have := HS6.out; omega)).trans HX6.out)
              have hC8 : CurS (w7.setCell ⟨P, 1, none⟩ (.slice pa7 (ja + 1) pc7)) X v l p5 ok6 := HCq.out.turn hF8 ((Below.heap_setCell _ _ _ X (fun e => HPX.out e.symm)).trans (hx7.trans HC5.out.cx)) HC5.out.hp
              have hqq : q2 ≤ p5 := Nat.le_trans HP4.out.1 HP5.out.1
              have hql : ok6 = true → q2 < p5 := fun h => by have h1 := HP5.out.2 h; have h2 := HP4.out.2 h1.1; have := HP5.out.1; omega
              have hkl : ja ≤ l.length := by
                rcases HFra.out with h | ⟨h, _⟩
                · exact Nat.le_trans h HCa.out.hp
                · cases h
              refine ⟨⟨ca ++ [⟨f, u⟩], .slice pa7 (ja + 1) pc7, p5, ok6, by simp [HJ.out], hC8, hF8, ?_, by simp [World.setCell, Array.getElem?_modify, HP7.out], HV7.out.keep (fun b hb0 _ _ => Below.heap_setCell _ _ _ b (fun e => by have := HS6.out.2.2.2; have e2 : b = P := e; omega)) (by simp), ?_, HSa.out.step (by rw [HJ.out]; exact hltj) (fun y0 ys _ ho => ?_), Nat.le_trans HQa.out.1 hqq, fun _ => HQa.out.2 (by simp)⟩, by simp [intOf]; omega⟩
              · have h1 := HG7.out.size
                have h2 := (Bel.alloc w6 (.cells #[.int .i64 f, .int .i64 u] 63)).size
                have h3 := HS6.out
                have h4 : (w7.setCell ⟨P, 1, none⟩ (.slice pa7 (ja + 1) pc7)).heap.size = w7.heap.size := by simp
                omega
              · rw [List.length_append, List.length_singleton, HJ.out]
                exact HFra.out.step hqq hql
              · obtain ⟨e1, e2, o1⟩ := HO4.out y0.fr (y0.v :: ys) (by simp) ho
                obtain ⟨e3, e4, o2⟩ := HO5.out y0.v ys e2 o1
                exact ⟨by rw [e1, e3], e4, o2⟩
            | false =>
              have B0 : wa.heap[B]? = some (.cells #[pv, .slice none 0 0, .int .i64 0, .int .i64 0, .int .i64 0, .int .i64 0] 46 (0, 0)) := HFa.out.at HBq.out rfl HNE.out.2.1
              have R0 : wa.heap[R]? = some (.cells #[.slice none 0 0, .slice none 0 0, .int .i64 0, .int .i64 0, .int .i64 0, .int .i64 0] 46 (0, 0)) := HFa.out.at HRq.out rfl HNE.out.1
              have HBa : Hid (wa.heap[B]? = _) := B0
              have HRa : Hid (wa.heap[R]? = _) := R0
              have hBs : B < wa.heap.size := (Array.getElem?_eq_some_iff.1 B0).1
              have hRs : R < wa.heap.size := (Array.getElem?_eq_some_iff.1 R0).1
              have b0 : wa.cell? ⟨B, 0, none⟩ = some pv := by simp [World.cell?, B0]
              have c0 : wa.cell? ⟨P, 0, none⟩ = some (.int .i64 d) := by simp [World.cell?, HPa.out]
              have c1 : wa.cell? ⟨P, 1, none⟩ = some av := by simp [World.cell?, HPa.out]
              have hwA : Below wa.heap.size wa (wa.alloc (.cells #[.int .i64 d, av] 61)) := Bel.alloc _ _
              have hkeep : ∀ b, R ≤ b → b < wq.heap.size → ¬ (b = B ∨ b = R) → (wa.alloc (.cells #[.int .i64 d, av] 61)).heap[b]? = wq.heap[b]? := fun b h0 h1 _ => (hwA.block b (Nat.lt_of_lt_of_le h1 HFa.out.size)).trans (HFa.out.block b h1 (by have := HXw.out; omega))
              have hVA := HVq.out.keep hkeep (Nat.le_trans HFa.out.size hwA.size)
              have hcur : cur.length ≤ l.length + 1 := by rw [HK.out]; exact HFar.out.le HCq.out.hp
              have hca : ca.length ≤ l.length + 1 := by rw [HJ.out]; exact HFra.out.le HCa.out.hp
              have hl9 := HCa.out.hl
              obtain ⟨pv', w5, hrun, hV5, hg5⟩ := hVA.push (t := 41) (z := .agg #[.int .i64 0, .slice none 0 0]) (bytes := 32) Tryd.underlying41 (by kernel_rfl) rfl (by decide) (by decide) (by omega) (by have := hwA.size; omega) (fun b hb => by have := hwA.size; rcases hb with e | e <;> omega) ⟨wa.heap.size, 0, none⟩ [.int .i64 d, av] rfl (fun j u hu => cells_newS _ _ _ j u hu) (by
                  intro u hu
                  obtain ⟨a9, c9, e9⟩ := HVa.out.form
                  simp at hu
                  rcases hu with rfl | rfl
                  · rfl
                  · rw [e9]; rfl) ⟨d, ca⟩ (fun w9 hk9 => ⟨av, rfl, arms_read HVa.out (show ca.length ≤ 1100000 by omega) (fun g hg => by
                  obtain ⟨g1, g2⟩ := HVa.out.lt g hg
                  have hs3 := HS3.out
                  have hBq : B < wq.heap.size := (Array.getElem?_eq_some_iff.1 HBq.out).1
                  have hRq : R < wq.heap.size := (Array.getElem?_eq_some_iff.1 HRq.out).1
                  exact (hk9.2 g (by omega) (Nat.lt_of_lt_of_le g2 hwA.size) (fun e => by rcases e with e | e <;> omega) (fun e => by have := (HVq.out.lt g e.symm).2; omega)).trans (hwA.block g g2))⟩)
              obtain ⟨pa5, pc5, hpv5⟩ := hV5.form
              rw [List.length_append, List.length_singleton, HK.out] at hpv5
              subst hpv5
              have HV5 : Hid (RowK 61 2 GPhi w5 R (fun b => b = B ∨ b = R) (.slice pa5 (k + 1) pc5) (cur ++ [⟨d, ca⟩])) := hV5
              have HG5 : Hid ((wa.alloc (.cells #[.int .i64 d, av] 61)).grownBy w5 pv.ownBlock) := hg5
              have HB5 : Hid (w5.heap[B]? = some (.cells #[pv, .slice none 0 0, .int .i64 0, .int .i64 0, .int .i64 0, .int .i64 0] 46 (0, 0))) := (hg5.block B (Nat.lt_of_lt_of_le hBs hwA.size) (fun e => by obtain ⟨_, _, h9, _⟩ := HVq.out; exact h9 B e.symm (.inl rfl))).trans ((hwA.block B hBs).trans B0)
              have HR5 : Hid (w5.heap[R]? = some (.cells #[.slice none 0 0, .slice none 0 0, .int .i64 0, .int .i64 0, .int .i64 0, .int .i64 0] 46 (0, 0))) := (hg5.block R (Nat.lt_of_lt_of_le hRs hwA.size) (fun e => by obtain ⟨_, _, h9, _⟩ := HVq.out; exact h9 R e.symm (.inr rfl))).trans ((hwA.block R hRs).trans R0)
              have g0 : w5.cell? ⟨B, 0, none⟩ = some pv := by simp [World.cell?, HB5.out]
              have gz : ∀ j, w5.frozen? ⟨B, j, none⟩ = false := fun j => by simp [World.frozen?, HB5.out]
              clear hkeep hVA hV5 hg5 B0 R0 hwA hcur hca hl9 hBs hRs
              go_wp2_with (at_builtin; refine wpList_appendR rfl _ _ 41 rfl rfl rfl hrun ?_)
              clear hrun
              have hpo : ∀ g, pv.ownBlock = some g → R ≤ g := fun g hg => (HVq.out.lt g hg).1
              have hF9 : FrB X w (w5.setCell ⟨B, 0, none⟩ (.slice pa5 (k + 1) pc5)) := frB_setCells X B [.slice pa5 (k + 1) pc5] 0 w5 w (frB_grown (frB_alloc (HFq.out.trans HFa.out) _) HG5.out (fun j e => by rw [HRR.out]; exact hpo j e)) (by have := HRR.out; have := HBD.out; omega)
              have hx5 : w5.heap[X]? = wa.heap[X]? := (HG5.out.block X (Nat.lt_of_lt_of_le HCa.out.lt (Bel.alloc _ _).size) (fun e => by have := hpo X e.symm; have := HXw.out; omega)).trans (Below.heap_alloc _ _ _ HCa.out.lt)
              have hC9 : CurS (w5.setCell ⟨B, 0, none⟩ (.slice pa5 (k + 1) pc5)) X v l q2 false := HC.out.turn hF9 ((Below.heap_setCell _ _ _ X (fun e => HNE.out.2.1 e.symm)).trans (hx5.trans HCa.out.cx)) HCa.out.hp
              have hex : false = true → ¬ (ca.length : Int) < m := fun h => by cases h
              have hqq : q ≤ q2 := Nat.le_trans HP2.out.1 (Nat.le_trans HP3.out.1 HQa.out.1)
              have hql : false = true → q < q2 := fun h => by have h1 := HP3.out.2 (HQa.out.2 h); have h2 := HP2.out.2 h1.1; have := HQa.out.1; have := HP3.out.1; omega
              have hkl : k ≤ l.length := by
                rcases HFar.out with h | ⟨h, _⟩
                · exact Nat.le_trans h HCq.out.hp
                · cases h
              refine ⟨⟨cur ++ [⟨d, ca⟩], .slice pa5 (k + 1) pc5, q2, false, by simp [HK.out], hC9, hF9, by simp [World.setCell, Array.getElem?_modify, HB5.out], (Below.heap_setCell _ _ _ R HNE.out.2.2).trans HR5.out, HV5.out.keep (fun b _ _ hb => Below.heap_setCell _ _ _ b (fun e => hb (.inl e))) (by simp), ?_, HSq.out.step (by rw [HK.out]; exact hlt) (fun y0 ys _ ho => ?_), Nat.le_trans HPq.out.1 hqq, fun h => ⟨(HPq.out.2 (by simp)).1, by have := HPq.out.1; have := hql h; omega⟩⟩, by simp [intOf]; omega⟩
              · rw [List.length_append, List.length_singleton, HK.out]
                exact HFar.out.step hqq hql
              · have ho1 : On l q (y0.d :: ((y0.arms.length : Int) :: (y0.arms.flatMap armN1 ++ ys))) := by
                  have e : phiN y0 ++ ys = y0.d :: ((y0.arms.length : Int) :: (y0.arms.flatMap armN1 ++ ys)) := by simp [phiN, armsN]; rfl
                  rw [← e]
                  exact ho
                obtain ⟨e1, e2, o1⟩ := HO2.out _ _ (by simp) ho1
                obtain ⟨e3, e4, o2⟩ := HSa.out.whole hex y0.arms ys e2 o1
                exact ⟨by rw [e1, e3], e4, o2⟩
          · skip
            have B0 : wa.heap[B]? = some (.cells #[pv, .slice none 0 0, .int .i64 0, .int .i64 0, .int .i64 0, .int .i64 0] 46 (0, 0)) := HFa.out.at HBq.out rfl HNE.out.2.1
            have R0 : wa.heap[R]? = some (.cells #[.slice none 0 0, .slice none 0 0, .int .i64 0, .int .i64 0, .int .i64 0, .int .i64 0] 46 (0, 0)) := HFa.out.at HRq.out rfl HNE.out.1
            have HBa : Hid (wa.heap[B]? = _) := B0
            have HRa : Hid (wa.heap[R]? = _) := R0
            have hBs : B < wa.heap.size := (Array.getElem?_eq_some_iff.1 B0).1
            have hRs : R < wa.heap.size := (Array.getElem?_eq_some_iff.1 R0).1
            have b0 : wa.cell? ⟨B, 0, none⟩ = some pv := by simp [World.cell?, B0]
            have c0 : wa.cell? ⟨P, 0, none⟩ = some (.int .i64 d) := by simp [World.cell?, HPa.out]
            have c1 : wa.cell? ⟨P, 1, none⟩ = some av := by simp [World.cell?, HPa.out]
            have hwA : Below wa.heap.size wa (wa.alloc (.cells #[.int .i64 d, av] 61)) := Bel.alloc _ _
            have hkeep : ∀ b, R ≤ b → b < wq.heap.size → ¬ (b = B ∨ b = R) → (wa.alloc (.cells #[.int .i64 d, av] 61)).heap[b]? = wq.heap[b]? := fun b h0 h1 _ => (hwA.block b (Nat.lt_of_lt_of_le h1 HFa.out.size)).trans (HFa.out.block b h1 (by have := HXw.out; omega))
            have hVA := HVq.out.keep hkeep (Nat.le_trans HFa.out.size hwA.size)
            have hcur : cur.length ≤ l.length + 1 := by rw [HK.out]; exact HFar.out.le HCq.out.hp
            have hca : ca.length ≤ l.length + 1 := by rw [HJ.out]; exact HFra.out.le HCa.out.hp
            have hl9 := HCa.out.hl
            obtain ⟨pv', w5, hrun, hV5, hg5⟩ := hVA.push (t := 41) (z := .agg #[.int .i64 0, .slice none 0 0]) (bytes := 32) Tryd.underlying41 (by kernel_rfl) rfl (by decide) (by decide) (by omega) (by have := hwA.size; omega) (fun b hb => by have := hwA.size; rcases hb with e | e <;> omega) ⟨wa.heap.size, 0, none⟩ [.int .i64 d, av] rfl (fun j u hu => cells_newS _ _ _ j u hu) (by
                intro u hu
                obtain ⟨a9, c9, e9⟩ := HVa.out.form
                simp at hu
                rcases hu with rfl | rfl
                · rfl
                · rw [e9]; rfl) ⟨d, ca⟩ (fun w9 hk9 => ⟨av, rfl, arms_read HVa.out (show ca.length ≤ 1100000 by omega) (fun g hg => by
                obtain ⟨g1, g2⟩ := HVa.out.lt g hg
                have hs3 := HS3.out
                have hBq : B < wq.heap.size := (Array.getElem?_eq_some_iff.1 HBq.out).1
                have hRq : R < wq.heap.size := (Array.getElem?_eq_some_iff.1 HRq.out).1
                exact (hk9.2 g (by omega) (Nat.lt_of_lt_of_le g2 hwA.size) (fun e => by rcases e with e | e <;> omega) (fun e => by have := (HVq.out.lt g e.symm).2; omega)).trans (hwA.block g g2))⟩)
            obtain ⟨pa5, pc5, hpv5⟩ := hV5.form
            rw [List.length_append, List.length_singleton, HK.out] at hpv5
            subst hpv5
            have HV5 : Hid (RowK 61 2 GPhi w5 R (fun b => b = B ∨ b = R) (.slice pa5 (k + 1) pc5) (cur ++ [⟨d, ca⟩])) := hV5
            have HG5 : Hid ((wa.alloc (.cells #[.int .i64 d, av] 61)).grownBy w5 pv.ownBlock) := hg5
            have HB5 : Hid (w5.heap[B]? = some (.cells #[pv, .slice none 0 0, .int .i64 0, .int .i64 0, .int .i64 0, .int .i64 0] 46 (0, 0))) := (hg5.block B (Nat.lt_of_lt_of_le hBs hwA.size) (fun e => by obtain ⟨_, _, h9, _⟩ := HVq.out; exact h9 B e.symm (.inl rfl))).trans ((hwA.block B hBs).trans B0)
            have HR5 : Hid (w5.heap[R]? = some (.cells #[.slice none 0 0, .slice none 0 0, .int .i64 0, .int .i64 0, .int .i64 0, .int .i64 0] 46 (0, 0))) := (hg5.block R (Nat.lt_of_lt_of_le hRs hwA.size) (fun e => by obtain ⟨_, _, h9, _⟩ := HVq.out; exact h9 R e.symm (.inr rfl))).trans ((hwA.block R hRs).trans R0)
            have g0 : w5.cell? ⟨B, 0, none⟩ = some pv := by simp [World.cell?, HB5.out]
            have gz : ∀ j, w5.frozen? ⟨B, j, none⟩ = false := fun j => by simp [World.frozen?, HB5.out]
            clear hkeep hVA hV5 hg5 B0 R0 hwA hcur hca hl9 hBs hRs
            go_wp2_with (at_builtin; refine wpList_appendR rfl _ _ 41 rfl rfl rfl hrun ?_)
            clear hrun
            have hpo : ∀ g, pv.ownBlock = some g → R ≤ g := fun g hg => (HVq.out.lt g hg).1
            have hF9 : FrB X w (w5.setCell ⟨B, 0, none⟩ (.slice pa5 (k + 1) pc5)) := frB_setCells X B [.slice pa5 (k + 1) pc5] 0 w5 w (frB_grown (frB_alloc (HFq.out.trans HFa.out) _) HG5.out (fun j e => by rw [HRR.out]; exact hpo j e)) (by have := HRR.out; have := HBD.out; omega)
            have hx5 : w5.heap[X]? = wa.heap[X]? := (HG5.out.block X (Nat.lt_of_lt_of_le HCa.out.lt (Bel.alloc _ _).size) (fun e => by have := hpo X e.symm; have := HXw.out; omega)).trans (Below.heap_alloc _ _ _ HCa.out.lt)
            have hC9 : CurS (w5.setCell ⟨B, 0, none⟩ (.slice pa5 (k + 1) pc5)) X v l q2 ok4 := HC.out.turn hF9 ((Below.heap_setCell _ _ _ X (fun e => HNE.out.2.1 e.symm)).trans (hx5.trans HCa.out.cx)) HCa.out.hp
            have hex : ok4 = true → ¬ (ca.length : Int) < m := fun _ => by rw [HJ.out]; exact hltj
            have hqq : q ≤ q2 := Nat.le_trans HP2.out.1 (Nat.le_trans HP3.out.1 HQa.out.1)
            have hql : ok4 = true → q < q2 := fun h => by have h1 := HP3.out.2 (HQa.out.2 h); have h2 := HP2.out.2 h1.1; have := HQa.out.1; have := HP3.out.1; omega
            have hkl : k ≤ l.length := by
              rcases HFar.out with h | ⟨h, _⟩
              · exact Nat.le_trans h HCq.out.hp
              · cases h
            refine ⟨⟨cur ++ [⟨d, ca⟩], .slice pa5 (k + 1) pc5, q2, ok4, by simp [HK.out], hC9, hF9, by simp [World.setCell, Array.getElem?_modify, HB5.out], (Below.heap_setCell _ _ _ R HNE.out.2.2).trans HR5.out, HV5.out.keep (fun b _ _ hb => Below.heap_setCell _ _ _ b (fun e => hb (.inl e))) (by simp), ?_, HSq.out.step (by rw [HK.out]; exact hlt) (fun y0 ys _ ho => ?_), Nat.le_trans HPq.out.1 hqq, fun h => ⟨(HPq.out.2 (by simp)).1, by have := HPq.out.1; have := hql h; omega⟩⟩, by simp [intOf]; omega⟩
            · rw [List.length_append, List.length_singleton, HK.out]
              exact HFar.out.step hqq hql
            · have ho1 : On l q (y0.d :: ((y0.arms.length : Int) :: (y0.arms.flatMap armN1 ++ ys))) := by
                have e : phiN y0 ++ ys = y0.d :: ((y0.arms.length : Int) :: (y0.arms.flatMap armN1 ++ ys)) := by simp [phiN, armsN]; rfl
                rw [← e]
                exact ho
              obtain ⟨e1, e2, o1⟩ := HO2.out _ _ (by simp) ho1
              obtain ⟨e3, e4, o2⟩ := HSa.out.whole hex y0.arms ys e2 o1
              exact ⟨by rw [e1, e3], e4, o2⟩
      | false =>
        go_wp2_with fail
        have hex : false = true → ¬ (cur.length : Int) < n := fun h => by cases h
        have HW : Hid (∀ (L : List PhiD) ys, ok = true → On l p ((L.length : Int) :: (L.flatMap phiN ++ ys)) → cur = L ∧ false = true ∧ On l q ys) := HSq.out.whole hex
        have HCL : Hid (cur.length ≤ l.length + 1) := by
          show _ ≤ _
          rw [HK.out]
          exact HFar.out.le HCq.out.hp
        clear hex x2
        refine (snum_any HCq.out).mono ?_
        rintro e w2 ⟨n2, p2, ok2, rfl, hC, hF, hS, hO, hpp, hkk⟩
        have HC2 : Hid (CurS w2 X v l p2 ok2) := hC
        have HF2 : Hid (FrB X wq w2) := hF
        have HO2 : Hid (∀ y ys, false = true → On l q (y :: ys) → n2 = y ∧ ok2 = true ∧ On l p2 ys) := hO
        have HP2 : Hid (q ≤ p2 ∧ (ok2 = true → false = true ∧ q < p2)) := ⟨hpp, hkk⟩
        have HB2 : Hid (w2.heap[B]? = some (.cells #[pv, .slice none 0 0, .int .i64 0, .int .i64 0, .int .i64 0, .int .i64 0] 46 (0, 0))) := hF.at HBq.out rfl HNE.out.2.1
        have HR2 : Hid (w2.heap[R]? = some (.cells #[.slice none 0 0, .slice none 0 0, .int .i64 0, .int .i64 0, .int .i64 0, .int .i64 0] 46 (0, 0))) := hF.at HRq.out rfl HNE.out.1
        clear hC hF hS hO hpp hkk
        go_wp2_with fail
        go_loopw [10] (fun iv ws => ∃ (ci : List InsD) (lv : Value) (q2 : Nat) (ok4 : Bool), iv = .int .i64 (ci.length : Int) ∧ CurS ws X v l q2 ok4 ∧ FrB X w ws ∧ wq.heap.size ≤ ws.heap.size ∧ (∀ b, R ≤ b → b < wq.heap.size → ¬ (b = B ∨ b = R) → ws.heap[b]? = wq.heap[b]?) ∧ ws.heap[B]? = some (.cells #[pv, lv, .int .i64 0, .int .i64 0, .int .i64 0, .int .i64 0] 46 (0, 0)) ∧ ws.heap[R]? = some (.cells #[.slice none 0 0, .slice none 0 0, .int .i64 0, .int .i64 0, .int .i64 0, .int .i64 0] 46 (0, 0)) ∧ RowK 50 5 GIns ws wq.heap.size (fun _ => False) lv ci ∧ Far ci.length q2 ok4 ∧ SoFarS insN1 l q false q2 ok4 n2 ci ∧ p2 ≤ q2 ∧ (ok4 = true → ok2 = true)) (fun iv _ => l.length + 2 - (intOf iv).toNat)
        case atStart => exact ⟨[], _, p2, ok2, rfl, HC2.out, HFq.out.trans HF2.out, HF2.out.size, fun b h0 h1 _ => HF2.out.block b h1 (by have := HXw.out; omega), HB2.out, HR2.out, RowK.empty _ _ _, .inl (Nat.zero_le _), SoFarS.zero HO2.out, Nat.le_refl _, fun h => h⟩
        case round =>
          obtain ⟨wb, hwb⟩ : ∃ x, x = wr := ⟨_, rfl⟩
          subst hwb
          obtain ⟨ci, lv, q2, ok4, rfl, hC, hF, hsz, hKp, hB, hR, hV, hfar, hS, hpq, hok⟩ := hrel
          have HCb : Hid (CurS wb X v l q2 ok4) := hC
          have HFb : Hid (FrB X w wb) := hF
          have HWb : Hid (wq.heap.size ≤ wb.heap.size) := hsz
          have HKb : Hid (∀ b, R ≤ b → b < wq.heap.size → ¬ (b = B ∨ b = R) → wb.heap[b]? = wq.heap[b]?) := hKp
          have HBb : Hid (wb.heap[B]? = some (.cells #[pv, lv, .int .i64 0, .int .i64 0, .int .i64 0, .int .i64 0] 46 (0, 0))) := hB
          have HRb : Hid (wb.heap[R]? = some (.cells #[.slice none 0 0, .slice none 0 0, .int .i64 0, .int .i64 0, .int .i64 0, .int .i64 0] 46 (0, 0))) := hR
          have HVb : Hid (RowK 50 5 GIns wb wq.heap.size (fun _ => False) lv ci) := hV
          have HFrb : Hid (Far ci.length q2 ok4) := hfar
          have HSb : Hid (SoFarS insN1 l q false q2 ok4 n2 ci) := hS
          have HQb : Hid (p2 ≤ q2 ∧ (ok4 = true → ok2 = true)) := ⟨hpq, hok⟩
          have x2 : wb.cell? ⟨X, 2, none⟩ = some (.bool ok4) := by simp [World.cell?, hC.cx]
          clear hC hF hsz hKp hB hR hV hfar hS hpq hok
          obtain ⟨ji, HJ⟩ : ∃ k, Hid (ci.length = k) := ⟨_, rfl⟩
          rw [HJ.out] at HFrb ⊢
          have hjb : (ji : Int) ≤ 1048577 := by have := HFrb.out.le HCb.out.hp; have := HCb.out.hl; omega
          by_cases hltj : (ji : Int) < n2
          · cases ok4 with
            | true =>
              go_wp2_with fail
              refine (snum_any HCb.out).mono ?_
              rintro e u1 ⟨x1, s1, o1, rfl, hC, hF, hS, hO, hpp, hkk⟩
              have HOn1 : Hid (∀ y ys, true = true → On l q2 (y :: ys) → x1 = y ∧ o1 = true ∧ On l s1 ys) := hO
              have HPn1 : Hid (q2 ≤ s1 ∧ (o1 = true → true = true ∧ q2 < s1)) := ⟨hpp, hkk⟩
              have HC1b : Hid (CurS (u1.alloc (.cells #[.int .i64 x1, .int .i64 0, .int .i64 0, .int .i64 0, .int .i64 0] 50)) X v l s1 o1) := hC.below (Bel.alloc _ _)
              have HF1b : Hid (FrB X wb (u1.alloc (.cells #[.int .i64 x1, .int .i64 0, .int .i64 0, .int .i64 0, .int .i64 0] 50))) := frB_alloc hF _
              have HI1 : Hid ((u1.alloc (.cells #[.int .i64 x1, .int .i64 0, .int .i64 0, .int .i64 0, .int .i64 0] 50)).heap[u1.heap.size]? = some (.cells #[.int .i64 x1, .int .i64 0, .int .i64 0, .int .i64 0, .int .i64 0] 50 (0, 0))) := World.alloc_heap_new _ _
              have HS1b : Hid (u1.heap.size = wb.heap.size ∧ (u1.alloc (.cells #[.int .i64 x1, .int .i64 0, .int .i64 0, .int .i64 0, .int .i64 0] 50)).heap.size = wb.heap.size + 1) := ⟨hS, by simp [hS]⟩
              clear hC hF hS hO hpp hkk x2
              go_wp2_with fail
              generalize u1.alloc (.cells #[.int .i64 x1, .int .i64 0, .int .i64 0, .int .i64 0, .int .i64 0] 50) = v1 at HC1b HF1b HI1 HS1b ⊢
              obtain ⟨J, HJD⟩ : ∃ J, Hid (u1.heap.size = J) := ⟨_, rfl⟩
              rw [HJD.out] at HI1 HS1b ⊢
              have HJX : Hid (J ≠ X ∧ J = wb.heap.size) := ⟨by have h1 := HCb.out.lt; have h2 := HS1b.out.1; omega, HS1b.out.1⟩
              refine (snum_any HC1b.out).mono ?_
              rintro e u2 ⟨x2, s2, o2, rfl, hC, hF, hS, hO, hpp, hkk⟩
              have HOn2 : Hid (∀ y ys, o1 = true → On l s1 (y :: ys) → x2 = y ∧ o2 = true ∧ On l s2 ys) := hO
              have HPn2 : Hid (s1 ≤ s2 ∧ (o2 = true → o1 = true ∧ s1 < s2)) := ⟨hpp, hkk⟩
              have hI : u2.heap[J]? = some (.cells #[.int .i64 x1, .int .i64 0, .int .i64 0, .int .i64 0, .int .i64 0] 50 (0, 0)) := hF.at HI1.out rfl HJX.out.1
              obtain ⟨v2, hv2⟩ : ∃ W, u2.setCell ⟨J, 1, none⟩ (.int .i64 x2) = W := ⟨_, rfl⟩
              have HF2b : Hid (FrB X wb v2) := by rw [← hv2]; exact frB_setCells X J [.int .i64 x2] 1 u2 wb (HF1b.out.trans hF) (Nat.le_of_eq HJX.out.2.symm)
              have HI2 : Hid (v2.heap[J]? = some (.cells #[.int .i64 x1, .int .i64 x2, .int .i64 0, .int .i64 0, .int .i64 0] 50 (0, 0))) := by
                show _ = _
                rw [← hv2]
                simp [World.setCell, Array.getElem?_modify, hI]
              have HC2b : Hid (CurS v2 X v l s2 o2) := HCb.out.turn HF2b.out (by rw [← hv2]; exact (Below.heap_setCell _ _ _ X (fun e => HJX.out.1 e.symm)).trans hC.cx) hC.hp
              have HS2b : Hid (v2.heap.size = wb.heap.size + 1) := by
                show _ = _
                rw [← hv2, World.size_setCell, hS]
                exact HS1b.out.2
              have j0 : u2.cell? ⟨J, 1, none⟩ = some (.int .i64 0) := by simp [World.cell?, hI]
              have jz : ∀ j, u2.frozen? ⟨J, j, none⟩ = false := fun j => by simp [World.frozen?, hI]
              clear hC hF hS hO hpp hkk hI
              go_wp2_with fail
              clear j0 jz hv2
              refine (snum_any HC2b.out).mono ?_
              rintro e u3 ⟨x3, s3, o3, rfl, hC, hF, hS, hO, hpp, hkk⟩
              have HOn3 : Hid (∀ y ys, o2 = true → On l s2 (y :: ys) → x3 = y ∧ o3 = true ∧ On l s3 ys) := hO
              have HPn3 : Hid (s2 ≤ s3 ∧ (o3 = true → o2 = true ∧ s2 < s3)) := ⟨hpp, hkk⟩
              have hI : u3.heap[J]? = some (.cells #[.int .i64 x1, .int .i64 x2, .int .i64 0, .int .i64 0, .int .i64 0] 50 (0, 0)) := hF.at HI2.out rfl HJX.out.1
              obtain ⟨v3, hv3⟩ : ∃ W, u3.setCell ⟨J, 2, none⟩ (.int .i64 x3) = W := ⟨_, rfl⟩
              have HF3b : Hid (FrB X wb v3) := by rw [← hv3]; exact frB_setCells X J [.int .i64 x3] 2 u3 wb (HF2b.out.trans hF) (Nat.le_of_eq HJX.out.2.symm)
              have HI3 : Hid (v3.heap[J]? = some (.cells #[.int .i64 x1, .int .i64 x2, .int .i64 x3, .int .i64 0, .int .i64 0] 50 (0, 0))) := by
                show _ = _
                rw [← hv3]
                simp [World.setCell, Array.getElem?_modify, hI]
              have HC3b : Hid (CurS v3 X v l s3 o3) := HCb.out.turn HF3b.out (by rw [← hv3]; exact (Below.heap_setCell _ _ _ X (fun e => HJX.out.1 e.symm)).trans hC.cx) hC.hp
              have HS3b : Hid (v3.heap.size = wb.heap.size + 1) := by
                show _ = _
                rw [← hv3, World.size_setCell, hS]
                exact HS2b.out
              have j0 : u3.cell? ⟨J, 2, none⟩ = some (.int .i64 0) := by simp [World.cell?, hI]
              have jz : ∀ j, u3.frozen? ⟨J, j, none⟩ = false := fun j => by simp [World.frozen?, hI]
              clear hC hF hS hO hpp hkk hI
              go_wp2_with fail
              clear j0 jz hv3
              refine (snum_any HC3b.out).mono ?_
              rintro e u4 ⟨x4, s4, o4, rfl, hC, hF, hS, hO, hpp, hkk⟩
              have HOn4 : Hid (∀ y ys, o3 = true → On l s3 (y :: ys) → x4 = y ∧ o4 = true ∧ On l s4 ys) := hO
              have HPn4 : Hid (s3 ≤ s4 ∧ (o4 = true → o3 = true ∧ s3 < s4)) := ⟨hpp, hkk⟩
              have hI : u4.heap[J]? = some (.cells #[.int .i64 x1, .int .i64 x2, .int .i64 x3, .int .i64 0, .int .i64 0] 50 (0, 0)) := hF.at HI3.out rfl HJX.out.1
              obtain ⟨v4, hv4⟩ : ∃ W, u4.setCell ⟨J, 3, none⟩ (.int .i64 x4) = W := ⟨_, rfl⟩
              have HF4b : Hid (FrB X wb v4) := by rw [← hv4]; exact frB_setCells X J [.int .i64 x4] 3 u4 wb (HF3b.out.trans hF) (Nat.le_of_eq HJX.out.2.symm)
              have HI4 : Hid (v4.heap[J]? = some (.cells #[.int .i64 x1, .int .i64 x2, .int .i64 x3, .int .i64 x4, .int .i64 0] 50 (0, 0))) := by
                show _ = _
                rw [← hv4]
                simp [World.setCell, Array.getElem?_modify, hI]
              have HC4b : Hid (CurS v4 X v l s4 o4) := HCb.out.turn HF4b.out (by rw [← hv4]; exact (Below.heap_setCell _ _ _ X (fun e => HJX.out.1 e.symm)).trans hC.cx) hC.hp
              have HS4b : Hid (v4.heap.size = wb.heap.size + 1) := by
                show _ = _
                rw [← hv4, World.size_setCell, hS]
                exact HS3b.out
              have j0 : u4.cell? ⟨J, 3, none⟩ = some (.int .i64 0) := by simp [World.cell?, hI]
              have jz : ∀ j, u4.frozen? ⟨J, j, none⟩ = false := fun j => by simp [World.frozen?, hI]
              clear hC hF hS hO hpp hkk hI
              go_wp2_with fail
              clear j0 jz hv4
              refine (snum_any HC4b.out).mono ?_
              rintro e u5 ⟨x5, s5, o5, rfl, hC, hF, hS, hO, hpp, hkk⟩
              have HOn5 : Hid (∀ y ys, o4 = true → On l s4 (y :: ys) → x5 = y ∧ o5 = true ∧ On l s5 ys) := hO
              have HPn5 : Hid (s4 ≤ s5 ∧ (o5 = true → o4 = true ∧ s4 < s5)) := ⟨hpp, hkk⟩
              have hI : u5.heap[J]? = some (.cells #[.int .i64 x1, .int .i64 x2, .int .i64 x3, .int .i64 x4, .int .i64 0] 50 (0, 0)) := hF.at HI4.out rfl HJX.out.1
              obtain ⟨v5, hv5⟩ : ∃ W, u5.setCell ⟨J, 4, none⟩ (.int .i64 x5) = W := ⟨_, rfl⟩
              have HF5b : Hid (FrB X wb v5) := by rw [← hv5]; exact frB_setCells X J [.int .i64 x5] 4 u5 wb (HF4b.out.trans hF) (Nat.le_of_eq HJX.out.2.symm)
              have HI5 : Hid (v5.heap[J]? = some (.cells #[.int .i64 x1, .int .i64 x2, .int .i64 x3, .int .i64 x4, .int .i64 x5] 50 (0, 0))) := by
                show _ = _
                rw [← hv5]
                simp [World.setCell, Array.getElem?_modify, hI]
              have HC5b : Hid (CurS v5 X v l s5 o5) := HCb.out.turn HF5b.out (by rw [← hv5]; exact (Below.heap_setCell _ _ _ X (fun e => HJX.out.1 e.symm)).trans hC.cx) hC.hp
              have HS5b : Hid (v5.heap.size = wb.heap.size + 1) := by
                show _ = _
                rw [← hv5, World.size_setCell, hS]
                exact HS4b.out
              have j0 : u5.cell? ⟨J, 4, none⟩ = some (.int .i64 0) := by simp [World.cell?, hI]
              have jz : ∀ j, u5.frozen? ⟨J, j, none⟩ = false := fun j => by simp [World.frozen?, hI]
              clear hC hF hS hO hpp hkk hI
              have hs6 := HS5b.out
              have i0 : v5.cell? ⟨J, 0, none⟩ = some (.int .i64 x1) := by simp [World.cell?, HI5.out]
              have i1 : v5.cell? ⟨J, 1, none⟩ = some (.int .i64 x2) := by simp [World.cell?, HI5.out]
              have i2 : v5.cell? ⟨J, 2, none⟩ = some (.int .i64 x3) := by simp [World.cell?, HI5.out]
              have i3 : v5.cell? ⟨J, 3, none⟩ = some (.int .i64 x4) := by simp [World.cell?, HI5.out]
              have i4 : v5.cell? ⟨J, 4, none⟩ = some (.int .i64 x5) := by simp [World.cell?, HI5.out]
              have HCy : Hid (CurS v5 X v l s5 o5) := HC5b.out
              have hB6 : v5.heap[B]? = some (.cells #[pv, lv, .int .i64 0, .int .i64 0, .int .i64 0, .int .i64 0] 46 (0, 0)) := HF5b.out.at HBb.out rfl HNE.out.2.1
              have hR6 : v5.heap[R]? = some (.cells #[.slice none 0 0, .slice none 0 0, .int .i64 0, .int .i64 0, .int .i64 0, .int .i64 0] 46 (0, 0)) := HF5b.out.at HRb.out rfl HNE.out.1
              have b1 : v5.cell? ⟨B, 1, none⟩ = some lv := by simp [World.cell?, hB6]
              have hBs : B < wq.heap.size := (Array.getElem?_eq_some_iff.1 HBq.out).1
              have hRs : R < wq.heap.size := (Array.getElem?_eq_some_iff.1 HRq.out).1
              have hws := HWb.out
              have hwA : Below v5.heap.size v5 (v5.alloc (.cells #[.int .i64 x1, .int .i64 x2, .int .i64 x3, .int .i64 x4, .int .i64 x5] 50)) := Bel.alloc _ _
              have hwAs := hwA.size
              have hVA := HVb.out.keep (w' := v5.alloc (.cells #[.int .i64 x1, .int .i64 x2, .int .i64 x3, .int .i64 x4, .int .i64 x5] 50)) (fun b h0 h1 _ => (hwA.block b (by omega)).trans (HF5b.out.block b h1 (by have := HXw.out; omega))) (by omega)
              have hci : ci.length ≤ l.length + 1 := by rw [HJ.out]; exact HFrb.out.le HCb.out.hp
              have hl9 := HCb.out.hl
              obtain ⟨lv', v7, hrun, hV7, hg7⟩ := hVA.push (t := 42) (z := .agg #[.int .i64 0, .int .i64 0, .int .i64 0, .int .i64 0, .int .i64 0]) (bytes := 40) Tryd.underlying42 (by kernel_rfl) rfl (by decide) (by decide) (by omega) (by omega) (fun b hb => hb.elim) ⟨v5.heap.size, 0, none⟩ [.int .i64 x1, .int .i64 x2, .int .i64 x3, .int .i64 x4, .int .i64 x5] rfl (fun j u hu => cells_newS _ _ _ j u hu) (by
                intro u hu
                simp at hu
                rcases hu with rfl | rfl | rfl | rfl | rfl <;> rfl) ⟨x1, x2, x3, x4, x5⟩ (fun _ _ => rfl)
              obtain ⟨pa7, pc7, hav7⟩ := hV7.form
              rw [List.length_append, List.length_singleton, HJ.out] at hav7
              subst hav7
              have HV7 : Hid (RowK 50 5 GIns v7 wq.heap.size (fun _ => False) (.slice pa7 (ji + 1) pc7) (ci ++ [⟨x1, x2, x3, x4, x5⟩])) := hV7
              have HG7 : Hid ((v5.alloc (.cells #[.int .i64 x1, .int .i64 x2, .int .i64 x3, .int .i64 x4, .int .i64 x5] 50)).grownBy v7 lv.ownBlock) := hg7
              have HB7 : Hid (v7.heap[B]? = some (.cells #[pv, lv, .int .i64 0, .int .i64 0, .int .i64 0, .int .i64 0] 46 (0, 0))) := (hg7.block B (by omega) (fun e => by have := (HVb.out.lt B e.symm).1; omega)).trans ((hwA.block B (by omega)).trans hB6)
              have HR7 : Hid (v7.heap[R]? = some (.cells #[.slice none 0 0, .slice none 0 0, .int .i64 0, .int .i64 0, .int .i64 0, .int .i64 0] 46 (0, 0))) := (hg7.block R (by omega) (fun e => by have := (HVb.out.lt R e.symm).1; omega)).trans ((hwA.block R (by omega)).trans hR6)
              have HX7 : Hid (v7.heap[X]? = v5.heap[X]?) := (hg7.block X (by have := HCy.out.lt; omega) (fun e => by have := (HVb.out.lt X e.symm).1; have := HXw.out; omega)).trans (hwA.block X HCy.out.lt)
              have g1 : v7.cell? ⟨B, 1, none⟩ = some lv := by simp [World.cell?, HB7.out]
              have gz : ∀ j, v7.frozen? ⟨B, j, none⟩ = false := fun j => by simp [World.frozen?, HB7.out]
              have HRest : Hid (B < wq.heap.size ∧ R < wq.heap.size ∧ wq.heap.size ≤ wb.heap.size ∧ wb.heap.size < v5.heap.size ∧ v5.heap.size ≤ (v5.alloc (.cells #[.int .i64 x1, .int .i64 x2, .int .i64 x3, .int .i64 x4, .int .i64 x5] 50)).heap.size ∧ (v5.alloc (.cells #[.int .i64 x1, .int .i64 x2, .int .i64 x3, .int .i64 x4, .int .i64 x5] 50)).heap.size ≤ v7.heap.size) := ⟨hBs, hRs, hws, by omega, hwAs, hg7.size⟩
              clear hVA hV7 hg7 hwA hci hl9 hB6 hR6 hs6 hws hwAs hBs hRs
              go_wp2_with (at_builtin; refine wpList_appendR rfl _ _ 42 rfl rfl rfl hrun ?_)
              have hR8 := HRest.out
              have hnl : ∀ j, lv.ownBlock = some j → wq.heap.size ≤ j := fun j e => (HVb.out.lt j e).1
              have hwq := HFq.out.size
              have hF8 : FrB X w (v7.setCell ⟨B, 1, none⟩ (.slice pa7 (ji + 1) pc7)) := frB_setCells X B [.slice pa7 (ji + 1) pc7] 1 v7 w (frB_grown (frB_alloc (HFb.out.trans HF5b.out) _) HG7.out (fun j e => by have := hnl j e; omega)) (by have := HRR.out; have := HBD.out; omega)
              have hC8 : CurS (v7.setCell ⟨B, 1, none⟩ (.slice pa7 (ji + 1) pc7)) X v l s5 o5 := HC.out.turn hF8 ((Below.heap_setCell _ _ _ X (fun e => HNE.out.2.1 e.symm)).trans (HX7.out.trans HCy.out.cx)) HCy.out.hp
              have hqq : q2 ≤ s5 := Nat.le_trans HPn1.out.1 (Nat.le_trans HPn2.out.1 (Nat.le_trans HPn3.out.1 (Nat.le_trans HPn4.out.1 HPn5.out.1)))
              have hoo : o5 = true → o1 = true ∧ s1 ≤ s5 := fun h => by
                have h4 := HPn5.out.2 h
                have h3 := HPn4.out.2 h4.1
                have h2 := HPn3.out.2 h3.1
                have h1 := HPn2.out.2 h2.1
                exact ⟨h1.1, by omega⟩
              have hql : o5 = true → q2 < s5 := fun h => by
                have h9 := hoo h
                have h8 := HPn1.out.2 h9.1
                omega
              have hkl : ji ≤ l.length := by
                rcases HFrb.out with h | ⟨h, _⟩
                · exact Nat.le_trans h HCb.out.hp
                · cases h
              refine ⟨⟨ci ++ [⟨x1, x2, x3, x4, x5⟩], .slice pa7 (ji + 1) pc7, s5, o5, by simp [HJ.out], hC8, hF8, ?_, fun b h0 h1 h2 => ?_, by simp [World.setCell, Array.getElem?_modify, HB7.out], (Below.heap_setCell _ _ _ R HNE.out.2.2).trans HR7.out, HV7.out.keep (fun b hb0 _ _ => Below.heap_setCell _ _ _ b (fun e => by have e2 : b = B := e; omega)) (by simp), ?_, HSb.out.step (by rw [HJ.out]; exact hltj) (fun y0 ys _ ho => ?_), Nat.le_trans HQb.out.1 hqq, fun _ => HQb.out.2 (by simp)⟩, by simp [intOf]; omega⟩
              · have h4 : (v7.setCell ⟨B, 1, none⟩ (.slice pa7 (ji + 1) pc7)).heap.size = v7.heap.size := by simp
                omega
              · refine (Below.heap_setCell _ _ _ b (fun e => h2 (.inl e))).trans ((HG7.out.block b (by omega) (fun e => by have := hnl b e.symm; omega)).trans ((Below.heap_alloc _ _ _ (by omega)).trans ((HF5b.out.block b (by omega) (by have := HXw.out; omega)).trans (HKb.out b h0 h1 h2))))
              · rw [List.length_append, List.length_singleton, HJ.out]
                exact HFrb.out.step hqq hql
              · obtain ⟨e1, c1, r1⟩ := HOn1.out y0.op (y0.d :: y0.a :: y0.b :: y0.n :: ys) (by simp) ho
                obtain ⟨e2, c2, r2⟩ := HOn2.out y0.d (y0.a :: y0.b :: y0.n :: ys) c1 r1
                obtain ⟨e3, c3, r3⟩ := HOn3.out y0.a (y0.b :: y0.n :: ys) c2 r2
                obtain ⟨e4, c4, r4⟩ := HOn4.out y0.b (y0.n :: ys) c3 r3
                obtain ⟨e5, c5, r5⟩ := HOn5.out y0.n ys c4 r4
                exact ⟨by rw [e1, e2, e3, e4, e5], c5, r5⟩
            | false =>
              go_wp2_with fail
              have hexi : false = true → ¬ (ci.length : Int) < n2 := fun h => by cases h
              have HWi : Hid (∀ (L : List InsD) ys, false = true → On l q ((L.length : Int) :: (L.flatMap insN1 ++ ys)) → ci = L ∧ false = true ∧ On l q2 ys) := HSb.out.whole hexi
              have HCI : Hid (ci.length ≤ l.length + 1) := by
                show _ ≤ _
                rw [HJ.out]
                exact HFrb.out.le HCb.out.hp
              have HWB : Hid (w.heap.size ≤ B ∧ B < wq.heap.size ∧ R < wq.heap.size) := ⟨by have := HRR.out; have := HBD.out; omega, (Array.getElem?_eq_some_iff.1 HBq.out).1, (Array.getElem?_eq_some_iff.1 HRq.out).1⟩
              obtain ⟨ppa, ppc, hpv⟩ := HVq.out.form
              obtain ⟨lla, llc, hlv⟩ := HVb.out.form
              subst hpv hlv
              clear hexi x2
              have HKt0 : Hid (∀ b, R ≤ b → b < wb.heap.size → b ≠ B → b ≠ R → wb.heap[b]? = wb.heap[b]?) := fun _ _ _ _ _ => rfl
              have HZt0 : Hid (wb.heap.size ≤ wb.heap.size) := Nat.le_refl _
              refine (snum_any HCb.out).mono ?_
              rintro e u1 ⟨y1, s1, o1, rfl, hC, hF, hS, hO, hpp, hkk⟩
              have HOt1 : Hid (∀ y ys, false = true → On l q2 (y :: ys) → y1 = y ∧ o1 = true ∧ On l s1 ys) := hO
              have HPt1 : Hid (q2 ≤ s1 ∧ (o1 = true → false = true ∧ q2 < s1)) := ⟨hpp, hkk⟩
              have hB : u1.heap[B]? = some (.cells #[.slice ppa cur.length ppc, .slice lla ci.length llc, .int .i64 0, .int .i64 0, .int .i64 0, .int .i64 0] 46 (0, 0)) := hF.at HBb.out rfl HNE.out.2.1
              obtain ⟨v1, hv1⟩ : ∃ W, u1.setCell ⟨B, 2, none⟩ (.int .i64 y1) = W := ⟨_, rfl⟩
              have HFt1 : Hid (FrB X w v1) := by rw [← hv1]; exact frB_setCells X B [.int .i64 y1] 2 u1 w (HFb.out.trans hF) HWB.out.1
              have HBt1 : Hid (v1.heap[B]? = some (.cells #[.slice ppa cur.length ppc, .slice lla ci.length llc, .int .i64 y1, .int .i64 0, .int .i64 0, .int .i64 0] 46 (0, 0))) := by
                show _ = _
                rw [← hv1]
                simp [World.setCell, Array.getElem?_modify, hB]
              have HRt1 : Hid (v1.heap[R]? = some (.cells #[.slice none 0 0, .slice none 0 0, .int .i64 0, .int .i64 0, .int .i64 0, .int .i64 0] 46 (0, 0))) := by rw [← hv1]; exact (Below.heap_setCell _ _ _ R HNE.out.2.2).trans (hF.at HRb.out rfl HNE.out.1)
              have HKt1 : Hid (∀ b, R ≤ b → b < wb.heap.size → b ≠ B → b ≠ R → v1.heap[b]? = wb.heap[b]?) := fun b h0 h1 h2 h3 => by rw [← hv1]; exact (Below.heap_setCell _ _ _ b h2).trans ((hF.block b (Nat.lt_of_lt_of_le h1 HZt0.out) (by have := HXw.out; omega)).trans (HKt0.out b h0 h1 h2 h3))
              have HZt1 : Hid (wb.heap.size ≤ v1.heap.size) := by
                show _ ≤ _
                rw [← hv1, World.size_setCell, hS]
                exact HZt0.out
              have HCt1 : Hid (CurS v1 X v l s1 o1) := HC.out.turn HFt1.out (by rw [← hv1]; exact (Below.heap_setCell _ _ _ X (fun e => HNE.out.2.1 e.symm)).trans hC.cx) hC.hp
              have j0 : u1.cell? ⟨B, 2, none⟩ = some (.int .i64 0) := by simp [World.cell?, hB]
              have jz : ∀ j, u1.frozen? ⟨B, j, none⟩ = false := fun j => by simp [World.frozen?, hB]
              clear hC hF hS hO hpp hkk hB
              go_wp2_with fail
              clear j0 jz hv1
              refine (snum_any HCt1.out).mono ?_
              rintro e u2 ⟨y2, s2, o2, rfl, hC, hF, hS, hO, hpp, hkk⟩
              have HOt2 : Hid (∀ y ys, o1 = true → On l s1 (y :: ys) → y2 = y ∧ o2 = true ∧ On l s2 ys) := hO
              have HPt2 : Hid (s1 ≤ s2 ∧ (o2 = true → o1 = true ∧ s1 < s2)) := ⟨hpp, hkk⟩
              have hB : u2.heap[B]? = some (.cells #[.slice ppa cur.length ppc, .slice lla ci.length llc, .int .i64 y1, .int .i64 0, .int .i64 0, .int .i64 0] 46 (0, 0)) := hF.at HBt1.out rfl HNE.out.2.1
              obtain ⟨v2, hv2⟩ : ∃ W, u2.setCell ⟨B, 3, none⟩ (.int .i64 y2) = W := ⟨_, rfl⟩
              have HFt2 : Hid (FrB X w v2) := by rw [← hv2]; exact frB_setCells X B [.int .i64 y2] 3 u2 w (HFt1.out.trans hF) HWB.out.1
              have HBt2 : Hid (v2.heap[B]? = some (.cells #[.slice ppa cur.length ppc, .slice lla ci.length llc, .int .i64 y1, .int .i64 y2, .int .i64 0, .int .i64 0] 46 (0, 0))) := by
                show _ = _
                rw [← hv2]
                simp [World.setCell, Array.getElem?_modify, hB]
              have HRt2 : Hid (v2.heap[R]? = some (.cells #[.slice none 0 0, .slice none 0 0, .int .i64 0, .int .i64 0, .int .i64 0, .int .i64 0] 46 (0, 0))) := by rw [← hv2]; exact (Below.heap_setCell _ _ _ R HNE.out.2.2).trans (hF.at HRt1.out rfl HNE.out.1)
              have HKt2 : Hid (∀ b, R ≤ b → b < wb.heap.size → b ≠ B → b ≠ R → v2.heap[b]? = wb.heap[b]?) := fun b h0 h1 h2 h3 => by rw [← hv2]; exact (Below.heap_setCell _ _ _ b h2).trans ((hF.block b (Nat.lt_of_lt_of_le h1 HZt1.out) (by have := HXw.out; omega)).trans (HKt1.out b h0 h1 h2 h3))
              have HZt2 : Hid (wb.heap.size ≤ v2.heap.size) := by
                show _ ≤ _
                rw [← hv2, World.size_setCell, hS]
                exact HZt1.out
              have HCt2 : Hid (CurS v2 X v l s2 o2) := HC.out.turn HFt2.out (by rw [← hv2]; exact (Below.heap_setCell _ _ _ X (fun e => HNE.out.2.1 e.symm)).trans hC.cx) hC.hp
              have j0 : u2.cell? ⟨B, 3, none⟩ = some (.int .i64 0) := by simp [World.cell?, hB]
              have jz : ∀ j, u2.frozen? ⟨B, j, none⟩ = false := fun j => by simp [World.frozen?, hB]
              clear hC hF hS hO hpp hkk hB
              go_wp2_with fail
              clear j0 jz hv2
              refine (snum_any HCt2.out).mono ?_
              rintro e u3 ⟨y3, s3, o3, rfl, hC, hF, hS, hO, hpp, hkk⟩
              have HOt3 : Hid (∀ y ys, o2 = true → On l s2 (y :: ys) → y3 = y ∧ o3 = true ∧ On l s3 ys) := hO
              have HPt3 : Hid (s2 ≤ s3 ∧ (o3 = true → o2 = true ∧ s2 < s3)) := ⟨hpp, hkk⟩
              have hB : u3.heap[B]? = some (.cells #[.slice ppa cur.length ppc, .slice lla ci.length llc, .int .i64 y1, .int .i64 y2, .int .i64 0, .int .i64 0] 46 (0, 0)) := hF.at HBt2.out rfl HNE.out.2.1
              obtain ⟨v3, hv3⟩ : ∃ W, u3.setCell ⟨B, 4, none⟩ (.int .i64 y3) = W := ⟨_, rfl⟩
              have HFt3 : Hid (FrB X w v3) := by rw [← hv3]; exact frB_setCells X B [.int .i64 y3] 4 u3 w (HFt2.out.trans hF) HWB.out.1
              have HBt3 : Hid (v3.heap[B]? = some (.cells #[.slice ppa cur.length ppc, .slice lla ci.length llc, .int .i64 y1, .int .i64 y2, .int .i64 y3, .int .i64 0] 46 (0, 0))) := by
                show _ = _
                rw [← hv3]
                simp [World.setCell, Array.getElem?_modify, hB]
              have HRt3 : Hid (v3.heap[R]? = some (.cells #[.slice none 0 0, .slice none 0 0, .int .i64 0, .int .i64 0, .int .i64 0, .int .i64 0] 46 (0, 0))) := by rw [← hv3]; exact (Below.heap_setCell _ _ _ R HNE.out.2.2).trans (hF.at HRt2.out rfl HNE.out.1)
              have HKt3 : Hid (∀ b, R ≤ b → b < wb.heap.size → b ≠ B → b ≠ R → v3.heap[b]? = wb.heap[b]?) := fun b h0 h1 h2 h3 => by rw [← hv3]; exact (Below.heap_setCell _ _ _ b h2).trans ((hF.block b (Nat.lt_of_lt_of_le h1 HZt2.out) (by have := HXw.out; omega)).trans (HKt2.out b h0 h1 h2 h3))
              have HZt3 : Hid (wb.heap.size ≤ v3.heap.size) := by
                show _ ≤ _
                rw [← hv3, World.size_setCell, hS]
                exact HZt2.out
              have HCt3 : Hid (CurS v3 X v l s3 o3) := HC.out.turn HFt3.out (by rw [← hv3]; exact (Below.heap_setCell _ _ _ X (fun e => HNE.out.2.1 e.symm)).trans hC.cx) hC.hp
              have j0 : u3.cell? ⟨B, 4, none⟩ = some (.int .i64 0) := by simp [World.cell?, hB]
              have jz : ∀ j, u3.frozen? ⟨B, j, none⟩ = false := fun j => by simp [World.frozen?, hB]
              clear hC hF hS hO hpp hkk hB
              go_wp2_with fail
              clear j0 jz hv3
              refine (snum_any HCt3.out).mono ?_
              rintro e u4 ⟨y4, s4, o4, rfl, hC, hF, hS, hO, hpp, hkk⟩
              have HOt4 : Hid (∀ y ys, o3 = true → On l s3 (y :: ys) → y4 = y ∧ o4 = true ∧ On l s4 ys) := hO
              have HPt4 : Hid (s3 ≤ s4 ∧ (o4 = true → o3 = true ∧ s3 < s4)) := ⟨hpp, hkk⟩
              have hB : u4.heap[B]? = some (.cells #[.slice ppa cur.length ppc, .slice lla ci.length llc, .int .i64 y1, .int .i64 y2, .int .i64 y3, .int .i64 0] 46 (0, 0)) := hF.at HBt3.out rfl HNE.out.2.1
              obtain ⟨v4, hv4⟩ : ∃ W, u4.setCell ⟨B, 5, none⟩ (.int .i64 y4) = W := ⟨_, rfl⟩
              have HFt4 : Hid (FrB X w v4) := by rw [← hv4]; exact frB_setCells X B [.int .i64 y4] 5 u4 w (HFt3.out.trans hF) HWB.out.1
              have HBt4 : Hid (v4.heap[B]? = some (.cells #[.slice ppa cur.length ppc, .slice lla ci.length llc, .int .i64 y1, .int .i64 y2, .int .i64 y3, .int .i64 y4] 46 (0, 0))) := by
                show _ = _
                rw [← hv4]
                simp [World.setCell, Array.getElem?_modify, hB]
              have HRt4 : Hid (v4.heap[R]? = some (.cells #[.slice none 0 0, .slice none 0 0, .int .i64 0, .int .i64 0, .int .i64 0, .int .i64 0] 46 (0, 0))) := by rw [← hv4]; exact (Below.heap_setCell _ _ _ R HNE.out.2.2).trans (hF.at HRt3.out rfl HNE.out.1)
              have HKt4 : Hid (∀ b, R ≤ b → b < wb.heap.size → b ≠ B → b ≠ R → v4.heap[b]? = wb.heap[b]?) := fun b h0 h1 h2 h3 => by rw [← hv4]; exact (Below.heap_setCell _ _ _ b h2).trans ((hF.block b (Nat.lt_of_lt_of_le h1 HZt3.out) (by have := HXw.out; omega)).trans (HKt3.out b h0 h1 h2 h3))
              have HZt4 : Hid (wb.heap.size ≤ v4.heap.size) := by
                show _ ≤ _
                rw [← hv4, World.size_setCell, hS]
                exact HZt3.out
              have HCt4 : Hid (CurS v4 X v l s4 o4) := HC.out.turn HFt4.out (by rw [← hv4]; exact (Below.heap_setCell _ _ _ X (fun e => HNE.out.2.1 e.symm)).trans hC.cx) hC.hp
              have j0 : u4.cell? ⟨B, 5, none⟩ = some (.int .i64 0) := by simp [World.cell?, hB]
              have jz : ∀ j, u4.frozen? ⟨B, j, none⟩ = false := fun j => by simp [World.frozen?, hB]
              clear hC hF hS hO hpp hkk hB
              have b0 : v4.cell? ⟨B, 0, none⟩ = some (.slice ppa cur.length ppc) := by simp [World.cell?, HBt4.out]
              have b1 : v4.cell? ⟨B, 1, none⟩ = some (.slice lla ci.length llc) := by simp [World.cell?, HBt4.out]
              have b2 : v4.cell? ⟨B, 2, none⟩ = some (.int .i64 y1) := by simp [World.cell?, HBt4.out]
              have b3 : v4.cell? ⟨B, 3, none⟩ = some (.int .i64 y2) := by simp [World.cell?, HBt4.out]
              have b4 : v4.cell? ⟨B, 4, none⟩ = some (.int .i64 y3) := by simp [World.cell?, HBt4.out]
              have b5 : v4.cell? ⟨B, 5, none⟩ = some (.int .i64 y4) := by simp [World.cell?, HBt4.out]
              have r0 : v4.cell? ⟨R, 0, none⟩ = some (.slice none 0 0) := by simp [World.cell?, HRt4.out]
              have r1 : v4.cell? ⟨R, 1, none⟩ = some (.slice none 0 0) := by simp [World.cell?, HRt4.out]
              have r2 : v4.cell? ⟨R, 2, none⟩ = some (.int .i64 0) := by simp [World.cell?, HRt4.out]
              have r3 : v4.cell? ⟨R, 3, none⟩ = some (.int .i64 0) := by simp [World.cell?, HRt4.out]
              have r4 : v4.cell? ⟨R, 4, none⟩ = some (.int .i64 0) := by simp [World.cell?, HRt4.out]
              have r5 : v4.cell? ⟨R, 5, none⟩ = some (.int .i64 0) := by simp [World.cell?, HRt4.out]
              have rz : ∀ j, v4.frozen? ⟨R, j, none⟩ = false := fun j => by simp [World.frozen?, HRt4.out]
              go_wp2_with fail
              refine bodyPost_ret (v := .agg #[.slice ppa cur.length ppc, .slice lla ci.length llc, .int .i64 y1, .int .i64 y2, .int .i64 y3, .int .i64 y4]) (by simp [results, Tryd.results36, go_sem, r0, r1, r2, r3, r4, r5]) rfl ?_
              have hF9 : FrB X w (v4.setCells R 0 [.slice ppa cur.length ppc, .slice lla ci.length llc, .int .i64 y1, .int .i64 y2, .int .i64 y3, .int .i64 y4]) := frB_setCells X R [.slice ppa cur.length ppc, .slice lla ci.length llc, .int .i64 y1, .int .i64 y2, .int .i64 y3, .int .i64 y4] 0 v4 w HFt4.out (Nat.le_of_eq HRR.out)
              have hC9 : CurS (v4.setCells R 0 [.slice ppa cur.length ppc, .slice lla ci.length llc, .int .i64 y1, .int .i64 y2, .int .i64 y3, .int .i64 y4]) X v l s4 o4 := HC.out.turn hF9 ((heap_setCells R (fun e => HNE.out.1 e.symm) _ _ v4).trans HCt4.out.cx) HCt4.out.hp
              have hz9 := size_setCells R [.slice ppa cur.length ppc, .slice lla ci.length llc, .int .i64 y1, .int .i64 y2, .int .i64 y3, .int .i64 y4] 0 v4
              have ho9 : ∀ b, b ≠ R → (v4.setCells R 0 [.slice ppa cur.length ppc, .slice lla ci.length llc, .int .i64 y1, .int .i64 y2, .int .i64 y3, .int .i64 y4]).heap[b]? = v4.heap[b]? := fun b hb => heap_setCells R hb _ _ v4
              have hl9 := HCt4.out.hl
              have hcl := HCL.out
              have hci := HCI.out
              have hzt := HZt4.out
              have hwb := HWB.out
              have hwq := HWb.out
              have hrr := HRR.out
              have hlow : p ≤ s4 ∧ (o4 = true → ok = true ∧ p < s4) := by
                have h1 := HPt1.out.1
                have h2 := HPt2.out.1
                have h3 := HPt3.out.1
                have h4 := HPt4.out.1
                have h5 := HQb.out.1
                have h6 := HP2.out.1
                have h7 := HPq.out.1
                refine ⟨by omega, fun h => ?_⟩
                have k4 := HPt4.out.2 h
                have k3 := HPt3.out.2 k4.1
                have k2 := HPt2.out.2 k3.1
                have k1 := HPt1.out.2 k2.1
                have k0 := HQb.out.2 k1.1
                have kq := HP2.out.2 k0
                have kp := HPq.out.2 kq.1
                exact ⟨kp.1, by omega⟩
              refine ⟨⟨cur, ci, ⟨y1, y2, y3, y4⟩⟩, _, _, s4, o4, rfl, hC9, hF9, fun w9 hsz hw9 => ?_, fun y0 ys hok ho => ?_, hlow⟩
              · have hb9 : ∀ b, R ≤ b → b < wb.heap.size → b ≠ B → b ≠ R → w9.heap[b]? = wb.heap[b]? := fun b h0 h1 h2 h3 => (hw9 b (by show b < (v4.setCells R 0 [.slice ppa cur.length ppc, .slice lla ci.length llc, .int .i64 y1, .int .i64 y2, .int .i64 y3, .int .i64 y4]).heap.size; rw [hz9]; omega) (by omega)).trans ((ho9 b h3).trans (HKt4.out b h0 h1 h2 h3))
                refine ⟨_, _, rfl, phis_read HVq.out (show cur.length ≤ 1100000 by omega) (fun b h0 h1 h2 => ?_) ?_, ins_read HVb.out (show ci.length ≤ 1100000 by omega) (fun g hg => ?_)⟩
                · exact (hb9 b h0 (by omega) (fun e => h2 (.inl e)) (fun e => h2 (.inr e))).trans (HKb.out b h0 h1 h2)
                · have h9 : (v4.setCells R 0 [.slice ppa cur.length ppc, .slice lla ci.length llc, .int .i64 y1, .int .i64 y2, .int .i64 y3, .int .i64 y4]).heap.size ≤ w9.heap.size := hsz
                  omega
                · obtain ⟨g1, g2⟩ := HVb.out.lt g hg
                  exact hb9 g (by omega) g2 (by omega) (by omega)
              · have ho1 : On l p ((y0.phis.length : Int) :: (y0.phis.flatMap phiN ++ ((y0.list.length : Int) :: (y0.list.flatMap insN1 ++ (y0.term.k :: y0.term.a :: y0.term.t :: y0.term.e :: ys))))) := by
                  have e : blockN y0 ++ ys = (y0.phis.length : Int) :: (y0.phis.flatMap phiN ++ ((y0.list.length : Int) :: (y0.list.flatMap insN1 ++ (y0.term.k :: y0.term.a :: y0.term.t :: y0.term.e :: ys)))) := by
                    simp [blockN, phisN, insN]
                    rfl
                  rw [← e]
                  exact ho
                obtain ⟨e1, c1, r1⟩ := HW.out y0.phis _ hok ho1
                obtain ⟨e2, c2, r2⟩ := HWi.out y0.list _ c1 r1
                obtain ⟨e3, c3, r3⟩ := HOt1.out _ _ c2 r2
                obtain ⟨e4, c4, r4⟩ := HOt2.out _ _ c3 r3
                obtain ⟨e5, c5, r5⟩ := HOt3.out _ _ c4 r4
                obtain ⟨e6, c6, r6⟩ := HOt4.out _ _ c5 r5
                refine ⟨?_, c6, r6⟩
                obtain ⟨yp, yl, yk, ya, yt, ye⟩ := y0
                simp at e1 e2 e3 e4 e5 e6
                rw [e1, e2, e3, e4, e5, e6]
          · go_wp2_with fail
            have hexi : ok4 = true → ¬ (ci.length : Int) < n2 := fun _ => by rw [HJ.out]; omega
            have HWi : Hid (∀ (L : List InsD) ys, false = true → On l q ((L.length : Int) :: (L.flatMap insN1 ++ ys)) → ci = L ∧ ok4 = true ∧ On l q2 ys) := HSb.out.whole hexi
            have HCI : Hid (ci.length ≤ l.length + 1) := by
              show _ ≤ _
              rw [HJ.out]
              exact HFrb.out.le HCb.out.hp
            have HWB : Hid (w.heap.size ≤ B ∧ B < wq.heap.size ∧ R < wq.heap.size) := ⟨by have := HRR.out; have := HBD.out; omega, (Array.getElem?_eq_some_iff.1 HBq.out).1, (Array.getElem?_eq_some_iff.1 HRq.out).1⟩
            obtain ⟨ppa, ppc, hpv⟩ := HVq.out.form
            obtain ⟨lla, llc, hlv⟩ := HVb.out.form
            subst hpv hlv
            clear hexi x2
            have HKt0 : Hid (∀ b, R ≤ b → b < wb.heap.size → b ≠ B → b ≠ R → wb.heap[b]? = wb.heap[b]?) := fun _ _ _ _ _ => rfl
            have HZt0 : Hid (wb.heap.size ≤ wb.heap.size) := Nat.le_refl _
            refine (snum_any HCb.out).mono ?_
            rintro e u1 ⟨y1, s1, o1, rfl, hC, hF, hS, hO, hpp, hkk⟩
            have HOt1 : Hid (∀ y ys, ok4 = true → On l q2 (y :: ys) → y1 = y ∧ o1 = true ∧ On l s1 ys) := hO
            have HPt1 : Hid (q2 ≤ s1 ∧ (o1 = true → ok4 = true ∧ q2 < s1)) := ⟨hpp, hkk⟩
            have hB : u1.heap[B]? = some (.cells #[.slice ppa cur.length ppc, .slice lla ci.length llc, .int .i64 0, .int .i64 0, .int .i64 0, .int .i64 0] 46 (0, 0)) := hF.at HBb.out rfl HNE.out.2.1
            obtain ⟨v1, hv1⟩ : ∃ W, u1.setCell ⟨B, 2, none⟩ (.int .i64 y1) = W := ⟨_, rfl⟩
            have HFt1 : Hid (FrB X w v1) := by rw [← hv1]; exact frB_setCells X B [.int .i64 y1] 2 u1 w (HFb.out.trans hF) HWB.out.1
            have HBt1 : Hid (v1.heap[B]? = some (.cells #[.slice ppa cur.length ppc, .slice lla ci.length llc, .int .i64 y1, .int .i64 0, .int .i64 0, .int .i64 0] 46 (0, 0))) := by
              show _ = _
              rw [← hv1]
              simp [World.setCell, Array.getElem?_modify, hB]
            have HRt1 : Hid (v1.heap[R]? = some (.cells #[.slice none 0 0, .slice none 0 0, .int .i64 0, .int .i64 0, .int .i64 0, .int .i64 0] 46 (0, 0))) := by rw [← hv1]; exact (Below.heap_setCell _ _ _ R HNE.out.2.2).trans (hF.at HRb.out rfl HNE.out.1)
            have HKt1 : Hid (∀ b, R ≤ b → b < wb.heap.size → b ≠ B → b ≠ R → v1.heap[b]? = wb.heap[b]?) := fun b h0 h1 h2 h3 => by rw [← hv1]; exact (Below.heap_setCell _ _ _ b h2).trans ((hF.block b (Nat.lt_of_lt_of_le h1 HZt0.out) (by have := HXw.out; omega)).trans (HKt0.out b h0 h1 h2 h3))
            have HZt1 : Hid (wb.heap.size ≤ v1.heap.size) := by
              show _ ≤ _
              rw [← hv1, World.size_setCell, hS]
              exact HZt0.out
            have HCt1 : Hid (CurS v1 X v l s1 o1) := HC.out.turn HFt1.out (by rw [← hv1]; exact (Below.heap_setCell _ _ _ X (fun e => HNE.out.2.1 e.symm)).trans hC.cx) hC.hp
            have j0 : u1.cell? ⟨B, 2, none⟩ = some (.int .i64 0) := by simp [World.cell?, hB]
            have jz : ∀ j, u1.frozen? ⟨B, j, none⟩ = false := fun j => by simp [World.frozen?, hB]
            clear hC hF hS hO hpp hkk hB
            go_wp2_with fail
            clear j0 jz hv1
            refine (snum_any HCt1.out).mono ?_
            rintro e u2 ⟨y2, s2, o2, rfl, hC, hF, hS, hO, hpp, hkk⟩
            have HOt2 : Hid (∀ y ys, o1 = true → On l s1 (y :: ys) → y2 = y ∧ o2 = true ∧ On l s2 ys) := hO
            have HPt2 : Hid (s1 ≤ s2 ∧ (o2 = true → o1 = true ∧ s1 < s2)) := ⟨hpp, hkk⟩
            have hB : u2.heap[B]? = some (.cells #[.slice ppa cur.length ppc, .slice lla ci.length llc, .int .i64 y1, .int .i64 0, .int .i64 0, .int .i64 0] 46 (0, 0)) := hF.at HBt1.out rfl HNE.out.2.1
            obtain ⟨v2, hv2⟩ : ∃ W, u2.setCell ⟨B, 3, none⟩ (.int .i64 y2) = W := ⟨_, rfl⟩
            have HFt2 : Hid (FrB X w v2) := by rw [← hv2]; exact frB_setCells X B [.int .i64 y2] 3 u2 w (HFt1.out.trans hF) HWB.out.1
            have HBt2 : Hid (v2.heap[B]? = some (.cells #[.slice ppa cur.length ppc, .slice lla ci.length llc, .int .i64 y1, .int .i64 y2, .int .i64 0, .int .i64 0] 46 (0, 0))) := by
              show _ = _
              rw [← hv2]
              simp [World.setCell, Array.getElem?_modify, hB]
            have HRt2 : Hid (v2.heap[R]? = some (.cells #[.slice none 0 0, .slice none 0 0, .int .i64 0, .int .i64 0, .int .i64 0, .int .i64 0] 46 (0, 0))) := by rw [← hv2]; exact (Below.heap_setCell _ _ _ R HNE.out.2.2).trans (hF.at HRt1.out rfl HNE.out.1)
            have HKt2 : Hid (∀ b, R ≤ b → b < wb.heap.size → b ≠ B → b ≠ R → v2.heap[b]? = wb.heap[b]?) := fun b h0 h1 h2 h3 => by rw [← hv2]; exact (Below.heap_setCell _ _ _ b h2).trans ((hF.block b (Nat.lt_of_lt_of_le h1 HZt1.out) (by have := HXw.out; omega)).trans (HKt1.out b h0 h1 h2 h3))
            have HZt2 : Hid (wb.heap.size ≤ v2.heap.size) := by
              show _ ≤ _
              rw [← hv2, World.size_setCell, hS]
              exact HZt1.out
            have HCt2 : Hid (CurS v2 X v l s2 o2) := HC.out.turn HFt2.out (by rw [← hv2]; exact (Below.heap_setCell _ _ _ X (fun e => HNE.out.2.1 e.symm)).trans hC.cx) hC.hp
            have j0 : u2.cell? ⟨B, 3, none⟩ = some (.int .i64 0) := by simp [World.cell?, hB]
            have jz : ∀ j, u2.frozen? ⟨B, j, none⟩ = false := fun j => by simp [World.frozen?, hB]
            clear hC hF hS hO hpp hkk hB
            go_wp2_with fail
            clear j0 jz hv2
            refine (snum_any HCt2.out).mono ?_
            rintro e u3 ⟨y3, s3, o3, rfl, hC, hF, hS, hO, hpp, hkk⟩
            have HOt3 : Hid (∀ y ys, o2 = true → On l s2 (y :: ys) → y3 = y ∧ o3 = true ∧ On l s3 ys) := hO
            have HPt3 : Hid (s2 ≤ s3 ∧ (o3 = true → o2 = true ∧ s2 < s3)) := ⟨hpp, hkk⟩
            have hB : u3.heap[B]? = some (.cells #[.slice ppa cur.length ppc, .slice lla ci.length llc, .int .i64 y1, .int .i64 y2, .int .i64 0, .int .i64 0] 46 (0, 0)) := hF.at HBt2.out rfl HNE.out.2.1
            obtain ⟨v3, hv3⟩ : ∃ W, u3.setCell ⟨B, 4, none⟩ (.int .i64 y3) = W := ⟨_, rfl⟩
            have HFt3 : Hid (FrB X w v3) := by rw [← hv3]; exact frB_setCells X B [.int .i64 y3] 4 u3 w (HFt2.out.trans hF) HWB.out.1
            have HBt3 : Hid (v3.heap[B]? = some (.cells #[.slice ppa cur.length ppc, .slice lla ci.length llc, .int .i64 y1, .int .i64 y2, .int .i64 y3, .int .i64 0] 46 (0, 0))) := by
              show _ = _
              rw [← hv3]
              simp [World.setCell, Array.getElem?_modify, hB]
            have HRt3 : Hid (v3.heap[R]? = some (.cells #[.slice none 0 0, .slice none 0 0, .int .i64 0, .int .i64 0, .int .i64 0, .int .i64 0] 46 (0, 0))) := by rw [← hv3]; exact (Below.heap_setCell _ _ _ R HNE.out.2.2).trans (hF.at HRt2.out rfl HNE.out.1)
            have HKt3 : Hid (∀ b, R ≤ b → b < wb.heap.size → b ≠ B → b ≠ R → v3.heap[b]? = wb.heap[b]?) := fun b h0 h1 h2 h3 => by rw [← hv3]; exact (Below.heap_setCell _ _ _ b h2).trans ((hF.block b (Nat.lt_of_lt_of_le h1 HZt2.out) (by have := HXw.out; omega)).trans (HKt2.out b h0 h1 h2 h3))
            have HZt3 : Hid (wb.heap.size ≤ v3.heap.size) := by
              show _ ≤ _
              rw [← hv3, World.size_setCell, hS]
              exact HZt2.out
            have HCt3 : Hid (CurS v3 X v l s3 o3) := HC.out.turn HFt3.out (by rw [← hv3]; exact (Below.heap_setCell _ _ _ X (fun e => HNE.out.2.1 e.symm)).trans hC.cx) hC.hp
            have j0 : u3.cell? ⟨B, 4, none⟩ = some (.int .i64 0) := by simp [World.cell?, hB]
            have jz : ∀ j, u3.frozen? ⟨B, j, none⟩ = false := fun j => by simp [World.frozen?, hB]
            clear hC hF hS hO hpp hkk hB
            go_wp2_with fail
            clear j0 jz hv3
            refine (snum_any HCt3.out).mono ?_
            rintro e u4 ⟨y4, s4, o4, rfl, hC, hF, hS, hO, hpp, hkk⟩
            have HOt4 : Hid (∀ y ys, o3 = true → On l s3 (y :: ys) → y4 = y ∧ o4 = true ∧ On l s4 ys) := hO
            have HPt4 : Hid (s3 ≤ s4 ∧ (o4 = true → o3 = true ∧ s3 < s4)) := ⟨hpp, hkk⟩
            have hB : u4.heap[B]? = some (.cells #[.slice ppa cur.length ppc, .slice lla ci.length llc, .int .i64 y1, .int .i64 y2, .int .i64 y3, .int .i64 0] 46 (0, 0)) := hF.at HBt3.out rfl HNE.out.2.1
            obtain ⟨v4, hv4⟩ : ∃ W, u4.setCell ⟨B, 5, none⟩ (.int .i64 y4) = W := ⟨_, rfl⟩
            have HFt4 : Hid (FrB X w v4) := by rw [← hv4]; exact frB_setCells X B [.int .i64 y4] 5 u4 w (HFt3.out.trans hF) HWB.out.1
            have HBt4 : Hid (v4.heap[B]? = some (.cells #[.slice ppa cur.length ppc, .slice lla ci.length llc, .int .i64 y1, .int .i64 y2, .int .i64 y3, .int .i64 y4] 46 (0, 0))) := by
              show _ = _
              rw [← hv4]
              simp [World.setCell, Array.getElem?_modify, hB]
            have HRt4 : Hid (v4.heap[R]? = some (.cells #[.slice none 0 0, .slice none 0 0, .int .i64 0, .int .i64 0, .int .i64 0, .int .i64 0] 46 (0, 0))) := by rw [← hv4]; exact (Below.heap_setCell _ _ _ R HNE.out.2.2).trans (hF.at HRt3.out rfl HNE.out.1)
            have HKt4 : Hid (∀ b, R ≤ b → b < wb.heap.size → b ≠ B → b ≠ R → v4.heap[b]? = wb.heap[b]?) := fun b h0 h1 h2 h3 => by rw [← hv4]; exact (Below.heap_setCell _ _ _ b h2).trans ((hF.block b (Nat.lt_of_lt_of_le h1 HZt3.out) (by have := HXw.out; omega)).trans (HKt3.out b h0 h1 h2 h3))
            have HZt4 : Hid (wb.heap.size ≤ v4.heap.size) := by
              show _ ≤ _
              rw [← hv4, World.size_setCell, hS]
              exact HZt3.out
            have HCt4 : Hid (CurS v4 X v l s4 o4) := HC.out.turn HFt4.out (by rw [← hv4]; exact (Below.heap_setCell _ _ _ X (fun e => HNE.out.2.1 e.symm)).trans hC.cx) hC.hp
            have j0 : u4.cell? ⟨B, 5, none⟩ = some (.int .i64 0) := by simp [World.cell?, hB]
            have jz : ∀ j, u4.frozen? ⟨B, j, none⟩ = false := fun j => by simp [World.frozen?, hB]
            clear hC hF hS hO hpp hkk hB
            have b0 : v4.cell? ⟨B, 0, none⟩ = some (.slice ppa cur.length ppc) := by simp [World.cell?, HBt4.out]
            have b1 : v4.cell? ⟨B, 1, none⟩ = some (.slice lla ci.length llc) := by simp [World.cell?, HBt4.out]
            have b2 : v4.cell? ⟨B, 2, none⟩ = some (.int .i64 y1) := by simp [World.cell?, HBt4.out]
            have b3 : v4.cell? ⟨B, 3, none⟩ = some (.int .i64 y2) := by simp [World.cell?, HBt4.out]
            have b4 : v4.cell? ⟨B, 4, none⟩ = some (.int .i64 y3) := by simp [World.cell?, HBt4.out]
            have b5 : v4.cell? ⟨B, 5, none⟩ = some (.int .i64 y4) := by simp [World.cell?, HBt4.out]
            have r0 : v4.cell? ⟨R, 0, none⟩ = some (.slice none 0 0) := by simp [World.cell?, HRt4.out]
            have r1 : v4.cell? ⟨R, 1, none⟩ = some (.slice none 0 0) := by simp [World.cell?, HRt4.out]
            have r2 : v4.cell? ⟨R, 2, none⟩ = some (.int .i64 0) := by simp [World.cell?, HRt4.out]
            have r3 : v4.cell? ⟨R, 3, none⟩ = some (.int .i64 0) := by simp [World.cell?, HRt4.out]
            have r4 : v4.cell? ⟨R, 4, none⟩ = some (.int .i64 0) := by simp [World.cell?, HRt4.out]
            have r5 : v4.cell? ⟨R, 5, none⟩ = some (.int .i64 0) := by simp [World.cell?, HRt4.out]
            have rz : ∀ j, v4.frozen? ⟨R, j, none⟩ = false := fun j => by simp [World.frozen?, HRt4.out]
            go_wp2_with fail
            refine bodyPost_ret (v := .agg #[.slice ppa cur.length ppc, .slice lla ci.length llc, .int .i64 y1, .int .i64 y2, .int .i64 y3, .int .i64 y4]) (by simp [results, Tryd.results36, go_sem, r0, r1, r2, r3, r4, r5]) rfl ?_
            have hF9 : FrB X w (v4.setCells R 0 [.slice ppa cur.length ppc, .slice lla ci.length llc, .int .i64 y1, .int .i64 y2, .int .i64 y3, .int .i64 y4]) := frB_setCells X R [.slice ppa cur.length ppc, .slice lla ci.length llc, .int .i64 y1, .int .i64 y2, .int .i64 y3, .int .i64 y4] 0 v4 w HFt4.out (Nat.le_of_eq HRR.out)
            have hC9 : CurS (v4.setCells R 0 [.slice ppa cur.length ppc, .slice lla ci.length llc, .int .i64 y1, .int .i64 y2, .int .i64 y3, .int .i64 y4]) X v l s4 o4 := HC.out.turn hF9 ((heap_setCells R (fun e => HNE.out.1 e.symm) _ _ v4).trans HCt4.out.cx) HCt4.out.hp
            have hz9 := size_setCells R [.slice ppa cur.length ppc, .slice lla ci.length llc, .int .i64 y1, .int .i64 y2, .int .i64 y3, .int .i64 y4] 0 v4
            have ho9 : ∀ b, b ≠ R → (v4.setCells R 0 [.slice ppa cur.length ppc, .slice lla ci.length llc, .int .i64 y1, .int .i64 y2, .int .i64 y3, .int .i64 y4]).heap[b]? = v4.heap[b]? := fun b hb => heap_setCells R hb _ _ v4
            have hl9 := HCt4.out.hl
            have hcl := HCL.out
            have hci := HCI.out
            have hzt := HZt4.out
            have hwb := HWB.out
            have hwq := HWb.out
            have hrr := HRR.out
            have hlow : p ≤ s4 ∧ (o4 = true → ok = true ∧ p < s4) := by
              have h1 := HPt1.out.1
              have h2 := HPt2.out.1
              have h3 := HPt3.out.1
              have h4 := HPt4.out.1
              have h5 := HQb.out.1
              have h6 := HP2.out.1
              have h7 := HPq.out.1
              refine ⟨by omega, fun h => ?_⟩
              have k4 := HPt4.out.2 h
              have k3 := HPt3.out.2 k4.1
              have k2 := HPt2.out.2 k3.1
              have k1 := HPt1.out.2 k2.1
              have k0 := HQb.out.2 k1.1
              have kq := HP2.out.2 k0
              have kp := HPq.out.2 kq.1
              exact ⟨kp.1, by omega⟩
            refine ⟨⟨cur, ci, ⟨y1, y2, y3, y4⟩⟩, _, _, s4, o4, rfl, hC9, hF9, fun w9 hsz hw9 => ?_, fun y0 ys hok ho => ?_, hlow⟩
            · have hb9 : ∀ b, R ≤ b → b < wb.heap.size → b ≠ B → b ≠ R → w9.heap[b]? = wb.heap[b]? := fun b h0 h1 h2 h3 => (hw9 b (by show b < (v4.setCells R 0 [.slice ppa cur.length ppc, .slice lla ci.length llc, .int .i64 y1, .int .i64 y2, .int .i64 y3, .int .i64 y4]).heap.size; rw [hz9]; omega) (by omega)).trans ((ho9 b h3).trans (HKt4.out b h0 h1 h2 h3))
              refine ⟨_, _, rfl, phis_read HVq.out (show cur.length ≤ 1100000 by omega) (fun b h0 h1 h2 => ?_) ?_, ins_read HVb.out (show ci.length ≤ 1100000 by omega) (fun g hg => ?_)⟩
              · exact (hb9 b h0 (by omega) (fun e => h2 (.inl e)) (fun e => h2 (.inr e))).trans (HKb.out b h0 h1 h2)
              · have h9 : (v4.setCells R 0 [.slice ppa cur.length ppc, .slice lla ci.length llc, .int .i64 y1, .int .i64 y2, .int .i64 y3, .int .i64 y4]).heap.size ≤ w9.heap.size := hsz
                omega
              · obtain ⟨g1, g2⟩ := HVb.out.lt g hg
                exact hb9 g (by omega) g2 (by omega) (by omega)
            · have ho1 : On l p ((y0.phis.length : Int) :: (y0.phis.flatMap phiN ++ ((y0.list.length : Int) :: (y0.list.flatMap insN1 ++ (y0.term.k :: y0.term.a :: y0.term.t :: y0.term.e :: ys))))) := by
                have e : blockN y0 ++ ys = (y0.phis.length : Int) :: (y0.phis.flatMap phiN ++ ((y0.list.length : Int) :: (y0.list.flatMap insN1 ++ (y0.term.k :: y0.term.a :: y0.term.t :: y0.term.e :: ys)))) := by
                  simp [blockN, phisN, insN]
                  rfl
                rw [← e]
                exact ho
              obtain ⟨e1, c1, r1⟩ := HW.out y0.phis _ hok ho1
              obtain ⟨e2, c2, r2⟩ := HWi.out y0.list _ c1 r1
              obtain ⟨e3, c3, r3⟩ := HOt1.out _ _ c2 r2
              obtain ⟨e4, c4, r4⟩ := HOt2.out _ _ c3 r3
              obtain ⟨e5, c5, r5⟩ := HOt3.out _ _ c4 r4
              obtain ⟨e6, c6, r6⟩ := HOt4.out _ _ c5 r5
              refine ⟨?_, c6, r6⟩
              obtain ⟨yp, yl, yk, ya, yt, ye⟩ := y0
              simp at e1 e2 e3 e4 e5 e6
              rw [e1, e2, e3, e4, e5, e6]
    · go_wp2_with fail
      have hex : ok' = true → ¬ (cur.length : Int) < n := fun _ => by rw [HK.out]; omega
      have HW : Hid (∀ (L : List PhiD) ys, ok = true → On l p ((L.length : Int) :: (L.flatMap phiN ++ ys)) → cur = L ∧ ok' = true ∧ On l q ys) := HSq.out.whole hex
      have HCL : Hid (cur.length ≤ l.length + 1) := by
        show _ ≤ _
        rw [HK.out]
        exact HFar.out.le HCq.out.hp
      clear hex x2
      refine (snum_any HCq.out).mono ?_
      rintro e w2 ⟨n2, p2, ok2, rfl, hC, hF, hS, hO, hpp, hkk⟩
      have HC2 : Hid (CurS w2 X v l p2 ok2) := hC
      have HF2 : Hid (FrB X wq w2) := hF
      have HO2 : Hid (∀ y ys, ok' = true → On l q (y :: ys) → n2 = y ∧ ok2 = true ∧ On l p2 ys) := hO
      have HP2 : Hid (q ≤ p2 ∧ (ok2 = true → ok' = true ∧ q < p2)) := ⟨hpp, hkk⟩
      have HB2 : Hid (w2.heap[B]? = some (.cells #[pv, .slice none 0 0, .int .i64 0, .int .i64 0, .int .i64 0, .int .i64 0] 46 (0, 0))) := hF.at HBq.out rfl HNE.out.2.1
      have HR2 : Hid (w2.heap[R]? = some (.cells #[.slice none 0 0, .slice none 0 0, .int .i64 0, .int .i64 0, .int .i64 0, .int .i64 0] 46 (0, 0))) := hF.at HRq.out rfl HNE.out.1
      clear hC hF hS hO hpp hkk
      go_wp2_with fail
      go_loopw [10] (fun iv ws => ∃ (ci : List InsD) (lv : Value) (q2 : Nat) (ok4 : Bool), iv = .int .i64 (ci.length : Int) ∧ CurS ws X v l q2 ok4 ∧ FrB X w ws ∧ wq.heap.size ≤ ws.heap.size ∧ (∀ b, R ≤ b → b < wq.heap.size → ¬ (b = B ∨ b = R) → ws.heap[b]? = wq.heap[b]?) ∧ ws.heap[B]? = some (.cells #[pv, lv, .int .i64 0, .int .i64 0, .int .i64 0, .int .i64 0] 46 (0, 0)) ∧ ws.heap[R]? = some (.cells #[.slice none 0 0, .slice none 0 0, .int .i64 0, .int .i64 0, .int .i64 0, .int .i64 0] 46 (0, 0)) ∧ RowK 50 5 GIns ws wq.heap.size (fun _ => False) lv ci ∧ Far ci.length q2 ok4 ∧ SoFarS insN1 l q ok' q2 ok4 n2 ci ∧ p2 ≤ q2 ∧ (ok4 = true → ok2 = true)) (fun iv _ => l.length + 2 - (intOf iv).toNat)
      case atStart => exact ⟨[], _, p2, ok2, rfl, HC2.out, HFq.out.trans HF2.out, HF2.out.size, fun b h0 h1 _ => HF2.out.block b h1 (by have := HXw.out; omega), HB2.out, HR2.out, RowK.empty _ _ _, .inl (Nat.zero_le _), SoFarS.zero HO2.out, Nat.le_refl _, fun h => h⟩
      case round =>
        obtain ⟨wb, hwb⟩ : ∃ x, x = wr := ⟨_, rfl⟩
        subst hwb
        obtain ⟨ci, lv, q2, ok4, rfl, hC, hF, hsz, hKp, hB, hR, hV, hfar, hS, hpq, hok⟩ := hrel
        have HCb : Hid (CurS wb X v l q2 ok4) := hC
        have HFb : Hid (FrB X w wb) := hF
        have HWb : Hid (wq.heap.size ≤ wb.heap.size) := hsz
        have HKb : Hid (∀ b, R ≤ b → b < wq.heap.size → ¬ (b = B ∨ b = R) → wb.heap[b]? = wq.heap[b]?) := hKp
        have HBb : Hid (wb.heap[B]? = some (.cells #[pv, lv, .int .i64 0, .int .i64 0, .int .i64 0, .int .i64 0] 46 (0, 0))) := hB
        have HRb : Hid (wb.heap[R]? = some (.cells #[.slice none 0 0, .slice none 0 0, .int .i64 0, .int .i64 0, .int .i64 0, .int .i64 0] 46 (0, 0))) := hR
        have HVb : Hid (RowK 50 5 GIns wb wq.heap.size (fun _ => False) lv ci) := hV
        have HFrb : Hid (Far ci.length q2 ok4) := hfar
        have HSb : Hid (SoFarS insN1 l q ok' q2 ok4 n2 ci) := hS
        have HQb : Hid (p2 ≤ q2 ∧ (ok4 = true → ok2 = true)) := ⟨hpq, hok⟩
        have x2 : wb.cell? ⟨X, 2, none⟩ = some (.bool ok4) := by simp [World.cell?, hC.cx]
        clear hC hF hsz hKp hB hR hV hfar hS hpq hok
        obtain ⟨ji, HJ⟩ : ∃ k, Hid (ci.length = k) := ⟨_, rfl⟩
        rw [HJ.out] at HFrb ⊢
        have hjb : (ji : Int) ≤ 1048577 := by have := HFrb.out.le HCb.out.hp; have := HCb.out.hl; omega
        by_cases hltj : (ji : Int) < n2
        · cases ok4 with
          | true =>
            go_wp2_with fail
            refine (snum_any HCb.out).mono ?_
            rintro e u1 ⟨x1, s1, o1, rfl, hC, hF, hS, hO, hpp, hkk⟩
            have HOn1 : Hid (∀ y ys, true = true → On l q2 (y :: ys) → x1 = y ∧ o1 = true ∧ On l s1 ys) := hO
            have HPn1 : Hid (q2 ≤ s1 ∧ (o1 = true → true = true ∧ q2 < s1)) := ⟨hpp, hkk⟩
            have HC1b : Hid (CurS (u1.alloc (.cells #[.int .i64 x1, .int .i64 0, .int .i64 0, .int .i64 0, .int .i64 0] 50)) X v l s1 o1) := hC.below (Bel.alloc _ _)
            have HF1b : Hid (FrB X wb (u1.alloc (.cells #[.int .i64 x1, .int .i64 0, .int .i64 0, .int .i64 0, .int .i64 0] 50))) := frB_alloc hF _
            have HI1 : Hid ((u1.alloc (.cells #[.int .i64 x1, .int .i64 0, .int .i64 0, .int .i64 0, .int .i64 0] 50)).heap[u1.heap.size]? = some (.cells #[.int .i64 x1, .int .i64 0, .int .i64 0, .int .i64 0, .int .i64 0] 50 (0, 0))) := World.alloc_heap_new _ _
            have HS1b : Hid (u1.heap.size = wb.heap.size ∧ (u1.alloc (.cells #[.int .i64 x1, .int .i64 0, .int .i64 0, .int .i64 0, .int .i64 0] 50)).heap.size = wb.heap.size + 1) := ⟨hS, by simp [hS]⟩
            clear hC hF hS hO hpp hkk x2
            go_wp2_with fail
            generalize u1.alloc (.cells #[.int .i64 x1, .int .i64 0, .int .i64 0, .int .i64 0, .int .i64 0] 50) = v1 at HC1b HF1b HI1 HS1b ⊢
            obtain ⟨J, HJD⟩ : ∃ J, Hid (u1.heap.size = J) := ⟨_, rfl⟩
            rw [HJD.out] at HI1 HS1b ⊢
            have HJX : Hid (J ≠ X ∧ J = wb.heap.size) := ⟨by have h1 := HCb.out.lt; have h2 := HS1b.out.1; omega, HS1b.out.1⟩
            refine (snum_any HC1b.out).mono ?_
            rintro e u2 ⟨x2, s2, o2, rfl, hC, hF, hS, hO, hpp, hkk⟩
            have HOn2 : Hid (∀ y ys, o1 = true → On l s1 (y :: ys) → x2 = y ∧ o2 = true ∧ On l s2 ys) := hO
            have HPn2 : Hid (s1 ≤ s2 ∧ (o2 = true → o1 = true ∧ s1 < s2)) := ⟨hpp, hkk⟩
            have hI : u2.heap[J]? = some (.cells #[.int .i64 x1, .int .i64 0, .int .i64 0, .int .i64 0, .int .i64 0] 50 (0, 0)) := hF.at HI1.out rfl HJX.out.1
            obtain ⟨v2, hv2⟩ : ∃ W, u2.setCell ⟨J, 1, none⟩ (.int .i64 x2) = W := ⟨_, rfl⟩
            have HF2b : Hid (FrB X wb v2) := by rw [← hv2]; exact frB_setCells X J [.int .i64 x2] 1 u2 wb (HF1b.out.trans hF) (Nat.le_of_eq HJX.out.2.symm)
            have HI2 : Hid (v2.heap[J]? = some (.cells #[.int .i64 x1, .int .i64 x2, .int .i64 0, .int .i64 0, .int .i64 0] 50 (0, 0))) := by
              show _ = _
              rw [← hv2]
              simp [World.setCell, Array.getElem?_modify, hI]
            have HC2b : Hid (CurS v2 X v l s2 o2) := HCb.out.turn HF2b.out (by rw [← hv2]; exact (Below.heap_setCell _ _ _ X (fun e => HJX.out.1 e.symm)).trans hC.cx) hC.hp
            have HS2b : Hid (v2.heap.size = wb.heap.size + 1) := by
              show _ = _
              rw [← hv2, World.size_setCell, hS]
              exact HS1b.out.2
            have j0 : u2.cell? ⟨J, 1, none⟩ = some (.int .i64 0) := by simp [World.cell?, hI]
            have jz : ∀ j, u2.frozen? ⟨J, j, none⟩ = false := fun j => by simp [World.frozen?, hI]
            clear hC hF hS hO hpp hkk hI
            go_wp2_with fail
            clear j0 jz hv2
            refine (snum_any HC2b.out).mono ?_
            rintro e u3 ⟨x3, s3, o3, rfl, hC, hF, hS, hO, hpp, hkk⟩
            have HOn3 : Hid (∀ y ys, o2 = true → On l s2 (y :: ys) → x3 = y ∧ o3 = true ∧ On l s3 ys) := hO
            have HPn3 : Hid (s2 ≤ s3 ∧ (o3 = true → o2 = true ∧ s2 < s3)) := ⟨hpp, hkk⟩
            have hI : u3.heap[J]? = some (.cells #[.int .i64 x1, .int .i64 x2, .int .i64 0, .int .i64 0, .int .i64 0] 50 (0, 0)) := hF.at HI2.out rfl HJX.out.1
            obtain ⟨v3, hv3⟩ : ∃ W, u3.setCell ⟨J, 2, none⟩ (.int .i64 x3) = W := ⟨_, rfl⟩
            have HF3b : Hid (FrB X wb v3) := by rw [← hv3]; exact frB_setCells X J [.int .i64 x3] 2 u3 wb (HF2b.out.trans hF) (Nat.le_of_eq HJX.out.2.symm)
            have HI3 : Hid (v3.heap[J]? = some (.cells #[.int .i64 x1, .int .i64 x2, .int .i64 x3, .int .i64 0, .int .i64 0] 50 (0, 0))) := by
              show _ = _
              rw [← hv3]
              simp [World.setCell, Array.getElem?_modify, hI]
            have HC3b : Hid (CurS v3 X v l s3 o3) := HCb.out.turn HF3b.out (by rw [← hv3]; exact (Below.heap_setCell _ _ _ X (fun e => HJX.out.1 e.symm)).trans hC.cx) hC.hp
            have HS3b : Hid (v3.heap.size = wb.heap.size + 1) := by
              show _ = _
              rw [← hv3, World.size_setCell, hS]
              exact HS2b.out
            have j0 : u3.cell? ⟨J, 2, none⟩ = some (.int .i64 0) := by simp [World.cell?, hI]
            have jz : ∀ j, u3.frozen? ⟨J, j, none⟩ = false := fun j => by simp [World.frozen?, hI]
            clear hC hF hS hO hpp hkk hI
            go_wp2_with fail
            clear j0 jz hv3
            refine (snum_any HC3b.out).mono ?_
            rintro e u4 ⟨x4, s4, o4, rfl, hC, hF, hS, hO, hpp, hkk⟩
            have HOn4 : Hid (∀ y ys, o3 = true → On l s3 (y :: ys) → x4 = y ∧ o4 = true ∧ On l s4 ys) := hO
            have HPn4 : Hid (s3 ≤ s4 ∧ (o4 = true → o3 = true ∧ s3 < s4)) := ⟨hpp, hkk⟩
            have hI : u4.heap[J]? = some (.cells #[.int .i64 x1, .int .i64 x2, .int .i64 x3, .int .i64 0, .int .i64 0] 50 (0, 0)) := hF.at HI3.out rfl HJX.out.1
            obtain ⟨v4, hv4⟩ : ∃ W, u4.setCell ⟨J, 3, none⟩ (.int .i64 x4) = W := ⟨_, rfl⟩
            have HF4b : Hid (FrB X wb v4) := by rw [← hv4]; exact frB_setCells X J [.int .i64 x4] 3 u4 wb (HF3b.out.trans hF) (Nat.le_of_eq HJX.out.2.symm)
            have HI4 : Hid (v4.heap[J]? = some (.cells #[.int .i64 x1, .int .i64 x2, .int .i64 x3, .int .i64 x4, .int .i64 0] 50 (0, 0))) := by
              show _ = _
              rw [← hv4]
              simp [World.setCell, Array.getElem?_modify, hI]
            have HC4b : Hid (CurS v4 X v l s4 o4) := HCb.out.turn HF4b.out (by rw [← hv4]; exact (Below.heap_setCell _ _ _ X (fun e => HJX.out.1 e.symm)).trans hC.cx) hC.hp
            have HS4b : Hid (v4.heap.size = wb.heap.size + 1) := by
              show _ = _
              rw [← hv4, World.size_setCell, hS]
              exact HS3b.out
            have j0 : u4.cell? ⟨J, 3, none⟩ = some (.int .i64 0) := by simp [World.cell?, hI]
            have jz : ∀ j, u4.frozen? ⟨J, j, none⟩ = false := fun j => by simp [World.frozen?, hI]
            clear hC hF hS hO hpp hkk hI
            go_wp2_with fail
            clear j0 jz hv4
            refine (snum_any HC4b.out).mono ?_
            rintro e u5 ⟨x5, s5, o5, rfl, hC, hF, hS, hO, hpp, hkk⟩
            have HOn5 : Hid (∀ y ys, o4 = true → On l s4 (y :: ys) → x5 = y ∧ o5 = true ∧ On l s5 ys) := hO
            have HPn5 : Hid (s4 ≤ s5 ∧ (o5 = true → o4 = true ∧ s4 < s5)) := ⟨hpp, hkk⟩
            have hI : u5.heap[J]? = some (.cells #[.int .i64 x1, .int .i64 x2, .int .i64 x3, .int .i64 x4, .int .i64 0] 50 (0, 0)) := hF.at HI4.out rfl HJX.out.1
            obtain ⟨v5, hv5⟩ : ∃ W, u5.setCell ⟨J, 4, none⟩ (.int .i64 x5) = W := ⟨_, rfl⟩
            have HF5b : Hid (FrB X wb v5) := by rw [← hv5]; exact frB_setCells X J [.int .i64 x5] 4 u5 wb (HF4b.out.trans hF) (Nat.le_of_eq HJX.out.2.symm)
            have HI5 : Hid (v5.heap[J]? = some (.cells #[.int .i64 x1, .int .i64 x2, .int .i64 x3, .int .i64 x4, .int .i64 x5] 50 (0, 0))) := by
              show _ = _
              rw [← hv5]
              simp [World.setCell, Array.getElem?_modify, hI]
            have HC5b : Hid (CurS v5 X v l s5 o5) := HCb.out.turn HF5b.out (by rw [← hv5]; exact (Below.heap_setCell _ _ _ X (fun e => HJX.out.1 e.symm)).trans hC.cx) hC.hp
            have HS5b : Hid (v5.heap.size = wb.heap.size + 1) := by
              show _ = _
              rw [← hv5, World.size_setCell, hS]
              exact HS4b.out
            have j0 : u5.cell? ⟨J, 4, none⟩ = some (.int .i64 0) := by simp [World.cell?, hI]
            have jz : ∀ j, u5.frozen? ⟨J, j, none⟩ = false := fun j => by simp [World.frozen?, hI]
            clear hC hF hS hO hpp hkk hI
            have hs6 := HS5b.out
            have i0 : v5.cell? ⟨J, 0, none⟩ = some (.int .i64 x1) := by simp [World.cell?, HI5.out]
            have i1 : v5.cell? ⟨J, 1, none⟩ = some (.int .i64 x2) := by simp [World.cell?, HI5.out]
            have i2 : v5.cell? ⟨J, 2, none⟩ = some (.int .i64 x3) := by simp [World.cell?, HI5.out]
            have i3 : v5.cell? ⟨J, 3, none⟩ = some (.int .i64 x4) := by simp [World.cell?, HI5.out]
            have i4 : v5.cell? ⟨J, 4, none⟩ = some (.int .i64 x5) := by simp [World.cell?, HI5.out]
            have HCy : Hid (CurS v5 X v l s5 o5) := HC5b.out
            have hB6 : v5.heap[B]? = some (.cells #[pv, lv, .int .i64 0, .int .i64 0, .int .i64 0, .int .i64 0] 46 (0, 0)) := HF5b.out.at HBb.out rfl HNE.out.2.1
            have hR6 : v5.heap[R]? = some (.cells #[.slice none 0 0, .slice none 0 0, .int .i64 0, .int .i64 0, .int .i64 0, .int .i64 0] 46 (0, 0)) := HF5b.out.at HRb.out rfl HNE.out.1
            have b1 : v5.cell? ⟨B, 1, none⟩ = some lv := by simp [World.cell?, hB6]
            have hBs : B < wq.heap.size := (Array.getElem?_eq_some_iff.1 HBq.out).1
            have hRs : R < wq.heap.size := (Array.getElem?_eq_some_iff.1 HRq.out).1
            have hws := HWb.out
            have hwA : Below v5.heap.size v5 (v5.alloc (.cells #[.int .i64 x1, .int .i64 x2, .int .i64 x3, .int .i64 x4, .int .i64 x5] 50)) := Bel.alloc _ _
            have hwAs := hwA.size
            have hVA := HVb.out.keep (w' := v5.alloc (.cells #[.int .i64 x1, .int .i64 x2, .int .i64 x3, .int .i64 x4, .int .i64 x5] 50)) (fun b h0 h1 _ => (hwA.block b (by omega)).trans (HF5b.out.block b h1 (by have := HXw.out; omega))) (by omega)
            have hci : ci.length ≤ l.length + 1 := by rw [HJ.out]; exact HFrb.out.le HCb.out.hp
            have hl9 := HCb.out.hl
            obtain ⟨lv', v7, hrun, hV7, hg7⟩ := hVA.push (t := 42) (z := .agg #[.int .i64 0, .int .i64 0, .int .i64 0, .int .i64 0, .int .i64 0]) (bytes := 40) Tryd.underlying42 (by kernel_rfl) rfl (by decide) (by decide) (by omega) (by omega) (fun b hb => hb.elim) ⟨v5.heap.size, 0, none⟩ [.int .i64 x1, .int .i64 x2, .int .i64 x3, .int .i64 x4, .int .i64 x5] rfl (fun j u hu => cells_newS _ _ _ j u hu) (by
              intro u hu
              simp at hu
              rcases hu with rfl | rfl | rfl | rfl | rfl <;> rfl) ⟨x1, x2, x3, x4, x5⟩ (fun _ _ => rfl)
            obtain ⟨pa7, pc7, hav7⟩ := hV7.form
            rw [List.length_append, List.length_singleton, HJ.out] at hav7
            subst hav7
            have HV7 : Hid (RowK 50 5 GIns v7 wq.heap.size (fun _ => False) (.slice pa7 (ji + 1) pc7) (ci ++ [⟨x1, x2, x3, x4, x5⟩])) := hV7
            have HG7 : Hid ((v5.alloc (.cells #[.int .i64 x1, .int .i64 x2, .int .i64 x3, .int .i64 x4, .int .i64 x5] 50)).grownBy v7 lv.ownBlock) := hg7
            have HB7 : Hid (v7.heap[B]? = some (.cells #[pv, lv, .int .i64 0, .int .i64 0, .int .i64 0, .int .i64 0] 46 (0, 0))) := (hg7.block B (by omega) (fun e => by have := (HVb.out.lt B e.symm).1; omega)).trans ((hwA.block B (by omega)).trans hB6)
            have HR7 : Hid (v7.heap[R]? = some (.cells #[.slice none 0 0, .slice none 0 0, .int .i64 0, .int .i64 0, .int .i64 0, .int .i64 0] 46 (0, 0))) := (hg7.block R (by omega) (fun e => by have := (HVb.out.lt R e.symm).1; omega)).trans ((hwA.block R (by omega)).trans hR6)
            have HX7 : Hid (v7.heap[X]? = v5.heap[X]?) := (hg7.block X (by have := HCy.out.lt; omega) (fun e => by have := (HVb.out.lt X e.symm).1; have := HXw.out; omega)).trans (hwA.block X HCy.out.lt)
            have g1 : v7.cell? ⟨B, 1, none⟩ = some lv := by simp [World.cell?, HB7.out]
            have gz : ∀ j, v7.frozen? ⟨B, j, none⟩ = false := fun j => by simp [World.frozen?, HB7.out]
            have HRest : Hid (B < wq.heap.size ∧ R < wq.heap.size ∧ wq.heap.size ≤ wb.heap.size ∧ wb.heap.size < v5.heap.size ∧ v5.heap.size ≤ (v5.alloc (.cells #[.int .i64 x1, .int .i64 x2, .int .i64 x3, .int .i64 x4, .int .i64 x5] 50)).heap.size ∧ (v5.alloc (.cells #[.int .i64 x1, .int .i64 x2, .int .i64 x3, .int .i64 x4, .int .i64 x5] 50)).heap.size ≤ v7.heap.size) := ⟨hBs, hRs, hws, by omega, hwAs, hg7.size⟩
            clear hVA hV7 hg7 hwA hci hl9 hB6 hR6 hs6 hws hwAs hBs hRs
            go_wp2_with (at_builtin; refine wpList_appendR rfl _ _ 42 rfl rfl rfl hrun ?_)
            have hR8 := HRest.out
            have hnl : ∀ j, lv.ownBlock = some j → wq.heap.size ≤ j := fun j e => (HVb.out.lt j e).1
            have hwq := HFq.out.size
            have hF8 : FrB X w (v7.setCell ⟨B, 1, none⟩ (.slice pa7 (ji + 1) pc7)) := frB_setCells X B [.slice pa7 (ji + 1) pc7] 1 v7 w (frB_grown (frB_alloc (HFb.out.trans HF5b.out) _) HG7.out (fun j e => by have := hnl j e; omega)) (by have := HRR.out; have := HBD.out; omega)
            have hC8 : CurS (v7.setCell ⟨B, 1, none⟩ (.slice pa7 (ji + 1) pc7)) X v l s5 o5 := HC.out.turn hF8 ((Below.heap_setCell _ _ _ X (fun e => HNE.out.2.1 e.symm)).trans (HX7.out.trans HCy.out.cx)) HCy.out.hp
            have hqq : q2 ≤ s5 := Nat.le_trans HPn1.out.1 (Nat.le_trans HPn2.out.1 (Nat.le_trans HPn3.out.1 (Nat.le_trans HPn4.out.1 HPn5.out.1)))
            have hoo : o5 = true → o1 = true ∧ s1 ≤ s5 := fun h => by
              have h4 := HPn5.out.2 h
              have h3 := HPn4.out.2 h4.1
              have h2 := HPn3.out.2 h3.1
              have h1 := HPn2.out.2 h2.1
              exact ⟨h1.1, by omega⟩
            have hql : o5 = true → q2 < s5 := fun h => by
              have h9 := hoo h
              have h8 := HPn1.out.2 h9.1
              omega
            have hkl : ji ≤ l.length := by
              rcases HFrb.out with h | ⟨h, _⟩
              · exact Nat.le_trans h HCb.out.hp
              · cases h
            refine ⟨⟨ci ++ [⟨x1, x2, x3, x4, x5⟩], .slice pa7 (ji + 1) pc7, s5, o5, by simp [HJ.out], hC8, hF8, ?_, fun b h0 h1 h2 => ?_, by simp [World.setCell, Array.getElem?_modify, HB7.out], (Below.heap_setCell _ _ _ R HNE.out.2.2).trans HR7.out, HV7.out.keep (fun b hb0 _ _ => Below.heap_setCell _ _ _ b (fun e => by have e2 : b = B := e; omega)) (by simp), ?_, HSb.out.step (by rw [HJ.out]; exact hltj) (fun y0 ys _ ho => ?_), Nat.le_trans HQb.out.1 hqq, fun _ => HQb.out.2 (by simp)⟩, by simp [intOf]; omega⟩
            · have h4 : (v7.setCell ⟨B, 1, none⟩ (.slice pa7 (ji + 1) pc7)).heap.size = v7.heap.size := by simp
              omega
            · refine (Below.heap_setCell _ _ _ b (fun e => h2 (.inl e))).trans ((HG7.out.block b (by omega) (fun e => by have := hnl b e.symm; omega)).trans ((Below.heap_alloc _ _ _ (by omega)).trans ((HF5b.out.block b (by omega) (by have := HXw.out; omega)).trans (HKb.out b h0 h1 h2))))
            · rw [List.length_append, List.length_singleton, HJ.out]
              exact HFrb.out.step hqq hql
            · obtain ⟨e1, c1, r1⟩ := HOn1.out y0.op (y0.d :: y0.a :: y0.b :: y0.n :: ys) (by simp) ho
              obtain ⟨e2, c2, r2⟩ := HOn2.out y0.d (y0.a :: y0.b :: y0.n :: ys) c1 r1
              obtain ⟨e3, c3, r3⟩ := HOn3.out y0.a (y0.b :: y0.n :: ys) c2 r2
              obtain ⟨e4, c4, r4⟩ := HOn4.out y0.b (y0.n :: ys) c3 r3
              obtain ⟨e5, c5, r5⟩ := HOn5.out y0.n ys c4 r4
              exact ⟨by rw [e1, e2, e3, e4, e5], c5, r5⟩
          | false =>
            go_wp2_with fail
            have hexi : false = true → ¬ (ci.length : Int) < n2 := fun h => by cases h
            have HWi : Hid (∀ (L : List InsD) ys, ok' = true → On l q ((L.length : Int) :: (L.flatMap insN1 ++ ys)) → ci = L ∧ false = true ∧ On l q2 ys) := HSb.out.whole hexi
            have HCI : Hid (ci.length ≤ l.length + 1) := by
              show _ ≤ _
              rw [HJ.out]
              exact HFrb.out.le HCb.out.hp
            have HWB : Hid (w.heap.size ≤ B ∧ B < wq.heap.size ∧ R < wq.heap.size) := ⟨by have := HRR.out; have := HBD.out; omega, (Array.getElem?_eq_some_iff.1 HBq.out).1, (Array.getElem?_eq_some_iff.1 HRq.out).1⟩
            obtain ⟨ppa, ppc, hpv⟩ := HVq.out.form
            obtain ⟨lla, llc, hlv⟩ := HVb.out.form
            subst hpv hlv
            clear hexi x2
            have HKt0 : Hid (∀ b, R ≤ b → b < wb.heap.size → b ≠ B → b ≠ R → wb.heap[b]? = wb.heap[b]?) := fun _ _ _ _ _ => rfl
            have HZt0 : Hid (wb.heap.size ≤ wb.heap.size) := Nat.le_refl _
            refine (snum_any HCb.out).mono ?_
            rintro e u1 ⟨y1, s1, o1, rfl, hC, hF, hS, hO, hpp, hkk⟩
            have HOt1 : Hid (∀ y ys, false = true → On l q2 (y :: ys) → y1 = y ∧ o1 = true ∧ On l s1 ys) := hO
            have HPt1 : Hid (q2 ≤ s1 ∧ (o1 = true → false = true ∧ q2 < s1)) := ⟨hpp, hkk⟩
            have hB : u1.heap[B]? = some (.cells #[.slice ppa cur.length ppc, .slice lla ci.length llc, .int .i64 0, .int .i64 0, .int .i64 0, .int .i64 0] 46 (0, 0)) := hF.at HBb.out rfl HNE.out.2.1
            obtain ⟨v1, hv1⟩ : ∃ W, u1.setCell ⟨B, 2, none⟩ (.int .i64 y1) = W := ⟨_, rfl⟩
            have HFt1 : Hid (FrB X w v1) := by rw [← hv1]; exact frB_setCells X B [.int .i64 y1] 2 u1 w (HFb.out.trans hF) HWB.out.1
            have HBt1 : Hid (v1.heap[B]? = some (.cells #[.slice ppa cur.length ppc, .slice lla ci.length llc, .int .i64 y1, .int .i64 0, .int .i64 0, .int .i64 0] 46 (0, 0))) := by
              show _ = _
              rw [← hv1]
              simp [World.setCell, Array.getElem?_modify, hB]
            have HRt1 : Hid (v1.heap[R]? = some (.cells #[.slice none 0 0, .slice none 0 0, .int .i64 0, .int .i64 0, .int .i64 0, .int .i64 0] 46 (0, 0))) := by rw [← hv1]; exact (Below.heap_setCell _ _ _ R HNE.out.2.2).trans (hF.at HRb.out rfl HNE.out.1)
            have HKt1 : Hid (∀ b, R ≤ b → b < wb.heap.size → b ≠ B → b ≠ R → v1.heap[b]? = wb.heap[b]?) := fun b h0 h1 h2 h3 => by rw [← hv1]; exact (Below.heap_setCell _ _ _ b h2).trans ((hF.block b (Nat.lt_of_lt_of_le h1 HZt0.out) (by have := HXw.out; omega)).trans (HKt0.out b h0 h1 h2 h3))
            have HZt1 : Hid (wb.heap.size ≤ v1.heap.size) := by
              show _ ≤ _
              rw [← hv1, World.size_setCell, hS]
              exact HZt0.out
            have HCt1 : Hid (CurS v1 X v l s1 o1) := HC.out.turn HFt1.out (by rw [← hv1]; exact (Below.heap_setCell _ _ _ X (fun e => HNE.out.2.1 e.symm)).trans hC.cx) hC.hp
            have j0 : u1.cell? ⟨B, 2, none⟩ = some (.int .i64 0) := by simp [World.cell?, hB]
            have jz : ∀ j, u1.frozen? ⟨B, j, none⟩ = false := fun j => by simp [World.frozen?, hB]
            clear hC hF hS hO hpp hkk hB
            go_wp2_with fail
            clear j0 jz hv1
            refine (snum_any HCt1.out).mono ?_
            rintro e u2 ⟨y2, s2, o2, rfl, hC, hF, hS, hO, hpp, hkk⟩
            have HOt2 : Hid (∀ y ys, o1 = true → On l s1 (y :: ys) → y2 = y ∧ o2 = true ∧ On l s2 ys) := hO
            have HPt2 : Hid (s1 ≤ s2 ∧ (o2 = true → o1 = true ∧ s1 < s2)) := ⟨hpp, hkk⟩
            have hB : u2.heap[B]? = some (.cells #[.slice ppa cur.length ppc, .slice lla ci.length llc, .int .i64 y1, .int .i64 0, .int .i64 0, .int .i64 0] 46 (0, 0)) := hF.at HBt1.out rfl HNE.out.2.1
            obtain ⟨v2, hv2⟩ : ∃ W, u2.setCell ⟨B, 3, none⟩ (.int .i64 y2) = W := ⟨_, rfl⟩
            have HFt2 : Hid (FrB X w v2) := by rw [← hv2]; exact frB_setCells X B [.int .i64 y2] 3 u2 w (HFt1.out.trans hF) HWB.out.1
            have HBt2 : Hid (v2.heap[B]? = some (.cells #[.slice ppa cur.length ppc, .slice lla ci.length llc, .int .i64 y1, .int .i64 y2, .int .i64 0, .int .i64 0] 46 (0, 0))) := by
              show _ = _
              rw [← hv2]
              simp [World.setCell, Array.getElem?_modify, hB]
            have HRt2 : Hid (v2.heap[R]? = some (.cells #[.slice none 0 0, .slice none 0 0, .int .i64 0, .int .i64 0, .int .i64 0, .int .i64 0] 46 (0, 0))) := by rw [← hv2]; exact (Below.heap_setCell _ _ _ R HNE.out.2.2).trans (hF.at HRt1.out rfl HNE.out.1)
            have HKt2 : Hid (∀ b, R ≤ b → b < wb.heap.size → b ≠ B → b ≠ R → v2.heap[b]? = wb.heap[b]?) := fun b h0 h1 h2 h3 => by rw [← hv2]; exact (Below.heap_setCell _ _ _ b h2).trans ((hF.block b (Nat.lt_of_lt_of_le h1 HZt1.out) (by have := HXw.out; omega)).trans (HKt1.out b h0 h1 h2 h3))
            have HZt2 : Hid (wb.heap.size ≤ v2.heap.size) := by
              show _ ≤ _
              rw [← hv2, World.size_setCell, hS]
              exact HZt1.out
            have HCt2 : Hid (CurS v2 X v l s2 o2) := HC.out.turn HFt2.out (by rw [← hv2]; exact (Below.heap_setCell _ _ _ X (fun e => HNE.out.2.1 e.symm)).trans hC.cx) hC.hp
            have j0 : u2.cell? ⟨B, 3, none⟩ = some (.int .i64 0) := by simp [World.cell?, hB]
            have jz : ∀ j, u2.frozen? ⟨B, j, none⟩ = false := fun j => by simp [World.frozen?, hB]
            clear hC hF hS hO hpp hkk hB
            go_wp2_with fail
            clear j0 jz hv2
            refine (snum_any HCt2.out).mono ?_
            rintro e u3 ⟨y3, s3, o3, rfl, hC, hF, hS, hO, hpp, hkk⟩
            have HOt3 : Hid (∀ y ys, o2 = true → On l s2 (y :: ys) → y3 = y ∧ o3 = true ∧ On l s3 ys) := hO
            have HPt3 : Hid (s2 ≤ s3 ∧ (o3 = true → o2 = true ∧ s2 < s3)) := ⟨hpp, hkk⟩
            have hB : u3.heap[B]? = some (.cells #[.slice ppa cur.length ppc, .slice lla ci.length llc, .int .i64 y1, .int .i64 y2, .int .i64 0, .int .i64 0] 46 (0, 0)) := hF.at HBt2.out rfl HNE.out.2.1
            obtain ⟨v3, hv3⟩ : ∃ W, u3.setCell ⟨B, 4, none⟩ (.int .i64 y3) = W := ⟨_, rfl⟩
            have HFt3 : Hid (FrB X w v3) := by rw [← hv3]; exact frB_setCells X B [.int .i64 y3] 4 u3 w (HFt2.out.trans hF) HWB.out.1
            have HBt3 : Hid (v3.heap[B]? = some (.cells #[.slice ppa cur.length ppc, .slice lla ci.length llc, .int .i64 y1, .int .i64 y2, .int .i64 y3, .int .i64 0] 46 (0, 0))) := by
              show _ = _
              rw [← hv3]
              simp [World.setCell, Array.getElem?_modify, hB]
            have HRt3 : Hid (v3.heap[R]? = some (.cells #[.slice none 0 0, .slice none 0 0, .int .i64 0, .int .i64 0, .int .i64 0, .int .i64 0] 46 (0, 0))) := by rw [← hv3]; exact (Below.heap_setCell _ _ _ R HNE.out.2.2).trans (hF.at HRt2.out rfl HNE.out.1)
            have HKt3 : Hid (∀ b, R ≤ b → b < wb.heap.size → b ≠ B → b ≠ R → v3.heap[b]? = wb.heap[b]?) := fun b h0 h1 h2 h3 => by rw [← hv3]; exact (Below.heap_setCell _ _ _ b h2).trans ((hF.block b (Nat.lt_of_lt_of_le h1 HZt2.out) (by have := HXw.out; omega)).trans (HKt2.out b h0 h1 h2 h3))
            have HZt3 : Hid (wb.heap.size ≤ v3.heap.size) := by
              show _ ≤ _
              rw [← hv3, World.size_setCell, hS]
              exact HZt2.out
            have HCt3 : Hid (CurS v3 X v l s3 o3) := HC.out.turn HFt3.out (by rw [← hv3]; exact (Below.heap_setCell _ _ _ X (fun e => HNE.out.2.1 e.symm)).trans hC.cx) hC.hp
            have j0 : u3.cell? ⟨B, 4, none⟩ = some (.int .i64 0) := by simp [World.cell?, hB]
            have jz : ∀ j, u3.frozen? ⟨B, j, none⟩ = false := fun j => by simp [World.frozen?, hB]
            clear hC hF hS hO hpp hkk hB
            go_wp2_with fail
            clear j0 jz hv3
            refine (snum_any HCt3.out).mono ?_
            rintro e u4 ⟨y4, s4, o4, rfl, hC, hF, hS, hO, hpp, hkk⟩
            have HOt4 : Hid (∀ y ys, o3 = true → On l s3 (y :: ys) → y4 = y ∧ o4 = true ∧ On l s4 ys) := hO
            have HPt4 : Hid (s3 ≤ s4 ∧ (o4 = true → o3 = true ∧ s3 < s4)) := ⟨hpp, hkk⟩
            have hB : u4.heap[B]? = some (.cells #[.slice ppa cur.length ppc, .slice lla ci.length llc, .int .i64 y1, .int .i64 y2, .int .i64 y3, .int .i64 0] 46 (0, 0)) := hF.at HBt3.out rfl HNE.out.2.1
            obtain ⟨v4, hv4⟩ : ∃ W, u4.setCell ⟨B, 5, none⟩ (.int .i64 y4) = W := ⟨_, rfl⟩
            have HFt4 : Hid (FrB X w v4) := by rw [← hv4]; exact frB_setCells X B [.int .i64 y4] 5 u4 w (HFt3.out.trans hF) HWB.out.1
            have HBt4 : Hid (v4.heap[B]? = some (.cells #[.slice ppa cur.length ppc, .slice lla ci.length llc, .int .i64 y1, .int .i64 y2, .int .i64 y3, .int .i64 y4] 46 (0, 0))) := by
              show _ = _
              rw [← hv4]
              simp [World.setCell, Array.getElem?_modify, hB]
            have HRt4 : Hid (v4.heap[R]? = some (.cells #[.slice none 0 0, .slice none 0 0, .int .i64 0, .int .i64 0, .int .i64 0, .int .i64 0] 46 (0, 0))) := by rw [← hv4]; exact (Below.heap_setCell _ _ _ R HNE.out.2.2).trans (hF.at HRt3.out rfl HNE.out.1)
            have HKt4 : Hid (∀ b, R ≤ b → b < wb.heap.size → b ≠ B → b ≠ R → v4.heap[b]? = wb.heap[b]?) := fun b h0 h1 h2 h3 => by rw [← hv4]; exact (Below.heap_setCell _ _ _ b h2).trans ((hF.block b (Nat.lt_of_lt_of_le h1 HZt3.out) (by have := HXw.out; omega)).trans (HKt3.out b h0 h1 h2 h3))
            have HZt4 : Hid (wb.heap.size ≤ v4.heap.size) := by
              show _ ≤ _
              rw [← hv4, World.size_setCell, hS]
              exact HZt3.out
            have HCt4 : Hid (CurS v4 X v l s4 o4) := HC.out.turn HFt4.out (by rw [← hv4]; exact (Below.heap_setCell _ _ _ X (fun e => HNE.out.2.1 e.symm)).trans hC.cx) hC.hp
            have j0 : u4.cell? ⟨B, 5, none⟩ = some (.int .i64 0) := by simp [World.cell?, hB]
            have jz : ∀ j, u4.frozen? ⟨B, j, none⟩ = false := fun j => by simp [World.frozen?, hB]
            clear hC hF hS hO hpp hkk hB
            have b0 : v4.cell? ⟨B, 0, none⟩ = some (.slice ppa cur.length ppc) := by simp [World.cell?, HBt4.out]
            have b1 : v4.cell? ⟨B, 1, none⟩ = some (.slice lla ci.length llc) := by simp [World.cell?, HBt4.out]
            have b2 : v4.cell? ⟨B, 2, none⟩ = some (.int .i64 y1) := by simp [World.cell?, HBt4.out]
            have b3 : v4.cell? ⟨B, 3, none⟩ = some (.int .i64 y2) := by simp [World.cell?, HBt4.out]
            have b4 : v4.cell? ⟨B, 4, none⟩ = some (.int .i64 y3) := by simp [World.cell?, HBt4.out]
            have b5 : v4.cell? ⟨B, 5, none⟩ = some (.int .i64 y4) := by simp [World.cell?, HBt4.out]
            have r0 : v4.cell? ⟨R, 0, none⟩ = some (.slice none 0 0) := by simp [World.cell?, HRt4.out]
            have r1 : v4.cell? ⟨R, 1, none⟩ = some (.slice none 0 0) := by simp [World.cell?, HRt4.out]
            have r2 : v4.cell? ⟨R, 2, none⟩ = some (.int .i64 0) := by simp [World.cell?, HRt4.out]
            have r3 : v4.cell? ⟨R, 3, none⟩ = some (.int .i64 0) := by simp [World.cell?, HRt4.out]
            have r4 : v4.cell? ⟨R, 4, none⟩ = some (.int .i64 0) := by simp [World.cell?, HRt4.out]
            have r5 : v4.cell? ⟨R, 5, none⟩ = some (.int .i64 0) := by simp [World.cell?, HRt4.out]
            have rz : ∀ j, v4.frozen? ⟨R, j, none⟩ = false := fun j => by simp [World.frozen?, HRt4.out]
            go_wp2_with fail
            refine bodyPost_ret (v := .agg #[.slice ppa cur.length ppc, .slice lla ci.length llc, .int .i64 y1, .int .i64 y2, .int .i64 y3, .int .i64 y4]) (by simp [results, Tryd.results36, go_sem, r0, r1, r2, r3, r4, r5]) rfl ?_
            have hF9 : FrB X w (v4.setCells R 0 [.slice ppa cur.length ppc, .slice lla ci.length llc, .int .i64 y1, .int .i64 y2, .int .i64 y3, .int .i64 y4]) := frB_setCells X R [.slice ppa cur.length ppc, .slice lla ci.length llc, .int .i64 y1, .int .i64 y2, .int .i64 y3, .int .i64 y4] 0 v4 w HFt4.out (Nat.le_of_eq HRR.out)
            have hC9 : CurS (v4.setCells R 0 [.slice ppa cur.length ppc, .slice lla ci.length llc, .int .i64 y1, .int .i64 y2, .int .i64 y3, .int .i64 y4]) X v l s4 o4 := HC.out.turn hF9 ((heap_setCells R (fun e => HNE.out.1 e.symm) _ _ v4).trans HCt4.out.cx) HCt4.out.hp
            have hz9 := size_setCells R [.slice ppa cur.length ppc, .slice lla ci.length llc, .int .i64 y1, .int .i64 y2, .int .i64 y3, .int .i64 y4] 0 v4
            have ho9 : ∀ b, b ≠ R → (v4.setCells R 0 [.slice ppa cur.length ppc, .slice lla ci.length llc, .int .i64 y1, .int .i64 y2, .int .i64 y3, .int .i64 y4]).heap[b]? = v4.heap[b]? := fun b hb => heap_setCells R hb _ _ v4
            have hl9 := HCt4.out.hl
            have hcl := HCL.out
            have hci := HCI.out
            have hzt := HZt4.out
            have hwb := HWB.out
            have hwq := HWb.out
            have hrr := HRR.out
            have hlow : p ≤ s4 ∧ (o4 = true → ok = true ∧ p < s4) := by
              have h1 := HPt1.out.1
              have h2 := HPt2.out.1
              have h3 := HPt3.out.1
              have h4 := HPt4.out.1
              have h5 := HQb.out.1
              have h6 := HP2.out.1
              have h7 := HPq.out.1
              refine ⟨by omega, fun h => ?_⟩
              have k4 := HPt4.out.2 h
              have k3 := HPt3.out.2 k4.1
              have k2 := HPt2.out.2 k3.1
              have k1 := HPt1.out.2 k2.1
              have k0 := HQb.out.2 k1.1
              have kq := HP2.out.2 k0
              have kp := HPq.out.2 kq.1
              exact ⟨kp.1, by omega⟩
            refine ⟨⟨cur, ci, ⟨y1, y2, y3, y4⟩⟩, _, _, s4, o4, rfl, hC9, hF9, fun w9 hsz hw9 => ?_, fun y0 ys hok ho => ?_, hlow⟩
            · have hb9 : ∀ b, R ≤ b → b < wb.heap.size → b ≠ B → b ≠ R → w9.heap[b]? = wb.heap[b]? := fun b h0 h1 h2 h3 => (hw9 b (by show b < (v4.setCells R 0 [.slice ppa cur.length ppc, .slice lla ci.length llc, .int .i64 y1, .int .i64 y2, .int .i64 y3, .int .i64 y4]).heap.size; rw [hz9]; omega) (by omega)).trans ((ho9 b h3).trans (HKt4.out b h0 h1 h2 h3))
              refine ⟨_, _, rfl, phis_read HVq.out (show cur.length ≤ 1100000 by omega) (fun b h0 h1 h2 => ?_) ?_, ins_read HVb.out (show ci.length ≤ 1100000 by omega) (fun g hg => ?_)⟩
              · exact (hb9 b h0 (by omega) (fun e => h2 (.inl e)) (fun e => h2 (.inr e))).trans (HKb.out b h0 h1 h2)
              · have h9 : (v4.setCells R 0 [.slice ppa cur.length ppc, .slice lla ci.length llc, .int .i64 y1, .int .i64 y2, .int .i64 y3, .int .i64 y4]).heap.size ≤ w9.heap.size := hsz
                omega
              · obtain ⟨g1, g2⟩ := HVb.out.lt g hg
                exact hb9 g (by omega) g2 (by omega) (by omega)
            · have ho1 : On l p ((y0.phis.length : Int) :: (y0.phis.flatMap phiN ++ ((y0.list.length : Int) :: (y0.list.flatMap insN1 ++ (y0.term.k :: y0.term.a :: y0.term.t :: y0.term.e :: ys))))) := by
                have e : blockN y0 ++ ys = (y0.phis.length : Int) :: (y0.phis.flatMap phiN ++ ((y0.list.length : Int) :: (y0.list.flatMap insN1 ++ (y0.term.k :: y0.term.a :: y0.term.t :: y0.term.e :: ys)))) := by
                  simp [blockN, phisN, insN]
                  rfl
                rw [← e]
                exact ho
              obtain ⟨e1, c1, r1⟩ := HW.out y0.phis _ hok ho1
              obtain ⟨e2, c2, r2⟩ := HWi.out y0.list _ c1 r1
              obtain ⟨e3, c3, r3⟩ := HOt1.out _ _ c2 r2
              obtain ⟨e4, c4, r4⟩ := HOt2.out _ _ c3 r3
              obtain ⟨e5, c5, r5⟩ := HOt3.out _ _ c4 r4
              obtain ⟨e6, c6, r6⟩ := HOt4.out _ _ c5 r5
              refine ⟨?_, c6, r6⟩
              obtain ⟨yp, yl, yk, ya, yt, ye⟩ := y0
              simp at e1 e2 e3 e4 e5 e6
              rw [e1, e2, e3, e4, e5, e6]
        · go_wp2_with fail
          have hexi : ok4 = true → ¬ (ci.length : Int) < n2 := fun _ => by rw [HJ.out]; omega
          have HWi : Hid (∀ (L : List InsD) ys, ok' = true → On l q ((L.length : Int) :: (L.flatMap insN1 ++ ys)) → ci = L ∧ ok4 = true ∧ On l q2 ys) := HSb.out.whole hexi
          have HCI : Hid (ci.length ≤ l.length + 1) := by
            show _ ≤ _
            rw [HJ.out]
            exact HFrb.out.le HCb.out.hp
          have HWB : Hid (w.heap.size ≤ B ∧ B < wq.heap.size ∧ R < wq.heap.size) := ⟨by have := HRR.out; have := HBD.out; omega, (Array.getElem?_eq_some_iff.1 HBq.out).1, (Array.getElem?_eq_some_iff.1 HRq.out).1⟩
          obtain ⟨ppa, ppc, hpv⟩ := HVq.out.form
          obtain ⟨lla, llc, hlv⟩ := HVb.out.form
          subst hpv hlv
          clear hexi x2
          have HKt0 : Hid (∀ b, R ≤ b → b < wb.heap.size → b ≠ B → b ≠ R → wb.heap[b]? = wb.heap[b]?) := fun _ _ _ _ _ => rfl
          have HZt0 : Hid (wb.heap.size ≤ wb.heap.size) := Nat.le_refl _
          refine (snum_any HCb.out).mono ?_
          rintro e u1 ⟨y1, s1, o1, rfl, hC, hF, hS, hO, hpp, hkk⟩
          have HOt1 : Hid (∀ y ys, ok4 = true → On l q2 (y :: ys) → y1 = y ∧ o1 = true ∧ On l s1 ys) := hO
          have HPt1 : Hid (q2 ≤ s1 ∧ (o1 = true → ok4 = true ∧ q2 < s1)) := ⟨hpp, hkk⟩
          have hB : u1.heap[B]? = some (.cells #[.slice ppa cur.length ppc, .slice lla ci.length llc, .int .i64 0, .int .i64 0, .int .i64 0, .int .i64 0] 46 (0, 0)) := hF.at HBb.out rfl HNE.out.2.1
          obtain ⟨v1, hv1⟩ : ∃ W, u1.setCell ⟨B, 2, none⟩ (.int .i64 y1) = W := ⟨_, rfl⟩
          have HFt1 : Hid (FrB X w v1) := by rw [← hv1]; exact frB_setCells X B [.int .i64 y1] 2 u1 w (HFb.out.trans hF) HWB.out.1
          have HBt1 : Hid (v1.heap[B]? = some (.cells #[.slice ppa cur.length ppc, .slice lla ci.length llc, .int .i64 y1, .int .i64 0, .int .i64 0, .int .i64 0] 46 (0, 0))) := by
            show _ = _
            rw [← hv1]
            simp [World.setCell, Array.getElem?_modify, hB]
          have HRt1 : Hid (v1.heap[R]? = some (.cells #[.slice none 0 0, .slice none 0 0, .int .i64 0, .int .i64 0, .int .i64 0, .int .i64 0] 46 (0, 0))) := by rw [← hv1]; exact (Below.heap_setCell _ _ _ R HNE.out.2.2).trans (hF.at HRb.out rfl HNE.out.1)
          have HKt1 : Hid (∀ b, R ≤ b → b < wb.heap.size → b ≠ B → b ≠ R → v1.heap[b]? = wb.heap[b]?) := fun b h0 h1 h2 h3 => by rw [← hv1]; exact (Below.heap_setCell _ _ _ b h2).trans ((hF.block b (Nat.lt_of_lt_of_le h1 HZt0.out) (by have := HXw.out; omega)).trans (HKt0.out b h0 h1 h2 h3))
          have HZt1 : Hid (wb.heap.size ≤ v1.heap.size) := by
            show _ ≤ _
            rw [← hv1, World.size_setCell, hS]
            exact HZt0.out
          have HCt1 : Hid (CurS v1 X v l s1 o1) := HC.out.turn HFt1.out (by rw [← hv1]; exact (Below.heap_setCell _ _ _ X (fun e => HNE.out.2.1 e.symm)).trans hC.cx) hC.hp
          have j0 : u1.cell? ⟨B, 2, none⟩ = some (.int .i64 0) := by simp [World.cell?, hB]
          have jz : ∀ j, u1.frozen? ⟨B, j, none⟩ = false := fun j => by simp [World.frozen?, hB]
          clear hC hF hS hO hpp hkk hB
          go_wp2_with fail
          clear j0 jz hv1
          refine (snum_any HCt1.out).mono ?_
          rintro e u2 ⟨y2, s2, o2, rfl, hC, hF, hS, hO, hpp, hkk⟩
          have HOt2 : Hid (∀ y ys, o1 = true → On l s1 (y :: ys) → y2 = y ∧ o2 = true ∧ On l s2 ys) := hO
          have HPt2 : Hid (s1 ≤ s2 ∧ (o2 = true → o1 = true ∧ s1 < s2)) := ⟨hpp, hkk⟩
          have hB : u2.heap[B]? = some (.cells #[.slice ppa cur.length ppc, .slice lla ci.length llc, .int .i64 y1, .int .i64 0, .int .i64 0, .int .i64 0] 46 (0, 0)) := hF.at HBt1.out rfl HNE.out.2.1
          obtain ⟨v2, hv2⟩ : ∃ W, u2.setCell ⟨B, 3, none⟩ (.int .i64 y2) = W := ⟨_, rfl⟩
          have HFt2 : Hid (FrB X w v2) := by rw [← hv2]; exact frB_setCells X B [.int .i64 y2] 3 u2 w (HFt1.out.trans hF) HWB.out.1
          have HBt2 : Hid (v2.heap[B]? = some (.cells #[.slice ppa cur.length ppc, .slice lla ci.length llc, .int .i64 y1, .int .i64 y2, .int .i64 0, .int .i64 0] 46 (0, 0))) := by
            show _ = _
            rw [← hv2]
            simp [World.setCell, Array.getElem?_modify, hB]
          have HRt2 : Hid (v2.heap[R]? = some (.cells #[.slice none 0 0, .slice none 0 0, .int .i64 0, .int .i64 0, .int .i64 0, .int .i64 0] 46 (0, 0))) := by rw [← hv2]; exact (Below.heap_setCell _ _ _ R HNE.out.2.2).trans (hF.at HRt1.out rfl HNE.out.1)
          have HKt2 : Hid (∀ b, R ≤ b → b < wb.heap.size → b ≠ B → b ≠ R → v2.heap[b]? = wb.heap[b]?) := fun b h0 h1 h2 h3 => by rw [← hv2]; exact (Below.heap_setCell _ _ _ b h2).trans ((hF.block b (Nat.lt_of_lt_of_le h1 HZt1.out) (by have := HXw.out; omega)).trans (HKt1.out b h0 h1 h2 h3))
          have HZt2 : Hid (wb.heap.size ≤ v2.heap.size) := by
            show _ ≤ _
            rw [← hv2, World.size_setCell, hS]
            exact HZt1.out
          have HCt2 : Hid (CurS v2 X v l s2 o2) := HC.out.turn HFt2.out (by rw [← hv2]; exact (Below.heap_setCell _ _ _ X (fun e => HNE.out.2.1 e.symm)).trans hC.cx) hC.hp
          have j0 : u2.cell? ⟨B, 3, none⟩ = some (.int .i64 0) := by simp [World.cell?, hB]
          have jz : ∀ j, u2.frozen? ⟨B, j, none⟩ = false := fun j => by simp [World.frozen?, hB]
          clear hC hF hS hO hpp hkk hB
          go_wp2_with fail
          clear j0 jz hv2
          refine (snum_any HCt2.out).mono ?_
          rintro e u3 ⟨y3, s3, o3, rfl, hC, hF, hS, hO, hpp, hkk⟩
          have HOt3 : Hid (∀ y ys, o2 = true → On l s2 (y :: ys) → y3 = y ∧ o3 = true ∧ On l s3 ys) := hO
          have HPt3 : Hid (s2 ≤ s3 ∧ (o3 = true → o2 = true ∧ s2 < s3)) := ⟨hpp, hkk⟩
          have hB : u3.heap[B]? = some (.cells #[.slice ppa cur.length ppc, .slice lla ci.length llc, .int .i64 y1, .int .i64 y2, .int .i64 0, .int .i64 0] 46 (0, 0)) := hF.at HBt2.out rfl HNE.out.2.1
          obtain ⟨v3, hv3⟩ : ∃ W, u3.setCell ⟨B, 4, none⟩ (.int .i64 y3) = W := ⟨_, rfl⟩
          have HFt3 : Hid (FrB X w v3) := by rw [← hv3]; exact frB_setCells X B [.int .i64 y3] 4 u3 w (HFt2.out.trans hF) HWB.out.1
          have HBt3 : Hid (v3.heap[B]? = some (.cells #[.slice ppa cur.length ppc, .slice lla ci.length llc, .int .i64 y1, .int .i64 y2, .int .i64 y3, .int .i64 0] 46 (0, 0))) := by
            show _ = _
            rw [← hv3]
            simp [World.setCell, Array.getElem?_modify, hB]
          have HRt3 : Hid (v3.heap[R]? = some (.cells #[.slice none 0 0, .slice none 0 0, .int .i64 0, .int .i64 0, .int .i64 0, .int .i64 0] 46 (0, 0))) := by rw [← hv3]; exact (Below.heap_setCell _ _ _ R HNE.out.2.2).trans (hF.at HRt2.out rfl HNE.out.1)
          have HKt3 : Hid (∀ b, R ≤ b → b < wb.heap.size → b ≠ B → b ≠ R → v3.heap[b]? = wb.heap[b]?) := fun b h0 h1 h2 h3 => by rw [← hv3]; exact (Below.heap_setCell _ _ _ b h2).trans ((hF.block b (Nat.lt_of_lt_of_le h1 HZt2.out) (by have := HXw.out; omega)).trans (HKt2.out b h0 h1 h2 h3))
          have HZt3 : Hid (wb.heap.size ≤ v3.heap.size) := by
            show _ ≤ _
            rw [← hv3, World.size_setCell, hS]
            exact HZt2.out
          have HCt3 : Hid (CurS v3 X v l s3 o3) := HC.out.turn HFt3.out (by rw [← hv3]; exact (Below.heap_setCell _ _ _ X (fun e => HNE.out.2.1 e.symm)).trans hC.cx) hC.hp
          have j0 : u3.cell? ⟨B, 4, none⟩ = some (.int .i64 0) := by simp [World.cell?, hB]
          have jz : ∀ j, u3.frozen? ⟨B, j, none⟩ = false := fun j => by simp [World.frozen?, hB]
          clear hC hF hS hO hpp hkk hB
          go_wp2_with fail
          clear j0 jz hv3
          refine (snum_any HCt3.out).mono ?_
          rintro e u4 ⟨y4, s4, o4, rfl, hC, hF, hS, hO, hpp, hkk⟩
          have HOt4 : Hid (∀ y ys, o3 = true → On l s3 (y :: ys) → y4 = y ∧ o4 = true ∧ On l s4 ys) := hO
          have HPt4 : Hid (s3 ≤ s4 ∧ (o4 = true → o3 = true ∧ s3 < s4)) := ⟨hpp, hkk⟩
          have hB : u4.heap[B]? = some (.cells #[.slice ppa cur.length ppc, .slice lla ci.length llc, .int .i64 y1, .int .i64 y2, .int .i64 y3, .int .i64 0] 46 (0, 0)) := hF.at HBt3.out rfl HNE.out.2.1
          obtain ⟨v4, hv4⟩ : ∃ W, u4.setCell ⟨B, 5, none⟩ (.int .i64 y4) = W := ⟨_, rfl⟩
          have HFt4 : Hid (FrB X w v4) := by rw [← hv4]; exact frB_setCells X B [.int .i64 y4] 5 u4 w (HFt3.out.trans hF) HWB.out.1
          have HBt4 : Hid (v4.heap[B]? = some (.cells #[.slice ppa cur.length ppc, .slice lla ci.length llc, .int .i64 y1, .int .i64 y2, .int .i64 y3, .int .i64 y4] 46 (0, 0))) := by
            show _ = _
            rw [← hv4]
            simp [World.setCell, Array.getElem?_modify, hB]
          have HRt4 : Hid (v4.heap[R]? = some (.cells #[.slice none 0 0, .slice none 0 0, .int .i64 0, .int .i64 0, .int .i64 0, .int .i64 0] 46 (0, 0))) := by rw [← hv4]; exact (Below.heap_setCell _ _ _ R HNE.out.2.2).trans (hF.at HRt3.out rfl HNE.out.1)
          have HKt4 : Hid (∀ b, R ≤ b → b < wb.heap.size → b ≠ B → b ≠ R → v4.heap[b]? = wb.heap[b]?) := fun b h0 h1 h2 h3 => by rw [← hv4]; exact (Below.heap_setCell _ _ _ b h2).trans ((hF.block b (Nat.lt_of_lt_of_le h1 HZt3.out) (by have := HXw.out; omega)).trans (HKt3.out b h0 h1 h2 h3))
          have HZt4 : Hid (wb.heap.size ≤ v4.heap.size) := by
            show _ ≤ _
            rw [← hv4, World.size_setCell, hS]
            exact HZt3.out
          have HCt4 : Hid (CurS v4 X v l s4 o4) := HC.out.turn HFt4.out (by rw [← hv4]; exact (Below.heap_setCell _ _ _ X (fun e => HNE.out.2.1 e.symm)).trans hC.cx) hC.hp
          have j0 : u4.cell? ⟨B, 5, none⟩ = some (.int .i64 0) := by simp [World.cell?, hB]
          have jz : ∀ j, u4.frozen? ⟨B, j, none⟩ = false := fun j => by simp [World.frozen?, hB]
          clear hC hF hS hO hpp hkk hB
          have b0 : v4.cell? ⟨B, 0, none⟩ = some (.slice ppa cur.length ppc) := by simp [World.cell?, HBt4.out]
          have b1 : v4.cell? ⟨B, 1, none⟩ = some (.slice lla ci.length llc) := by simp [World.cell?, HBt4.out]
          have b2 : v4.cell? ⟨B, 2, none⟩ = some (.int .i64 y1) := by simp [World.cell?, HBt4.out]
          have b3 : v4.cell? ⟨B, 3, none⟩ = some (.int .i64 y2) := by simp [World.cell?, HBt4.out]
          have b4 : v4.cell? ⟨B, 4, none⟩ = some (.int .i64 y3) := by simp [World.cell?, HBt4.out]
          have b5 : v4.cell? ⟨B, 5, none⟩ = some (.int .i64 y4) := by simp [World.cell?, HBt4.out]
          have r0 : v4.cell? ⟨R, 0, none⟩ = some (.slice none 0 0) := by simp [World.cell?, HRt4.out]
          have r1 : v4.cell? ⟨R, 1, none⟩ = some (.slice none 0 0) := by simp [World.cell?, HRt4.out]
          have r2 : v4.cell? ⟨R, 2, none⟩ = some (.int .i64 0) := by simp [World.cell?, HRt4.out]
          have r3 : v4.cell? ⟨R, 3, none⟩ = some (.int .i64 0) := by simp [World.cell?, HRt4.out]
          have r4 : v4.cell? ⟨R, 4, none⟩ = some (.int .i64 0) := by simp [World.cell?, HRt4.out]
          have r5 : v4.cell? ⟨R, 5, none⟩ = some (.int .i64 0) := by simp [World.cell?, HRt4.out]
          have rz : ∀ j, v4.frozen? ⟨R, j, none⟩ = false := fun j => by simp [World.frozen?, HRt4.out]
          go_wp2_with fail
          refine bodyPost_ret (v := .agg #[.slice ppa cur.length ppc, .slice lla ci.length llc, .int .i64 y1, .int .i64 y2, .int .i64 y3, .int .i64 y4]) (by simp [results, Tryd.results36, go_sem, r0, r1, r2, r3, r4, r5]) rfl ?_
          have hF9 : FrB X w (v4.setCells R 0 [.slice ppa cur.length ppc, .slice lla ci.length llc, .int .i64 y1, .int .i64 y2, .int .i64 y3, .int .i64 y4]) := frB_setCells X R [.slice ppa cur.length ppc, .slice lla ci.length llc, .int .i64 y1, .int .i64 y2, .int .i64 y3, .int .i64 y4] 0 v4 w HFt4.out (Nat.le_of_eq HRR.out)
          have hC9 : CurS (v4.setCells R 0 [.slice ppa cur.length ppc, .slice lla ci.length llc, .int .i64 y1, .int .i64 y2, .int .i64 y3, .int .i64 y4]) X v l s4 o4 := HC.out.turn hF9 ((heap_setCells R (fun e => HNE.out.1 e.symm) _ _ v4).trans HCt4.out.cx) HCt4.out.hp
          have hz9 := size_setCells R [.slice ppa cur.length ppc, .slice lla ci.length llc, .int .i64 y1, .int .i64 y2, .int .i64 y3, .int .i64 y4] 0 v4
          have ho9 : ∀ b, b ≠ R → (v4.setCells R 0 [.slice ppa cur.length ppc, .slice lla ci.length llc, .int .i64 y1, .int .i64 y2, .int .i64 y3, .int .i64 y4]).heap[b]? = v4.heap[b]? := fun b hb => heap_setCells R hb _ _ v4
          have hl9 := HCt4.out.hl
          have hcl := HCL.out
          have hci := HCI.out
          have hzt := HZt4.out
          have hwb := HWB.out
          have hwq := HWb.out
          have hrr := HRR.out
          have hlow : p ≤ s4 ∧ (o4 = true → ok = true ∧ p < s4) := by
            have h1 := HPt1.out.1
            have h2 := HPt2.out.1
            have h3 := HPt3.out.1
            have h4 := HPt4.out.1
            have h5 := HQb.out.1
            have h6 := HP2.out.1
            have h7 := HPq.out.1
            refine ⟨by omega, fun h => ?_⟩
            have k4 := HPt4.out.2 h
            have k3 := HPt3.out.2 k4.1
            have k2 := HPt2.out.2 k3.1
            have k1 := HPt1.out.2 k2.1
            have k0 := HQb.out.2 k1.1
            have kq := HP2.out.2 k0
            have kp := HPq.out.2 kq.1
            exact ⟨kp.1, by omega⟩
          refine ⟨⟨cur, ci, ⟨y1, y2, y3, y4⟩⟩, _, _, s4, o4, rfl, hC9, hF9, fun w9 hsz hw9 => ?_, fun y0 ys hok ho => ?_, hlow⟩
          · have hb9 : ∀ b, R ≤ b → b < wb.heap.size → b ≠ B → b ≠ R → w9.heap[b]? = wb.heap[b]? := fun b h0 h1 h2 h3 => (hw9 b (by show b < (v4.setCells R 0 [.slice ppa cur.length ppc, .slice lla ci.length llc, .int .i64 y1, .int .i64 y2, .int .i64 y3, .int .i64 y4]).heap.size; rw [hz9]; omega) (by omega)).trans ((ho9 b h3).trans (HKt4.out b h0 h1 h2 h3))
            refine ⟨_, _, rfl, phis_read HVq.out (show cur.length ≤ 1100000 by omega) (fun b h0 h1 h2 => ?_) ?_, ins_read HVb.out (show ci.length ≤ 1100000 by omega) (fun g hg => ?_)⟩
            · exact (hb9 b h0 (by omega) (fun e => h2 (.inl e)) (fun e => h2 (.inr e))).trans (HKb.out b h0 h1 h2)
            · have h9 : (v4.setCells R 0 [.slice ppa cur.length ppc, .slice lla ci.length llc, .int .i64 y1, .int .i64 y2, .int .i64 y3, .int .i64 y4]).heap.size ≤ w9.heap.size := hsz
              omega
            · obtain ⟨g1, g2⟩ := HVb.out.lt g hg
              exact hb9 g (by omega) g2 (by omega) (by omega)
          · have ho1 : On l p ((y0.phis.length : Int) :: (y0.phis.flatMap phiN ++ ((y0.list.length : Int) :: (y0.list.flatMap insN1 ++ (y0.term.k :: y0.term.a :: y0.term.t :: y0.term.e :: ys))))) := by
              have e : blockN y0 ++ ys = (y0.phis.length : Int) :: (y0.phis.flatMap phiN ++ ((y0.list.length : Int) :: (y0.list.flatMap insN1 ++ (y0.term.k :: y0.term.a :: y0.term.t :: y0.term.e :: ys)))) := by
                simp [blockN, phisN, insN]
                rfl
              rw [← e]
              exact ho
            obtain ⟨e1, c1, r1⟩ := HW.out y0.phis _ hok ho1
            obtain ⟨e2, c2, r2⟩ := HWi.out y0.list _ c1 r1
            obtain ⟨e3, c3, r3⟩ := HOt1.out _ _ c2 r2
            obtain ⟨e4, c4, r4⟩ := HOt2.out _ _ c3 r3
            obtain ⟨e5, c5, r5⟩ := HOt3.out _ _ c4 r4
            obtain ⟨e6, c6, r6⟩ := HOt4.out _ _ c5 r5
            refine ⟨?_, c6, r6⟩
            obtain ⟨yp, yl, yk, ya, yt, ye⟩ := y0
            simp at e1 e2 e3 e4 e5 e6
            rw [e1, e2, e3, e4, e5, e6]
end Go.Proofs.YthdioeeanodjiaaDoor
