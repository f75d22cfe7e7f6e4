/- Folding, of the program: the list of a block. -/
import Derived.Test.YtfmdnjnmbkgmjaaGreatDoorFoldMapK
namespace Go.Proofs.YtfmdnjnmbkgmjaaGreatDoor
open Go.ChangeShapes Go.WideShapes Go.ChangeAt Go.RowKit
set_option linter.unusedVariables false
set_option maxRecDepth 100000
structure Turned (own : OwnF) (mb : Nat) (w w' : World) : Prop where
  os : w'.os = w.os
  tape : w'.tape = w.tape
  output : w'.output = w.output
  size : w.heap.size ≤ w'.heap.size
  block : ∀ g, g < w.heap.size → g ≠ mb → ¬ (own g).1 ≤ 3 → w'.heap[g]? = w.heap[g]?
theorem Turned.refl (own : OwnF) (mb : Nat) (w : World) : Turned own mb w w := ⟨rfl, rfl, rfl, Nat.le_refl _, fun _ _ _ _ => rfl⟩
theorem Turned.trans {own : OwnF} {mb : Nat} {a b c : World} (h : Turned own mb a b) (k : Turned own mb b c) : Turned own mb a c :=
  ⟨k.os.trans h.os, k.tape.trans h.tape, k.output.trans h.output, Nat.le_trans h.size k.size, fun g h1 h2 h3 => (k.block g (Nat.lt_of_lt_of_le h1 h.size) h2 h3).trans (h.block g h1 h2 h3)⟩
theorem Turned.below {own : OwnF} {mb : Nat} {w w' : World} (h : Below w.heap.size w w') : Turned own mb w w' := ⟨h.os, h.tape, h.output, h.size, fun g h1 _ _ => h.block g h1⟩
theorem Turned.fr {own : OwnF} {mb : Nat} {w w' : World} (h : Fr mb w w') : Turned own mb w w' := ⟨h.os, h.tape, h.output, h.size, fun g h1 h2 _ => h.block g h1 h2⟩
theorem Turned.cell {own : OwnF} {mb : Nat} {w w' : World} (h : Turned own mb w w') {g o : Nat} {v : Value} (hv : w.cell? ⟨g, o, none⟩ = some v) (h2 : g ≠ mb) (h3 : ¬ (own g).1 ≤ 3) : w'.cell? ⟨g, o, none⟩ = some v :=
  (cell_same (h.block g (World.block_lt_of_cell? w _ hv) h2 h3) o).trans hv
theorem Turned.putOwn {own : OwnF} {mb : Nat} {a w : World} (h : Turned own mb a w) {B : Nat} (hB : (own B).1 ≤ 3) (o : Nat) (y : InsD) : Turned own mb a (putIns w B o y) :=
  have hb := putIns_below (Below.refl 0 w) (Nat.zero_le B) o y
  ⟨hb.os.trans h.os, hb.tape.trans h.tape, hb.output.trans h.output, by rw [putIns_size]; exact h.size, fun g h1 h2 h3 => (putIns_other (fun e => h3 (by rw [e]; exact hB))).trans (h.block g h1 h2 h3)⟩
theorem Turned.putNew {own : OwnF} {mb : Nat} {a w : World} (h : Turned own mb a w) {B : Nat} (hB : a.heap.size ≤ B) (o : Nat) (y : InsD) : Turned own mb a (putIns w B o y) :=
  have hb := putIns_below (Below.refl 0 w) (Nat.zero_le B) o y
  ⟨hb.os.trans h.os, hb.tape.trans h.tape, hb.output.trans h.output, by rw [putIns_size]; exact h.size, fun g h1 h2 h3 => (putIns_other (by omega)).trans (h.block g h1 h2 h3)⟩
theorem Turned.bel {own : OwnF} {mb lo : Nat} {w w' : World} (h : Turned own mb w w') (hlo : lo ≤ w.heap.size) (hown : ∀ g, (own g).1 ≤ 3 → lo ≤ g) (hmb : lo ≤ mb) : Below lo w w' :=
  ⟨h.os, h.tape, h.output, h.size, fun g hg => h.block g (by omega) (by omega) (fun h3 => by have := hown g h3; omega)⟩
theorem wp_store_ins {op : Oper} {a : Act} {w : World} {K : Act → World → Prop} {Q : Exit → Act → World → Prop} (x y : Operand) (ho : op.op = .store 57 x y) (B o : Nat) (o5 d5 a5 b5 n5 : Int)
    (hx : a.eval x = .pointer (some ⟨B, o, none⟩)) (hy : a.eval y = .agg #[.int .i64 o5, .int .i64 d5, .int .i64 a5, .int .i64 b5, .int .i64 n5]) {z : InsD} (hat : InsAt w B o z) (hz : ∀ j, w.frozen? ⟨B, j, none⟩ = false) (hK : K (a.put op.dst undef) (putIns w B o ⟨o5, d5, a5, b5, n5⟩)) : op.wp Tryz.prog a w K Q := by
  obtain ⟨r0, r1, r2, r3, r4⟩ := hat
  refine wp_store_mid 57 x y ho B o _ hx hy (fun j hj => ?_) (by kernel_rfl) (by simp [Value.oneCell']) ?_
  · have hj5 : j = 0 ∨ j = 1 ∨ j = 2 ∨ j = 3 ∨ j = 4 := by have : j < 5 := hj; omega
    rcases hj5 with rfl | rfl | rfl | rfl | rfl
    · exact ⟨by rw [Nat.add_zero, r0]; rfl, hz _⟩
    · exact ⟨by rw [r1]; rfl, hz _⟩
    · exact ⟨by rw [r2]; rfl, hz _⟩
    · exact ⟨by rw [r3]; rfl, hz _⟩
    · exact ⟨by rw [r4]; rfl, hz _⟩
  · exact hK
theorem set_same {α : Type} {l : List α} {i : Nat} {x : α} (h : l[i]? = some x) : l.set i x = l := by
  apply List.ext_getElem?
  intro j
  by_cases e : i = j
  · subst e
    rw [List.getElem?_set_self (List.getElem?_eq_some_iff.1 h).1, h]
  · rw [List.getElem?_set_ne e]
def GivesFold (lo : Nat) (own : OwnF) (mb : Nat) (bv : Value) (w : World) (s : List BlockD × Kn) (e : Ending) (w' : World) : Prop := (∃ r, e = .returned r) ∧ FnO lo own w' bv s.1 ∧ MapN w' mb s.2 ∧ Turned own mb w w'
theorem FnO.header {lo : Nat} {own : OwnF} {w : World} {rb roff n cap : Nat} {bs : List BlockD} (h : FnO lo own w (.slice (some ⟨rb, roff, none⟩) n cap) bs) {i : Nat} {x : BlockD} (hx : bs[i]? = some x) : own rb = (0, 0, 0) ∧ BlockO own i w rb (roff + i * 6) x := by
  obtain ⟨b, off, e, hb, hB⟩ := h.rows.get hx
  simp at e
  obtain ⟨rfl, rfl⟩ := e
  exact ⟨hb, hB⟩
set_option maxHeartbeats 8000000 in
theorem foldList1_any (lo : Nat) (own : OwnF) (mb kb : Nat) (K : Kn) (rb roff n cap b : Nat) (bs : List BlockD) (x : BlockD) (w : World) (hO : FnO lo own w (.slice (some ⟨rb, roff, none⟩) n cap) bs) (hx : bs[b]? = some x) (hin : ∀ (k : Nat) y, x.list[k]? = some y → InsIn y) (h24 : x.list.length ≤ 24)
    (hm : MapN w mb K) (hmb : ¬ (own mb).1 ≤ 3) (hk : w.cell? ⟨kb, 0, none⟩ = some (.map (some mb))) (hkb : ¬ (own kb).1 ≤ 3) (hkm : kb ≠ mb) :
    Calls Tryz.prog 101 #[.pointer (some ⟨rb, roff + b * 6, none⟩), .pointer (some ⟨kb, 0, none⟩)] w fun e w' => GivesFold lo own mb (.slice (some ⟨rb, roff, none⟩) n cap) w (foldB (bs, K) b) e w' := by
  have HO : Hid (FnO lo own w (.slice (some ⟨rb, roff, none⟩) n cap) bs) := hO
  have HX : Hid (bs[b]? = some x) := hx
  have HIN : Hid (∀ (k : Nat) y, x.list[k]? = some y → InsIn y) := hin
  have HM : Hid (MapN w mb K) := hm
  have HMB : Hid (¬ (own mb).1 ≤ 3) := hmb
  have HK : Hid (w.cell? ⟨kb, 0, none⟩ = some (.map (some mb))) := hk
  have HKB : Hid (¬ (own kb).1 ≤ 3) := hkb
  obtain ⟨hrb, pv, lv, c0, c1, c2, c3, c4, c5, hp, hl⟩ := hO.header hx
  have HRB : Hid (own rb = (0, 0, 0)) := hrb
  obtain ⟨m, HL⟩ : ∃ m, Hid (x.list.length = m) := ⟨_, rfl⟩
  obtain ⟨la, lcap, rfl⟩ := hl.is
  rw [HL.out] at c1 h24
  have HC1 : Hid (w.cell? ⟨rb, roff + b * 6 + 1, none⟩ = some (.slice la m lcap)) := c1
  have HFB : Hid (foldB (bs, K) b = (bs.set b { x with list := (foldN m (x.list, K)).1 }, (foldN m (x.list, K)).2)) := by
    show _ = _
    simp only [foldB]
    rw [hx]
    show (bs.set b { x with list := (foldN x.list.length (x.list, K)).1 }, (foldN x.list.length (x.list, K)).2) = _
    rw [HL.out]
  rw [HFB.out]
  have hb : b < bs.length := (List.getElem?_eq_some_iff.1 hx).1
  clear hO hx hin hm hmb hk hkb hrb c0 c2 c3 c4 c5 hp hl
  go_enter Tryz.func101, Tryz.ntmps101
  go_wp2_with fail
  go_loopw [10] (fun i wr => ∃ k : Nat, k ≤ m ∧ i = .int .i64 k ∧ FnO lo own wr (.slice (some ⟨rb, roff, none⟩) n cap) (bs.set b { x with list := (foldN k (x.list, K)).1 }) ∧ MapN wr mb (foldN k (x.list, K)).2 ∧ Turned own mb w wr ∧ wr.cell? ⟨rb, roff + b * 6 + 1, none⟩ = some (.slice la m lcap)) (fun i _ => m - (intOf i).toNat)
  case atStart =>
    refine ⟨0, Nat.zero_le _, rfl, ?_, HM.out, Turned.refl _ _ _, HC1.out⟩
    have e : bs.set b { x with list := (foldN 0 (x.list, K)).1 } = bs := by
      show bs.set b x = bs
      exact set_same HX.out
    rw [e]
    exact HO.out
  case round =>
    obtain ⟨k, hk, rfl, hO, hM, hT, hC⟩ := hrel
    obtain ⟨L, HLK⟩ : ∃ L, Hid ((foldN k (x.list, K)).1 = L) := ⟨_, rfl⟩
    obtain ⟨Q, HQK⟩ : ∃ Q, Hid ((foldN k (x.list, K)).2 = Q) := ⟨_, rfl⟩
    rw [HLK.out] at hO
    rw [HQK.out] at hM
    have HOR : Hid (FnO lo own wr (.slice (some ⟨rb, roff, none⟩) n cap) (bs.set b { x with list := L })) := hO
    have HMR : Hid (MapN wr mb Q) := hM
    have HT : Hid (Turned own mb w wr) := hT
    have HC : Hid (wr.cell? ⟨rb, roff + b * 6 + 1, none⟩ = some (.slice la m lcap)) := hC
    have HLL : Hid (L.length = m) := by show _ = _; rw [← HLK.out, foldN_len]; exact HL.out
    clear hO hM hT hC
    by_cases hlt : (k : Int) < (m : Int)
    · obtain ⟨y, HY⟩ : ∃ y, Hid (x.list[k]? = some y) := ⟨_, List.getElem?_eq_getElem (by have := HL.out; omega)⟩
      have HYL : Hid (L[k]? = some y) := by show _ = _; rw [← HLK.out, foldN_at _ (Nat.le_refl _)]; exact HY.out
      have HYI : Hid (InsIn y) := HIN.out k y HY.out
      have HBX : Hid ((bs.set b { x with list := L })[b]? = some { x with list := L }) := by show _ = _; rw [List.getElem?_set_self hb]
      have HNX : Hid (foldN (k + 1) (x.list, K) = (L.set k (foldX Q y), learnX Q (foldX Q y))) := by show _ = _; rw [foldN_next HY.out, HLK.out, HQK.out]
      obtain ⟨lb, loff, hla, HLB, HIA⟩ : ∃ lb loff, la = some ⟨lb, loff, none⟩ ∧ Hid (own lb = (2, b, 0)) ∧ Hid (InsAt wr lb (loff + k * 5) y) := by
        obtain ⟨_, pv2, lv2, _, e1, _, _, _, _, _, hl2⟩ := HOR.out.header HBX.out
        have e2 := e1.symm.trans HC.out
        simp at e2
        subst e2
        obtain ⟨lb, loff, e3, h4, h5⟩ := hl2.get HYL.out
        exact ⟨lb, loff, e3, h4, h5⟩
      subst hla
      have k0 := HT.out.cell HK.out hkm HKB.out
      have hkbs : kb < wr.heap.size := World.block_lt_of_cell? wr _ k0
      have hrbs : rb < wr.heap.size := World.block_lt_of_cell? wr _ HC.out
      have c1 := HC.out
      obtain ⟨op, d, a, bb, nn⟩ := y
      obtain ⟨x0, x1, x2, x3, x4⟩ := HIA.out
      dsimp only at x0 x1 x2 x3 x4
      have hlbs : lb < wr.heap.size := World.block_lt_of_cell? wr _ x0
      obtain ⟨o5, d5, a5, b5, n5, HFX⟩ : ∃ o5 d5 a5 b5 n5, Hid (foldX Q ⟨op, d, a, bb, nn⟩ = ⟨o5, d5, a5, b5, n5⟩) := ⟨_, _, _, _, _, rfl⟩
      have HI5 : Hid (InsIn ⟨o5, d5, a5, b5, n5⟩) := by show InsIn _; rw [← HFX.out]; exact foldX_in HYI.out
      obtain ⟨X, HXX⟩ : ∃ X, Hid (wr.heap.size = X) := ⟨_, rfl⟩
      have hXo : ¬ (own X).1 ≤ 3 := fun h => by have := HOR.out.high X h; have := HXX.out; omega
      have HXO : Hid (¬ (own X).1 ≤ 3) := hXo
      clear hXo
      go_wp2_with fail
      obtain ⟨w2, hw2⟩ : ∃ W, wr.alloc (.cells #[.int .i64 op, .int .i64 d, .int .i64 a, .int .i64 bb, .int .i64 nn] 57) = W := ⟨_, rfl⟩
      have B2 : Hid (Below wr.heap.size wr w2) := by show Below _ _ _; rw [← hw2]; exact Bel.alloc _ _
      have hs2 : w2.heap.size = X + 1 := by rw [← hw2]; have := HXX.out; simp; omega
      have HB2 : Hid (w2.heap[X]? = some (.cells #[.int .i64 op, .int .i64 d, .int .i64 a, .int .i64 bb, .int .i64 nn] 57 (0, 0))) := by show _ = _; rw [← hw2, ← HXX.out]; exact World.alloc_heap_new _ _
      rw [hw2, HXX.out]
      clear hw2 x0 x1 x2 x3 x4 c1 k0
      refine (fold_any mb Q op d a bb nn _ (HMR.out.kept B2.out) HYI.out).mono ?_
      rintro e w3 ⟨rfl, b3⟩
      rw [HFX.out]
      simp only [placeW]
      have B3 : Hid (Below wr.heap.size wr w3) := Bel.after B2.out b3
      have HB3 : Hid (w3.heap[X]? = some (.cells #[.int .i64 op, .int .i64 d, .int .i64 a, .int .i64 bb, .int .i64 nn] 57 (0, 0))) := (b3.block X (by omega)).trans HB2.out
      have hs3 : X + 1 ≤ w3.heap.size := by have := b3.size; omega
      have HAT : Hid (InsAt w3 X 0 ⟨op, d, a, bb, nn⟩) := ⟨by simp [World.cell?, HB3.out], by simp [World.cell?, HB3.out], by simp [World.cell?, HB3.out], by simp [World.cell?, HB3.out], by simp [World.cell?, HB3.out]⟩
      have HFZ : Hid (∀ j, w3.frozen? ⟨X, j, none⟩ = false) := fun j => by simp [World.frozen?, HB3.out]
      have k3 := Bel.keeps B3.out (HT.out.cell HK.out hkm HKB.out)
      clear b3
      obtain ⟨w4, HW4⟩ : ∃ W, Hid (putIns w3 X 0 ⟨o5, d5, a5, b5, n5⟩ = W) := ⟨_, rfl⟩
      have T4 : Hid (Turned own mb wr w4) := by show Turned _ _ _ _; rw [← HW4.out]; exact (Turned.below B3.out).putNew (by have := HXX.out; omega) _ _
      have PF : Hid (InsAt w4 X 0 ⟨o5, d5, a5, b5, n5⟩) := by show InsAt _ _ _ _; rw [← HW4.out]; exact putIns_at HAT.out _
      have M4 : Hid (MapN w4 mb Q) := by
        show MapN _ _ _
        rw [← HW4.out]
        exact (HMR.out.kept B3.out).same (putIns_other (by have := HMR.out.lt; have := HXX.out; omega))
      have O4 : Hid (FnO lo own w4 (.slice (some ⟨rb, roff, none⟩) n cap) (bs.set b { x with list := L })) := by
        show FnO _ _ _ _ _
        rw [← HW4.out]
        exact (HOR.out.keep B3.out).same (fun g hg => putIns_other (fun e => HXO.out (by rw [← e]; exact hg))) (by rw [putIns_size]; exact Nat.le_refl _)
      have k4 : w4.cell? ⟨kb, 0, none⟩ = some (.map (some mb)) := by rw [← HW4.out]; exact (cell_same (putIns_other (by have := HXX.out; omega)) _).trans k3
      have hs4 : X + 1 ≤ w4.heap.size := by rw [← HW4.out, putIns_size]; exact hs3
      have HF4 : Hid (∀ j, w4.frozen? ⟨X, j, none⟩ = false) := fun j => by rw [← HW4.out, putIns_frozen]; exact HFZ.out j
      obtain ⟨p0, p1, p2, p3, p4⟩ := PF.out
      dsimp only at p0 p1 p2 p3 p4
      go_wp2_with (refine wpList_store_ins (op := { dst := none, op := Op.store 57 (Operand.tmp 4) (Operand.tmp 17), type := 0, pos := _, after := _, guard := none }) rfl (Operand.tmp 4) (Operand.tmp 17) rfl X 0 o5 d5 a5 b5 n5 rfl rfl (z := ⟨op, d, a, bb, nn⟩) HAT.out HFZ.out ?_; rw [HW4.out])
      clear k4 k3
      refine (learn_any mb Q o5 d5 a5 b5 n5 _ M4.out HI5.out).mono ?_
      rintro e w5 ⟨⟨r, rfl⟩, f5, m5⟩
      have F5 : Hid (Fr mb w4 w5) := f5
      have M5 : Hid (MapN w5 mb (learnX Q ⟨o5, d5, a5, b5, n5⟩)) := m5
      have O5 : Hid (FnO lo own w5 (.slice (some ⟨rb, roff, none⟩) n cap) (bs.set b { x with list := L })) := O4.out.same (fun g hg => f5.block g (O4.out.high g hg) (fun e => HMB.out (by rw [← e]; exact hg))) f5.size
      have hXm : X ≠ mb := fun e => by have := HMR.out.lt; have := HXX.out; omega
      have hXs : X < w4.heap.size := by omega
      have hbk := f5.block X hXs hXm
      have q0 := (cell_same hbk _).trans p0
      have q1 := (cell_same hbk _).trans p1
      have q2 := (cell_same hbk _).trans p2
      have q3 := (cell_same hbk _).trans p3
      have q4 := (cell_same hbk _).trans p4
      have c5 : w5.cell? ⟨rb, roff + b * 6 + 1, none⟩ = some (.slice (some ⟨lb, loff, none⟩) m lcap) := by
        have h3 := Bel.keeps B3.out HC.out
        have h4 : w4.cell? ⟨rb, roff + b * 6 + 1, none⟩ = some (.slice (some ⟨lb, loff, none⟩) m lcap) := by rw [← HW4.out]; exact (cell_same (putIns_other (by have := HXX.out; omega)) _).trans h3
        exact (cell_same (f5.block rb (World.block_lt_of_cell? w4 _ h4) (fun e => HMB.out (by rw [← e, HRB.out]; simp))) _).trans h4
      have HIA5 : Hid (InsAt w5 lb (loff + k * 5) ⟨op, d, a, bb, nn⟩) := by
        obtain ⟨_, pv2, lv2, _, e1, _, _, _, _, _, hl2⟩ := O5.out.header HBX.out
        have e2 := e1.symm.trans c5
        simp at e2
        subst e2
        obtain ⟨lb2, loff2, e3, h4, h5⟩ := hl2.get HYL.out
        simp at e3
        obtain ⟨rfl, rfl⟩ := e3
        exact h5
      have HZ5 : Hid (∀ j, w5.frozen? ⟨lb, j, none⟩ = false) := O5.out.thaw lb (by rw [HLB.out]; simp)
      clear f5 m5 hbk p0 p1 p2 p3 p4
      go_wp2_with fail
      refine wp_noThrow (wp_region_held_drew (S := fun w' => w'.cell? ⟨rb, roff + b * 6 + 1, none⟩ = some (.slice (some ⟨lb, loff, none⟩) m lcap) ∧ w'.cell? ⟨X, 0, none⟩ = some (.int .i64 o5) ∧ w'.cell? ⟨X, 1, none⟩ = some (.int .i64 d5) ∧ w'.cell? ⟨X, 2, none⟩ = some (.int .i64 a5) ∧ w'.cell? ⟨X, 3, none⟩ = some (.int .i64 b5) ∧ w'.cell? ⟨X, 4, none⟩ = some (.int .i64 n5)) (by kernel_rfl) ⟨c5, q0, q1, q2, q3, q4⟩ (fun hHeld => ?_))
      refine wpAnyH_take (i := 0) (oi := { dst := some 21, op := Go.Op.move (Go.Operand.tmp 0), type := 150, pos := "l07_small.go:88", after := #[], guard := none }) (v := ?_) rfl (by kernel_rfl) (by kernel_rfl) (by kernel_rfl) (fun _ _ _ h => h) (Or.inl ⟨by rfl, ?_⟩) (by assumption) ?_
      rotate_left
      · intro w hSw
        (try dsimp only at hSw)
        go_simp
        (try with_reducible rfl)
      try simp only [Act.put, List.setIfInBounds_toArray, List.set_cons_zero, List.set_cons_succ]
      refine wpAnyH_take (i := 1) (oi := { dst := some 22, op := Go.Op.nilCheck (Go.Operand.tmp 21), type := 0, pos := "l07_small.go:88", after := #[{ on := 0, ground := Go.Ground.data }], guard := none }) (v := ?_) rfl (by kernel_rfl) (by kernel_rfl) (by kernel_rfl) (fun _ _ _ h => h) (Or.inl ⟨by rfl, ?_⟩) (by assumption) ?_
      rotate_left
      · intro w hSw
        (try dsimp only at hSw)
        go_simp
        (try with_reducible rfl)
      try simp only [Act.put, List.setIfInBounds_toArray, List.set_cons_zero, List.set_cons_succ]
      refine wpAnyH_take (i := 2) (oi := { dst := some 23, op := Go.Op.fieldAddr 55 (Go.Operand.tmp 22) 1, type := 0, pos := "l07_small.go:88", after := #[{ on := 1, ground := Go.Ground.data }], guard := none }) (v := ?_) rfl (by kernel_rfl) (by kernel_rfl) (by kernel_rfl) (fun _ _ _ h => h) (Or.inl ⟨by rfl, ?_⟩) (by assumption) ?_
      rotate_left
      · intro w hSw
        (try dsimp only at hSw)
        go_simp
        (try with_reducible rfl)
      try simp only [Act.put, List.setIfInBounds_toArray, List.set_cons_zero, List.set_cons_succ]
      refine wpAnyH_take (i := 3) (oi := { dst := some 24, op := Go.Op.load 51 (Go.Operand.tmp 23), type := 51, pos := "l07_small.go:88", after := #[{ on := 2, ground := Go.Ground.data }], guard := none }) (v := ?_) rfl (by kernel_rfl) (by kernel_rfl) (by kernel_rfl) (fun _ _ _ h => h) (Or.inl ⟨by rfl, ?_⟩) (by assumption) ?_
      rotate_left
      · intro w hSw
        (try dsimp only at hSw)
        go_simp
        (try with_reducible rfl)
      try simp only [Act.put, List.setIfInBounds_toArray, List.set_cons_zero, List.set_cons_succ]
      refine wpAnyH_take (i := 4) (oi := { dst := some 25, op := Go.Op.move (Go.Operand.tmp 3), type := 3, pos := "l07_small.go:88", after := #[], guard := none }) (v := ?_) rfl (by kernel_rfl) (by kernel_rfl) (by kernel_rfl) (fun _ _ _ h => h) (Or.inl ⟨by rfl, ?_⟩) (by assumption) ?_
      rotate_left
      · intro w hSw
        (try dsimp only at hSw)
        go_simp
        (try with_reducible rfl)
      try simp only [Act.put, List.setIfInBounds_toArray, List.set_cons_zero, List.set_cons_succ]
      refine wpAnyH_take (i := 5) (oi := { dst := some 26, op := Go.Op.load 57 (Go.Operand.tmp 4), type := 57, pos := "l07_small.go:88", after := #[], guard := none }) (v := ?_) rfl (by kernel_rfl) (by kernel_rfl) (by kernel_rfl) (fun _ _ _ h => h) (Or.inl ⟨by rfl, ?_⟩) (by assumption) ?_
      rotate_left
      · intro w hSw
        (try dsimp only at hSw)
        go_simp
        (try with_reducible rfl)
      try simp only [Act.put, List.setIfInBounds_toArray, List.set_cons_zero, List.set_cons_succ]
      refine wpAnyH_take (i := 6) (oi := { dst := some 27, op := Go.Op.indexAddr 51 (Go.Operand.tmp 24) (Go.Operand.tmp 25), type := 0, pos := "l07_small.go:88", after := #[{ on := 3, ground := Go.Ground.data }, { on := 4, ground := Go.Ground.data }, { on := 0, ground := Go.Ground.phase }, { on := 1, ground := Go.Ground.phase }, { on := 2, ground := Go.Ground.phase }, { on := 3, ground := Go.Ground.phase }, { on := 4, ground := Go.Ground.phase }, { on := 5, ground := Go.Ground.phase }], guard := none }) (v := ?_) rfl (by kernel_rfl) (by kernel_rfl) (by kernel_rfl) (fun _ _ _ h => h) (Or.inl ⟨by rfl, ?_⟩) (by assumption) ?_
      rotate_left
      · intro w hSw
        (try dsimp only at hSw)
        go_simp
        (try with_reducible rfl)
      try simp only [Act.put, List.setIfInBounds_toArray, List.set_cons_zero, List.set_cons_succ]
      refine ckAnyH_oneK (i := 7) (o := { dst := none, op := Go.Op.store 57 (Go.Operand.tmp 27) (Go.Operand.tmp 26), type := 0, pos := "l07_small.go:88", after := #[{ on := 6, ground := Go.Ground.data }, { on := 5, ground := Go.Ground.data }, { on := 0, ground := Go.Ground.phase }, { on := 1, ground := Go.Ground.phase }, { on := 2, ground := Go.Ground.phase }, { on := 3, ground := Go.Ground.phase }, { on := 4, ground := Go.Ground.phase }, { on := 5, ground := Go.Ground.phase }], guard := none }) rfl rfl (by kernel_rfl) (fun K9 hK9 => ?_)
      have O6 : Hid (FnO lo own (putIns w5.drew lb (loff + k * 5) ⟨o5, d5, a5, b5, n5⟩) (.slice (some ⟨rb, roff, none⟩) n cap) (bs.set b { x with list := L.set k ⟨o5, d5, a5, b5, n5⟩ })) := by
        have h := (O5.out.same (w' := w5.drew) (fun g hg => rfl) (Nat.le_refl _)).puts HBX.out HYL.out rfl c5 ⟨o5, d5, a5, b5, n5⟩
        simp only [List.set_set] at h
        exact h
      have hlb3 : (own lb).1 ≤ 3 := by rw [HLB.out]; simp
      have hXl : X ≠ lb := fun e => HXO.out (by rw [e]; exact hlb3)
      have hrl : rb ≠ lb := fun e => by have h1 := HRB.out; rw [e, HLB.out] at h1; simp at h1
      have hml : mb ≠ lb := fun e => HMB.out (by rw [e]; exact hlb3)
      have M6 : Hid (MapN (putIns w5.drew lb (loff + k * 5) ⟨o5, d5, a5, b5, n5⟩) mb (learnX Q ⟨o5, d5, a5, b5, n5⟩)) := (M5.out.same (w' := w5.drew) rfl).same (putIns_other hml)
      have T6 : Hid (Turned own mb w (putIns w5.drew lb (loff + k * 5) ⟨o5, d5, a5, b5, n5⟩)) := (HT.out.trans (T4.out.trans ((Turned.fr F5.out).trans (Turned.below (Below.refl _ _).drew)))).putOwn hlb3 _ _
      have C6 : Hid ((putIns w5.drew lb (loff + k * 5) ⟨o5, d5, a5, b5, n5⟩).cell? ⟨rb, roff + b * 6 + 1, none⟩ = some (.slice (some ⟨lb, loff, none⟩) m lcap)) := (cell_same (putIns_other hrl) _).trans c5
      have hS6 : ∀ j, (putIns w5.drew lb (loff + k * 5) ⟨o5, d5, a5, b5, n5⟩).cell? ⟨X, j, none⟩ = w5.cell? ⟨X, j, none⟩ := fun j => cell_same (putIns_other hXl) j
      refine wp_store_ins _ _ rfl lb (loff + k * 5) o5 d5 a5 b5 n5 rfl rfl HIA5.out HZ5.out ?_
      refine hK9 _ _ ⟨⟨C6.out, (hS6 0).trans q0, (hS6 1).trans q1, (hS6 2).trans q2, (hS6 3).trans q3, (hS6 4).trans q4⟩, ?_⟩
      clear hK9 hS6 hHeld q0 q1 q2 q3 q4 c5
      obtain ⟨w6, hw6⟩ : ∃ W, putIns w5.drew lb (loff + k * 5) ⟨o5, d5, a5, b5, n5⟩ = W := ⟨_, rfl⟩
      rw [hw6] at O6 M6 T6 C6 ⊢
      clear hw6
      refine wpAnyH_done (by kernel_rfl) ?_ _
      simp only [noThrow, Exit.inBlock, Exit.then]
      go_at_K
      go_wp2_with fail
      go_roundw
      case rel =>
        refine ⟨k + 1, by omega, by go_num, ?_, ?_, T6.out, C6.out⟩
        · rw [HNX.out, HFX.out]
          exact O6.out
        · rw [HNX.out, HFX.out]
          exact M6.out
      case measure => simp [intOf]; omega
    · have hkm2 : k = m := by omega
      subst hkm2
      go_wp2_with fail
      go_end0
      refine ⟨⟨_, rfl⟩, ?_, ?_, HT.out⟩
      · rw [HLK.out]
        exact HOR.out
      · rw [HQK.out]
        exact HMR.out
end Go.Proofs.YtfmdnjnmbkgmjaaGreatDoor
