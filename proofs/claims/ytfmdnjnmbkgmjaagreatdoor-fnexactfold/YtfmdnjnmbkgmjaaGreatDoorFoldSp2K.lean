/- Folding, of the model. -/
import Derived.Test.YtfmdnjnmbkgmjaaGreatDoorFoldSp1K
namespace Go.Proofs.YtfmdnjnmbkgmjaaGreatDoor
open Go.ChangeShapes Go.WideShapes Go.ChangeAt Go.RowKit
set_option linter.unusedVariables false
set_option maxRecDepth 100000
set_option maxHeartbeats 16000000 in
theorem spec_fold (v : Value) (F : FnD) (w : World) (hF : FnAt w v F) (hsm : FnSmall F) :
    Calls Tryz.prog 10 #[v] w fun e w' => GivesO w (foldF F) e w' := by
  have HF : Hid (FnAt w v F) := hF
  have HSM : Hid (FnSmall F) := hsm
  obtain ⟨n, HN⟩ : ∃ n, Hid (F.blocks.length = n) := ⟨_, rfl⟩
  obtain ⟨vals, HV⟩ : ∃ x, Hid (F.values = x) := ⟨_, rfl⟩
  obtain ⟨ba, bcap, rfl⟩ := hF.out HN.out HV.out
  obtain ⟨c, HC⟩ : ∃ c, Hid (checkOf F = c) := ⟨_, rfl⟩
  clear hF hsm
  go_enter Tryz.func10, Tryz.ntmps10
  go_wp2_with fail
  obtain ⟨w1, hw1⟩ : ∃ W, (w.alloc (.cells #[.slice ba n bcap, .int .i64 vals] 28)).alloc (.cells #[.slice none 0 0, .int .i64 0] 28) = W := ⟨_, rfl⟩
  have hs1 : w1.heap.size = w.heap.size + 2 := by rw [← hw1]; simp
  have B1 : Hid (Below w.heap.size w w1) := by show Below _ _ _; rw [← hw1]; repeat (first | exact Below.refl _ _ | apply Below.drew | refine Below.alloc ?_ (by simp <;> omega) _ | refine Below.setCell ?_ (by simp <;> omega) _)
  have X1 : Hid (w1.heap[w.heap.size]? = some (.cells #[.slice ba n bcap, .int .i64 vals] 28 (0, 0))) := by
    show _ = _
    rw [← hw1, Below.heap_alloc _ _ _ (by simp)]
    exact World.alloc_heap_new w _
  have R1 : Hid (w1.heap[w.heap.size + 1]? = some (.cells #[.slice none 0 0, .int .i64 0] 28 (0, 0))) := by
    show _ = _
    rw [← hw1]
    have h := World.alloc_heap_new (w.alloc (.cells #[.slice ba n bcap, .int .i64 vals] 28)) (.cells #[.slice none 0 0, .int .i64 0] 28)
    rw [World.size_alloc] at h
    exact h
  obtain ⟨X, HX⟩ : ∃ X, Hid (w.heap.size = X) := ⟨_, rfl⟩
  rw [hw1, HX.out]
  rw [HX.out] at X1 R1 hs1
  clear hw1
  refine (l2Copy_any _ F _ (HF.out.later B1.out) HSM.out).mono ?_
  rintro e w2 ⟨bv, own, rfl, o2, b2⟩
  have O2 : Hid (FnO (X + 2) own w2 bv F.blocks) := by show FnO _ _ _ _ _; rw [← hs1]; exact o2
  have B2 : Hid (Below w.heap.size w w2) := Bel.after B1.out b2
  have X2 : Hid (w2.heap[X]? = some (.cells #[.slice ba n bcap, .int .i64 vals] 28 (0, 0))) := (b2.block X (by omega)).trans X1.out
  have R2 : Hid (w2.heap[X + 1]? = some (.cells #[.slice none 0 0, .int .i64 0] 28 (0, 0))) := (b2.block (X + 1) (by omega)).trans R1.out
  have hs2 : X + 2 ≤ w2.heap.size := by have := b2.size; omega
  rw [HV.out]
  clear b2 o2
  obtain ⟨ba2, bcap2, hbv⟩ := O2.out.rows.is
  rw [HN.out] at hbv
  subst hbv
  have x20 : w2.cell? ⟨X, 0, none⟩ = some (.slice ba n bcap) := by simp [World.cell?, X2.out]
  have x21 : w2.cell? ⟨X, 1, none⟩ = some (.int .i64 vals) := by simp [World.cell?, X2.out]
  have hX2 : X < w2.heap.size := by omega
  go_wp2_with fail
  obtain ⟨w3, hw3⟩ : ∃ W, w2.alloc (.cells #[.slice ba2 n bcap2, .int .i64 vals] 28) = W := ⟨_, rfl⟩
  have B3 : Hid (Below w2.heap.size w2 w3) := by show Below _ _ _; rw [← hw3]; exact Bel.alloc _ _
  obtain ⟨Y, HY⟩ : ∃ Y, Hid (w2.heap.size = Y) := ⟨_, rfl⟩
  have HY3 : Hid (w3.heap[Y]? = some (.cells #[.slice ba2 n bcap2, .int .i64 vals] 28 (0, 0))) := by show _ = _; rw [← hw3, ← HY.out]; exact World.alloc_heap_new _ _
  have hs3 : w3.heap.size = Y + 1 := by rw [← hw3]; have := HY.out; simp; omega
  rw [hw3, HY.out]
  clear hw3 x20 x21 hX2
  refine (spec_check _ F _ (HF.out.later (Bel.after B2.out B3.out))).mono ?_
  rw [HC.out]
  rintro e w4 ⟨rfl, b4⟩
  have B4 : Hid (Below w2.heap.size w2 w4) := Bel.after B3.out b4
  have BW4 : Hid (Below w.heap.size w w4) := Bel.after B2.out B4.out
  have HY4 : Hid (w4.heap[Y]? = some (.cells #[.slice ba2 n bcap2, .int .i64 vals] 28 (0, 0))) := (b4.block Y (by omega)).trans HY3.out
  have hs4 : Y + 1 ≤ w4.heap.size := by have := b4.size; omega
  have X4 : Hid (w4.heap[X]? = some (.cells #[.slice ba n bcap, .int .i64 vals] 28 (0, 0))) := (B4.out.block X (by omega)).trans X2.out
  have R4 : Hid (w4.heap[X + 1]? = some (.cells #[.slice none 0 0, .int .i64 0] 28 (0, 0))) := (B4.out.block (X + 1) (by omega)).trans R2.out
  have O4 : Hid (FnO (X + 2) own w4 (.slice ba2 n bcap2) F.blocks) := O2.out.keep B4.out
  have eY := HY.out
  clear b4
  have y0 : w4.cell? ⟨Y, 0, none⟩ = some (.slice ba2 n bcap2) := by simp [World.cell?, HY4.out]
  have y1 : w4.cell? ⟨Y, 1, none⟩ = some (.int .i64 vals) := by simp [World.cell?, HY4.out]
  by_cases hc : c = 0
  · subst hc
    have HW : Hid (FnShape F ∧ ¬ CopyIn F ∧ AllReached F) := check_well HC.out
    have HE : Hid (foldF F = { F with blocks := (foldO (orderOf F) (F.blocks, noKn)).1 }) := foldF_yes HC.out
    have hc0 : ((0 : Int) != 0) = false := by decide
    obtain ⟨vn, HVN⟩ : ∃ vn : Nat, Hid ((vn : Int) = vals) := ⟨vals.toNat, by show _ = _; have := HW.out.1.2.2.1; have := HV.out; omega⟩
    have hv80 : vn ≤ 80 := by have h1 := HW.out.1.2.2.2.1; rw [HV.out, ← HVN.out] at h1; omega
    have x40 : w4.cell? ⟨X, 0, none⟩ = some (.slice ba n bcap) := by simp [World.cell?, X4.out]
    have x41 : w4.cell? ⟨X, 1, none⟩ = some (.int .i64 (vn : Int)) := by rw [HVN.out]; simp [World.cell?, X4.out]
    have hX4 : X < w4.heap.size := by omega
    have mk := fun W => make_bools vn (by omega) W
    have mk2 := fun W => make_ints vn (by omega) W
    have HBV : Hid (BlocksInV (vn : Int) F.blocks) := by have h := blocksInV_of HW.out.1; rw [HV.out, ← HVN.out] at h; exact h
    have HFAn : Hid (FnAt w (.agg #[.slice ba n bcap, .int .i64 (vn : Int)]) F) := by show FnAt _ _ _; rw [HVN.out]; exact HF.out
    clear y0 y1
    go_wp2_with fail
    clear mk mk2 x40 x41
    have K5 : Hid (KnAt ((w4.alloc (.cells (madeCells #[.bool false] vn) 4)).alloc (.cells (madeCells #[.int .i64 0] vn) 3)) w4.heap.size (w4.heap.size + 1) vn noKn) := KnAt.new (by omega)
    obtain ⟨w5, hw5⟩ : ∃ W, (w4.alloc (.cells (madeCells #[.bool false] vn) 4)).alloc (.cells (madeCells #[.int .i64 0] vn) 3) = W := ⟨_, rfl⟩
    have B45 : Hid (Below w4.heap.size w4 w5) := by show Below _ _ _; rw [← hw5]; repeat (first | exact Below.refl _ _ | apply Below.drew | refine Below.alloc ?_ (by simp <;> omega) _ | refine Below.setCell ?_ (by simp <;> omega) _)
    have hs5 : w5.heap.size = w4.heap.size + 2 := by rw [← hw5]; simp
    obtain ⟨kb, HKB⟩ : ∃ q, Hid (w4.heap.size = q) := ⟨_, rfl⟩
    rw [hw5, HKB.out] at K5
    rw [hw5, HKB.out]
    rw [HKB.out] at hs5
    have ekb := HKB.out
    clear hw5
    refine (l3Order_any _ F _ (HFAn.out.later (Bel.after BW4.out B45.out)) HW.out.1).mono ?_
    rw [← orderOf_yes HW.out.1]
    rintro e w6 ⟨ov, rfl, oo, b6⟩
    have OO : Hid (OwnInts w6 w5.heap.size ov (orderOf F)) := oo
    obtain ⟨ol, HOL⟩ : ∃ q, Hid ((orderOf F).length = q) := ⟨_, rfl⟩
    obtain ⟨oa, ocap, rfl, _⟩ := oo.row
    rw [HOL.out] at OO ⊢
    have B46 : Hid (Below w4.heap.size w4 w6) := Bel.after B45.out b6
    have K6 : Hid (KnAt w6 kb (kb + 1) vn noKn) := K5.out.kept b6
    have O6 : Hid (FnO (X + 2) own w6 (.slice ba2 n bcap2) F.blocks) := O4.out.keep B46.out
    have HY6 : Hid (w6.heap[Y]? = some (.cells #[.slice ba2 n bcap2, .int .i64 vals] 28 (0, 0))) := (B46.out.block Y (by omega)).trans HY4.out
    have R6 : Hid (w6.heap[X + 1]? = some (.cells #[.slice none 0 0, .int .i64 0] 28 (0, 0))) := (B46.out.block (X + 1) (by omega)).trans R4.out
    have hs6 : kb + 2 ≤ w6.heap.size := by have := b6.size; omega
    have hol : ol ≤ 100 := by rw [← HOL.out]; exact orderOf_small F
    have HNO : Hid (∀ q, Y ≤ q → ¬ (own q).1 ≤ 3) := fun q hq h => by have := O2.out.high q h; omega
    have HKO : Hid (¬ (own kb).1 ≤ 3) := HNO.out kb (by omega)
    have HNB : Hid (¬ (own (kb + 1)).1 ≤ 3) := HNO.out (kb + 1) (by omega)
    obtain ⟨nb, HNBB⟩ : ∃ q, Hid (kb + 1 = q) := ⟨_, rfl⟩
    have enb := HNBB.out
    rw [HNBB.out] at K6 HNB ⊢
    have h1n : 1 ≤ n := by have := HW.out.1.1; have := HN.out; omega
    obtain ⟨rb, roff, hba, HRB⟩ : ∃ rb roff, ba2 = some ⟨rb, roff, none⟩ ∧ Hid (own rb = (0, 0, 0)) := by
      obtain ⟨a9, c9, e9, _, h9⟩ := O4.out.rows
      obtain ⟨rb, roff, e8, h8, _⟩ := h9 (by have := HN.out; omega)
      simp at e9
      exact ⟨rb, roff, e9.1.trans e8, h8⟩
    subst hba
    clear oo b6
    go_wp2_with fail
    go_loopw [7] (fun i wr => ∃ k : Nat, k ≤ ol ∧ i = .int .i64 k ∧ FnO (X + 2) own wr (.slice (some ⟨rb, roff, none⟩) n bcap2) (foldO ((orderOf F).take k) (F.blocks, noKn)).1 ∧ KnAt wr kb nb vn (foldO ((orderOf F).take k) (F.blocks, noKn)).2 ∧ Turned2 own kb nb w6 wr) (fun i _ => ol - (intOf i).toNat)
    case atStart => exact ⟨0, Nat.zero_le _, rfl, by simpa [foldO] using O6.out, by simpa [foldO] using K6.out, Turned2.refl _ _ _ _⟩
    case round =>
      obtain ⟨wo, hwo⟩ : ∃ x, x = wr := ⟨_, rfl⟩
      subst hwo
      obtain ⟨k, hk, rfl, hOp, hKp, hTp⟩ := hrel
      obtain ⟨s, HSS⟩ : ∃ s, Hid (foldO ((orderOf F).take k) (F.blocks, noKn) = s) := ⟨_, rfl⟩
      rw [HSS.out] at hOp hKp
      have HOP : Hid (FnO (X + 2) own wo (.slice (some ⟨rb, roff, none⟩) n bcap2) s.1) := hOp
      have HKP : Hid (KnAt wo kb nb vn s.2) := hKp
      have HTP : Hid (Turned2 own kb nb w6 wo) := hTp
      have HSL : Hid (s.1.length = n) := by show _ = _; rw [← HSS.out, foldO_len]; exact HN.out
      have HSI : Hid (BlocksInV (vn : Int) s.1) := by show BlocksInV _ _; rw [← HSS.out]; exact HBV.out.foldO _
      have HYw : Hid (wo.heap[Y]? = some (.cells #[.slice (some ⟨rb, roff, none⟩) n bcap2, .int .i64 vals] 28 (0, 0))) := (hTp.block Y (by omega) (by omega) (by omega) (HNO.out Y (Nat.le_refl _))).trans HY6.out
      have yb : wo.cell? ⟨Y, 0, none⟩ = some (.slice (some ⟨rb, roff, none⟩) n bcap2) := by simp [World.cell?, HYw.out]
      clear hOp hKp hTp
      by_cases hlt : (k : Int) < (ol : Int)
      · obtain ⟨b, hb⟩ : ∃ b, (orderOf F)[k]? = some b := ⟨_, List.getElem?_eq_getElem (by have := HOL.out; omega)⟩
        obtain ⟨hb0, hbn⟩ := orderIn HW.out.1 b (List.mem_of_getElem? hb)
        obtain ⟨bn, rfl⟩ := Int.eq_ofNat_of_zero_le hb0
        have hbn2 : bn < n := by have := HN.out; omega
        obtain ⟨x, hx⟩ : ∃ x, s.1[bn]? = some x := ⟨_, List.getElem?_eq_getElem (by have := HSL.out; omega)⟩
        have HXB : Hid (s.1[bn]? = some x) := hx
        have hbl : bn < s.1.length := (List.getElem?_eq_some_iff.1 hx).1
        have HNX : Hid (foldO ((orderOf F).take (k + 1)) (F.blocks, noKn) = foldB s bn) := by
          show _ = _
          rw [List.take_add_one, hb, Option.toList_some, foldO_snoc, HSS.out]
          rfl
        obtain ⟨ob, ooff, hoa, q0⟩ : ∃ ob ooff, oa = some ⟨ob, ooff, none⟩ ∧ wo.cell? ⟨ob, ooff + k, none⟩ = some (.int .i64 (bn : Int)) := by
          obtain ⟨a9, c9, e9, _, h9⟩ := OO.out.at
          simp at e9
          obtain ⟨ob, ooff, e8, h8⟩ := h9 (by have := HOL.out; omega)
          have e10 : oa = some ⟨ob, ooff, none⟩ := by rw [e9.1]; exact e8
          have h10 := (OO.out.lt ob (by rw [e10]; rfl)).1
          refine ⟨ob, ooff, e10, HTP.out.cell ?_ (by omega) (by omega) (HNO.out ob (by omega))⟩
          rw [h8 k (by have := HOL.out; omega), List.getD_eq_getElem?_getD, hb]
          rfl
        subst hoa
        obtain ⟨m, HL⟩ : ∃ m, Hid (x.list.length = m) := ⟨_, rfl⟩
        obtain ⟨la, lcap, c1⟩ : ∃ la lcap, wo.cell? ⟨rb, roff + bn * 6 + 1, none⟩ = some (.slice la m lcap) := by
          obtain ⟨_, pv, lv, _, e1, _, _, _, _, _, hl⟩ := HOP.out.header hx
          obtain ⟨la, lcap, rfl⟩ := hl.is
          rw [HL.out] at e1
          exact ⟨la, lcap, e1⟩
        have HC1 : Hid (wo.cell? ⟨rb, roff + bn * 6 + 1, none⟩ = some (.slice la m lcap)) := c1
        have h24 : m ≤ 24 := by have := (HSI.out bn x hx).2; rw [HL.out] at this; exact this
        have HFB : Hid (foldB s bn = (s.1.set bn { x with list := (foldN m (x.list, s.2)).1 }, (foldN m (x.list, s.2)).2)) := by
          show _ = _
          simp only [foldB]
          rw [hx]
          show (s.1.set bn { x with list := (foldN x.list.length (x.list, s.2)).1 }, (foldN x.list.length (x.list, s.2)).2) = _
          rw [HL.out]
        have HIN : Hid (∀ (k : Nat) y, x.list[k]? = some y → InsInV (vn : Int) y) := (HSI.out bn x hx).1
        clear hb hx hb0 hbn
        go_wp2_with fail
        go_quiet (fail)
        go_wp2_with fail
        clear q0 c1 yb
        go_loopw [9] (fun i ws => ∃ j : Nat, j ≤ m ∧ i = .int .i64 j ∧ FnO (X + 2) own ws (.slice (some ⟨rb, roff, none⟩) n bcap2) (s.1.set bn { x with list := (foldN j (x.list, s.2)).1 }) ∧ KnAt ws kb nb vn (foldN j (x.list, s.2)).2 ∧ Turned2 own kb nb wo ws ∧ ws.cell? ⟨rb, roff + bn * 6 + 1, none⟩ = some (.slice la m lcap)) (fun i _ => m - (intOf i).toNat)
        case atStart =>
          refine ⟨0, Nat.zero_le _, rfl, ?_, ?_, ⟨rfl, rfl, rfl, Nat.le_refl _, fun _ _ _ _ _ => rfl⟩, HC1.out⟩
          · have e : s.1.set bn { x with list := (foldN 0 (x.list, s.2)).1 } = s.1 := by
              show s.1.set bn x = s.1
              exact set_same HXB.out
            rw [e]
            exact HOP.out.same (fun g hg => rfl) (Nat.le_refl _)
          · exact HKP.out.same rfl rfl
        case round =>
          obtain ⟨ws, hws⟩ : ∃ x, x = wr := ⟨_, rfl⟩
          subst hws
          obtain ⟨j, hj, rfl, hOj, hKj, hTj, hCj⟩ := hrel
          obtain ⟨L, HLK⟩ : ∃ L, Hid ((foldN j (x.list, s.2)).1 = L) := ⟨_, rfl⟩
          obtain ⟨Q, HQK⟩ : ∃ Q, Hid ((foldN j (x.list, s.2)).2 = Q) := ⟨_, rfl⟩
          rw [HLK.out] at hOj
          rw [HQK.out] at hKj
          have HOJ : Hid (FnO (X + 2) own ws (.slice (some ⟨rb, roff, none⟩) n bcap2) (s.1.set bn { x with list := L })) := hOj
          have HKJ : Hid (KnAt ws kb nb vn Q) := hKj
          have HTJ : Hid (Turned2 own kb nb wo ws) := hTj
          have HCJ : Hid (ws.cell? ⟨rb, roff + bn * 6 + 1, none⟩ = some (.slice la m lcap)) := hCj
          clear hOj hKj hTj hCj
          by_cases hltj : (j : Int) < (m : Int)
          · obtain ⟨y, HY9⟩ : ∃ y, Hid (x.list[j]? = some y) := ⟨_, List.getElem?_eq_getElem (by have := HL.out; omega)⟩
            have HYL : Hid (L[j]? = some y) := by show _ = _; rw [← HLK.out, foldN_at _ (Nat.le_refl _)]; exact HY9.out
            have HYI : Hid (InsInV (vn : Int) y) := HIN.out j y HY9.out
            have HBX : Hid ((s.1.set bn { x with list := L })[bn]? = some { x with list := L }) := by show _ = _; rw [List.getElem?_set_self hbl]
            have HNX2 : Hid (foldN (j + 1) (x.list, s.2) = (L.set j (foldX Q y), learnX Q (foldX Q y))) := by show _ = _; rw [foldN_next HY9.out, HLK.out, HQK.out]
            obtain ⟨lb, loff, hla, HLB, HIA⟩ : ∃ lb loff, la = some ⟨lb, loff, none⟩ ∧ Hid (own lb = (2, bn, 0)) ∧ Hid (InsAt ws lb (loff + j * 5) y) := by
              obtain ⟨_, pv2, lv2, _, e1, _, _, _, _, _, hl2⟩ := HOJ.out.header HBX.out
              have e2 := e1.symm.trans HCJ.out
              simp at e2
              subst e2
              obtain ⟨lb, loff, e3, h4, h5⟩ := hl2.get HYL.out
              exact ⟨lb, loff, e3, h4, h5⟩
            subst hla
            obtain ⟨op, d, a, bb, nn⟩ := y
            obtain ⟨x0, x1, x2, x3, x4⟩ := HIA.out
            dsimp only at x0 x1 x2 x3 x4
            have hlbs : lb < ws.heap.size := World.block_lt_of_cell? ws _ x0
            obtain ⟨XB, HXX⟩ : ∃ q, Hid (ws.heap.size = q) := ⟨_, rfl⟩
            have eXB := HXX.out
            have hkbs := HKJ.out.ltk
            have hnbs := HKJ.out.ltn
            have HXO : Hid (¬ (own XB).1 ≤ 3) := fun h => by have := HOJ.out.high XB h; omega
            have hlb3 : (own lb).1 ≤ 3 := by rw [HLB.out]; simp
            have hklb : kb ≠ lb := fun e => HKO.out (by rw [e]; exact hlb3)
            have hnlb : nb ≠ lb := fun e => HNB.out (by rw [e]; exact hlb3)
            have hrl : rb ≠ lb := fun e => by have h1 := HRB.out; rw [e, HLB.out] at h1; simp at h1
            go_wp2_with fail
            obtain ⟨w7, hw7⟩ : ∃ W, ws.alloc (.cells #[.int .i64 op, .int .i64 d, .int .i64 a, .int .i64 bb, .int .i64 nn] 57) = W := ⟨_, rfl⟩
            have B7 : Hid (Below ws.heap.size ws w7) := by show Below _ _ _; rw [← hw7]; exact Bel.alloc _ _
            have hs7 : w7.heap.size = XB + 1 := by rw [← hw7]; simp; omega
            have HB7 : Hid (w7.heap[XB]? = some (.cells #[.int .i64 op, .int .i64 d, .int .i64 a, .int .i64 bb, .int .i64 nn] 57 (0, 0))) := by show _ = _; rw [← hw7, ← HXX.out]; exact World.alloc_heap_new _ _
            rw [hw7]
            try rw [HXX.out]
            clear hw7 x0 x1 x2 x3 x4
            have K7 : Hid (KnAt w7 kb nb vn Q) := HKJ.out.kept B7.out
            have O7 : Hid (FnO (X + 2) own w7 (.slice (some ⟨rb, roff, none⟩) n bcap2) (s.1.set bn { x with list := L })) := HOJ.out.keep B7.out
            have T7 : Hid (Turned2 own kb nb wo w7) := HTJ.out.trans (Turned2.below B7.out)
            have HAT : Hid (InsAt w7 XB 0 ⟨op, d, a, bb, nn⟩) := ⟨by simp [World.cell?, HB7.out], by simp [World.cell?, HB7.out], by simp [World.cell?, HB7.out], by simp [World.cell?, HB7.out], by simp [World.cell?, HB7.out]⟩
            have HFZ : Hid (∀ j, w7.frozen? ⟨XB, j, none⟩ = false) := fun j => by simp [World.frozen?, HB7.out]
            have C7 : Hid (w7.cell? ⟨rb, roff + bn * 6 + 1, none⟩ = some (.slice (some ⟨lb, loff, none⟩) m lcap)) := Bel.keeps B7.out HCJ.out
            obtain ⟨p0, p1, p2, p3, p4⟩ := HAT.out
            dsimp only at p0 p1 p2 p3 p4
            refine (spec_wordOk op _).mono ?_
            rintro e w8 ⟨rfl, e8⟩
            have e8 := e8.symm
            subst e8
            by_cases hw : 1 ≤ op ∧ op ≤ 10
            · have HWD : Hid (wordOkV op = true) := wordOkV_yes hw.1 hw.2
              rw [HWD.out]
              obtain ⟨⟨hd0, hd1⟩, ⟨ha0, ha1⟩, ⟨hb0, hb1⟩⟩ := HYI.out.1 hw
              dsimp only at hd0 hd1 ha0 ha1 hb0 hb1
              obtain ⟨dn, rfl⟩ := Int.eq_ofNat_of_zero_le hd0
              obtain ⟨an, rfl⟩ := Int.eq_ofNat_of_zero_le ha0
              obtain ⟨bm, rfl⟩ := Int.eq_ofNat_of_zero_le hb0
              have hdn : dn < vn := by omega
              have han : an < vn := by omega
              have hbm : bm < vn := by omega
              clear hd0 hd1 ha0 ha1 hb0 hb1
              obtain ⟨ka, za, na, hza⟩ := K7.out.at_ an han
              obtain ⟨kc, zc, nc, hzc⟩ := K7.out.at_ bm hbm
              obtain ⟨ta, hta⟩ : ∃ t, (Q (an : Int)).isSome = t := ⟨_, rfl⟩
              obtain ⟨tc, htc⟩ : ∃ t, (Q (bm : Int)).isSome = t := ⟨_, rfl⟩
              rw [hta] at ka
              rw [htc] at kc
              have HTA : Hid ((Q (an : Int)).isSome = ta) := hta
              have HTC : Hid ((Q (bm : Int)).isSome = tc) := htc
              have HZA : Hid (∀ q, Q (an : Int) = some q → q = za) := hza
              have HZC : Hid (∀ q, Q (bm : Int) = some q → q = zc) := hzc
              have HWW : Hid (1 ≤ op ∧ op ≤ 10) := hw
              have h20 : (op == 20) = false := by simp; omega
              clear hta htc hza hzc hw
              by_cases hk2 : ta = true ∧ tc = true
              · obtain ⟨rfl, rfl⟩ := hk2
                obtain ⟨pz, hpz⟩ := Option.isSome_iff_exists.1 HTA.out
                obtain ⟨qz, hqz⟩ := Option.isSome_iff_exists.1 HTC.out
                have epz := HZA.out pz hpz
                have eqz := HZC.out qz hqz
                subst epz
                subst eqz
                obtain ⟨R, HR⟩ : ∃ R, Hid (wordV op pz qz = R) := ⟨_, rfl⟩
                have HFX : Hid (foldX Q ⟨op, (dn : Int), (an : Int), (bm : Int), nn⟩ = ⟨20, (dn : Int), 0, 0, R⟩) := by
                  show _ = _
                  simp only [foldX]
                  rw [if_pos HWW.out, hpz, hqz]
                  show (⟨20, (dn : Int), 0, 0, wordV op pz qz⟩ : InsD) = _
                  rw [HR.out]
                have HLX : Hid (learnX Q ⟨20, (dn : Int), 0, 0, R⟩ = (fun v => if v = (dn : Int) then some R else Q v)) := by show _ = _; simp [learnX]
                rw [HFX.out] at HNX2
                clear hpz hqz h20
                go_wp2_with fail
                refine wp_noThrow (region_M 16 (fun w' => w'.cell? ⟨XB, 0, none⟩ = some (.int .i64 op) ∧ w'.cell? ⟨XB, 1, none⟩ = some (.int .i64 (dn : Int)) ∧ w'.cell? ⟨XB, 2, none⟩ = some (.int .i64 (an : Int)) ∧ w'.cell? ⟨XB, 3, none⟩ = some (.int .i64 (bm : Int)) ∧ w'.cell? ⟨nb, an, none⟩ = some (.int .i64 pz) ∧ w'.cell? ⟨nb, bm, none⟩ = some (.int .i64 qz)) (by kernel_rfl) ?_)
                have hHeld : w7.drew.cell? ⟨XB, 0, none⟩ = some (.int .i64 op) ∧ w7.drew.cell? ⟨XB, 1, none⟩ = some (.int .i64 (dn : Int)) ∧ w7.drew.cell? ⟨XB, 2, none⟩ = some (.int .i64 (an : Int)) ∧ w7.drew.cell? ⟨XB, 3, none⟩ = some (.int .i64 (bm : Int)) ∧ w7.drew.cell? ⟨nb, an, none⟩ = some (.int .i64 pz) ∧ w7.drew.cell? ⟨nb, bm, none⟩ = some (.int .i64 qz) := ⟨p0, p1, p2, p3, na, nc⟩
                refine wpAnyM_take (i := 0) (oi := { dst := some 67, op := Go.Op.fieldAddr 57 (Go.Operand.tmp 10) 1, type := 0, pos := "l07_small.go:18", after := #[], guard := none }) (v := ?_) rfl (by kernel_rfl) (by kernel_rfl) (by kernel_rfl) (by kernel_rfl) (fun _ _ _ h => h) (Or.inl ⟨by rfl, ?_⟩) (by assumption) ?_
                rotate_left
                · intro w hSw
                  (try dsimp only at hSw)
                  go_simp
                  (try with_reducible rfl)
                try simp only [Act.put, List.setIfInBounds_toArray, List.set_cons_zero, List.set_cons_succ]
                refine wpAnyM_take (i := 1) (oi := { dst := some 68, op := Go.Op.load 3 (Go.Operand.tmp 67), type := 3, pos := "l07_small.go:18", after := #[{ on := 0, ground := Go.Ground.data }], guard := none }) (v := ?_) rfl (by kernel_rfl) (by kernel_rfl) (by kernel_rfl) (by kernel_rfl) (fun _ _ _ h => h) (Or.inl ⟨by rfl, ?_⟩) (by assumption) ?_
                rotate_left
                · intro w hSw
                  (try dsimp only at hSw)
                  go_simp
                  (try with_reducible rfl)
                try simp only [Act.put, List.setIfInBounds_toArray, List.set_cons_zero, List.set_cons_succ]
                refine wpAnyM_take (i := 2) (oi := { dst := some 69, op := Go.Op.fieldAddr 57 (Go.Operand.tmp 10) 0, type := 0, pos := "l07_small.go:18", after := #[], guard := none }) (v := ?_) rfl (by kernel_rfl) (by kernel_rfl) (by kernel_rfl) (by kernel_rfl) (fun _ _ _ h => h) (Or.inl ⟨by rfl, ?_⟩) (by assumption) ?_
                rotate_left
                · intro w hSw
                  (try dsimp only at hSw)
                  go_simp
                  (try with_reducible rfl)
                try simp only [Act.put, List.setIfInBounds_toArray, List.set_cons_zero, List.set_cons_succ]
                refine wpAnyM_take (i := 3) (oi := { dst := some 70, op := Go.Op.load 3 (Go.Operand.tmp 69), type := 3, pos := "l07_small.go:18", after := #[{ on := 2, ground := Go.Ground.data }], guard := none }) (v := ?_) rfl (by kernel_rfl) (by kernel_rfl) (by kernel_rfl) (by kernel_rfl) (fun _ _ _ h => h) (Or.inl ⟨by rfl, ?_⟩) (by assumption) ?_
                rotate_left
                · intro w hSw
                  (try dsimp only at hSw)
                  go_simp
                  (try with_reducible rfl)
                try simp only [Act.put, List.setIfInBounds_toArray, List.set_cons_zero, List.set_cons_succ]
                refine wpAnyM_take (i := 4) (oi := { dst := some 71, op := Go.Op.move (Go.Operand.tmp 5), type := 38, pos := "l07_small.go:18", after := #[], guard := none }) (v := ?_) rfl (by kernel_rfl) (by kernel_rfl) (by kernel_rfl) (by kernel_rfl) (fun _ _ _ h => h) (Or.inl ⟨by rfl, ?_⟩) (by assumption) ?_
                rotate_left
                · intro w hSw
                  (try dsimp only at hSw)
                  go_simp
                  (try with_reducible rfl)
                try simp only [Act.put, List.setIfInBounds_toArray, List.set_cons_zero, List.set_cons_succ]
                refine wpAnyM_take (i := 5) (oi := { dst := some 72, op := Go.Op.fieldAddr 57 (Go.Operand.tmp 10) 2, type := 0, pos := "l07_small.go:18", after := #[], guard := none }) (v := ?_) rfl (by kernel_rfl) (by kernel_rfl) (by kernel_rfl) (by kernel_rfl) (fun _ _ _ h => h) (Or.inl ⟨by rfl, ?_⟩) (by assumption) ?_
                rotate_left
                · intro w hSw
                  (try dsimp only at hSw)
                  go_simp
                  (try with_reducible rfl)
                try simp only [Act.put, List.setIfInBounds_toArray, List.set_cons_zero, List.set_cons_succ]
                refine wpAnyM_take (i := 6) (oi := { dst := some 73, op := Go.Op.load 3 (Go.Operand.tmp 72), type := 3, pos := "l07_small.go:18", after := #[{ on := 5, ground := Go.Ground.data }], guard := none }) (v := ?_) rfl (by kernel_rfl) (by kernel_rfl) (by kernel_rfl) (by kernel_rfl) (fun _ _ _ h => h) (Or.inl ⟨by rfl, ?_⟩) (by assumption) ?_
                rotate_left
                · intro w hSw
                  (try dsimp only at hSw)
                  go_simp
                  (try with_reducible rfl)
                try simp only [Act.put, List.setIfInBounds_toArray, List.set_cons_zero, List.set_cons_succ]
                refine wpAnyM_take (i := 7) (oi := { dst := some 74, op := Go.Op.indexAddr 38 (Go.Operand.tmp 71) (Go.Operand.tmp 73), type := 0, pos := "l07_small.go:18", after := #[{ on := 4, ground := Go.Ground.data }, { on := 6, ground := Go.Ground.data }], guard := none }) (v := ?_) rfl (by kernel_rfl) (by kernel_rfl) (by kernel_rfl) (by kernel_rfl) (fun _ _ _ h => h) (Or.inl ⟨by rfl, ?_⟩) (by assumption) ?_
                rotate_left
                · intro w hSw
                  (try dsimp only at hSw)
                  go_simp
                  (try with_reducible rfl)
                try simp only [Act.put, List.setIfInBounds_toArray, List.set_cons_zero, List.set_cons_succ]
                refine wpAnyM_take (i := 8) (oi := { dst := some 75, op := Go.Op.load 3 (Go.Operand.tmp 74), type := 3, pos := "l07_small.go:18", after := #[{ on := 7, ground := Go.Ground.data }], guard := none }) (v := ?_) rfl (by kernel_rfl) (by kernel_rfl) (by kernel_rfl) (by kernel_rfl) (fun _ _ _ h => h) (Or.inl ⟨by rfl, ?_⟩) (by assumption) ?_
                rotate_left
                · intro w hSw
                  (try dsimp only at hSw)
                  go_simp
                  (try with_reducible rfl)
                try simp only [Act.put, List.setIfInBounds_toArray, List.set_cons_zero, List.set_cons_succ]
                refine wpAnyM_take (i := 9) (oi := { dst := some 76, op := Go.Op.move (Go.Operand.tmp 5), type := 38, pos := "l07_small.go:18", after := #[], guard := none }) (v := ?_) rfl (by kernel_rfl) (by kernel_rfl) (by kernel_rfl) (by kernel_rfl) (fun _ _ _ h => h) (Or.inl ⟨by rfl, ?_⟩) (by assumption) ?_
                rotate_left
                · intro w hSw
                  (try dsimp only at hSw)
                  go_simp
                  (try with_reducible rfl)
                try simp only [Act.put, List.setIfInBounds_toArray, List.set_cons_zero, List.set_cons_succ]
                refine wpAnyM_take (i := 10) (oi := { dst := some 77, op := Go.Op.fieldAddr 57 (Go.Operand.tmp 10) 3, type := 0, pos := "l07_small.go:18", after := #[], guard := none }) (v := ?_) rfl (by kernel_rfl) (by kernel_rfl) (by kernel_rfl) (by kernel_rfl) (fun _ _ _ h => h) (Or.inl ⟨by rfl, ?_⟩) (by assumption) ?_
                rotate_left
                · intro w hSw
                  (try dsimp only at hSw)
                  go_simp
                  (try with_reducible rfl)
                try simp only [Act.put, List.setIfInBounds_toArray, List.set_cons_zero, List.set_cons_succ]
                refine wpAnyM_take (i := 11) (oi := { dst := some 78, op := Go.Op.load 3 (Go.Operand.tmp 77), type := 3, pos := "l07_small.go:18", after := #[{ on := 10, ground := Go.Ground.data }], guard := none }) (v := ?_) rfl (by kernel_rfl) (by kernel_rfl) (by kernel_rfl) (by kernel_rfl) (fun _ _ _ h => h) (Or.inl ⟨by rfl, ?_⟩) (by assumption) ?_
                rotate_left
                · intro w hSw
                  (try dsimp only at hSw)
                  go_simp
                  (try with_reducible rfl)
                try simp only [Act.put, List.setIfInBounds_toArray, List.set_cons_zero, List.set_cons_succ]
                refine wpAnyM_take (i := 12) (oi := { dst := some 79, op := Go.Op.indexAddr 38 (Go.Operand.tmp 76) (Go.Operand.tmp 78), type := 0, pos := "l07_small.go:18", after := #[{ on := 9, ground := Go.Ground.data }, { on := 11, ground := Go.Ground.data }], guard := none }) (v := ?_) rfl (by kernel_rfl) (by kernel_rfl) (by kernel_rfl) (by kernel_rfl) (fun _ _ _ h => h) (Or.inl ⟨by rfl, ?_⟩) (by assumption) ?_
                rotate_left
                · intro w hSw
                  (try dsimp only at hSw)
                  go_simp
                  (try with_reducible rfl)
                try simp only [Act.put, List.setIfInBounds_toArray, List.set_cons_zero, List.set_cons_succ]
                refine wpAnyM_take (i := 13) (oi := { dst := some 80, op := Go.Op.load 3 (Go.Operand.tmp 79), type := 3, pos := "l07_small.go:18", after := #[{ on := 12, ground := Go.Ground.data }], guard := none }) (v := ?_) rfl (by kernel_rfl) (by kernel_rfl) (by kernel_rfl) (by kernel_rfl) (fun _ _ _ h => h) (Or.inl ⟨by rfl, ?_⟩) (by assumption) ?_
                rotate_left
                · intro w hSw
                  (try dsimp only at hSw)
                  go_simp
                  (try with_reducible rfl)
                try simp only [Act.put, List.setIfInBounds_toArray, List.set_cons_zero, List.set_cons_succ]
                refine cmAnyM_oneK (i := 14) (o := { dst := some 81, op := Go.Op.call { callee := Go.Callee.value (Go.Operand.func 47), args := #[Go.Operand.tmp 70, Go.Operand.tmp 75, Go.Operand.tmp 80], argTypes := #[3, 3, 3] }, type := 3, pos := "l07_small.go:18", after := #[{ on := 3, ground := Go.Ground.data }, { on := 8, ground := Go.Ground.data }, { on := 13, ground := Go.Ground.data }], guard := none }) rfl rfl (by kernel_rfl) (fun K9 hK9 => ?_)
                refine wp_call_of (f := 47) (args := #[.int .i64 op, .int .i64 pz, .int .i64 qz]) (by go_simp) (spec_word op pz qz _) ?_
                rintro e w9 ⟨rfl, e9⟩
                rw [HR.out]
                subst e9
                refine ⟨_, rfl, ?_⟩
                refine hK9 _ _ ⟨fun _ => hHeld, ?_⟩
                try simp only [Act.put, List.setIfInBounds_toArray, List.set_cons_zero, List.set_cons_succ]
                clear hK9
                refine wpAnyM_take (i := 15) (oi := { dst := some 82, op := Go.Op.build 57 #[(0, Go.Operand.const (Go.Value.int Go.IntKind.i64 20)), (1, Go.Operand.tmp 68), (4, Go.Operand.tmp 81)], type := 57, pos := "l07_small.go:18", after := #[{ on := 1, ground := Go.Ground.data }, { on := 14, ground := Go.Ground.data }], guard := none }) (v := ?_) rfl (by kernel_rfl) (by kernel_rfl) (by kernel_rfl) (by kernel_rfl) (fun _ _ _ h => h) (Or.inl ⟨by rfl, ?_⟩) (by assumption) ?_
                rotate_left
                · intro w hSw
                  (try dsimp only at hSw)
                  go_simp
                  (try with_reducible rfl)
                try simp only [Act.put, List.setIfInBounds_toArray, List.set_cons_zero, List.set_cons_succ]
                refine cmAnyM_oneK (i := 16) (o := { dst := none, op := Go.Op.store 57 (Go.Operand.tmp 10) (Go.Operand.tmp 82), type := 0, pos := "l07_small.go:18", after := #[{ on := 15, ground := Go.Ground.data }, { on := 14, ground := Go.Ground.chain }, { on := 0, ground := Go.Ground.phase }, { on := 1, ground := Go.Ground.phase }, { on := 2, ground := Go.Ground.phase }, { on := 3, ground := Go.Ground.phase }, { on := 4, ground := Go.Ground.phase }, { on := 5, ground := Go.Ground.phase }, { on := 6, ground := Go.Ground.phase }, { on := 7, ground := Go.Ground.phase }, { on := 8, ground := Go.Ground.phase }, { on := 9, ground := Go.Ground.phase }, { on := 10, ground := Go.Ground.phase }, { on := 11, ground := Go.Ground.phase }, { on := 12, ground := Go.Ground.phase }, { on := 13, ground := Go.Ground.phase }, { on := 14, ground := Go.Ground.phase }, { on := 15, ground := Go.Ground.phase }], guard := none }) rfl rfl (by kernel_rfl) (fun K9 hK9 => ?_)
                refine wp_store_ins _ _ rfl XB 0 20 (dn : Int) 0 0 R rfl rfl (z := ⟨op, (dn : Int), (an : Int), (bm : Int), nn⟩) HAT.out HFZ.out ?_
                refine hK9 _ _ ⟨fun h => absurd rfl h, ?_⟩
                clear hK9 hHeld p0 p1 p2 p3 p4 ka kc na nc
                obtain ⟨w10, hw10⟩ : ∃ W, putIns w7.drew XB 0 ⟨20, (dn : Int), 0, 0, R⟩ = W := ⟨_, rfl⟩
                have P10 : Hid (InsAt w10 XB 0 ⟨20, (dn : Int), 0, 0, R⟩) := by show InsAt _ _ _ _; rw [← hw10]; exact putIns_at (w := w7.drew) HAT.out _
                have hne10 : ∀ g, g ≠ XB → w10.heap[g]? = w7.heap[g]? := fun g hg => by rw [← hw10]; exact putIns_other hg
                have hs10 : w10.heap.size = w7.heap.size := by rw [← hw10, putIns_size]; rfl
                have O10 : Hid (FnO (X + 2) own w10 (.slice (some ⟨rb, roff, none⟩) n bcap2) (s.1.set bn { x with list := L })) := O7.out.same (fun g hg => hne10 g (fun e => HXO.out (by rw [← e]; exact hg))) (by omega)
                have K10 : Hid (KnAt w10 kb nb vn Q) := K7.out.same (hne10 kb (by omega)) (hne10 nb (by omega))
                have TD : Turned2 own kb nb wo w7.drew := T7.out.trans (⟨rfl, rfl, rfl, Nat.le_refl _, fun _ _ _ _ _ => rfl⟩ : Turned2 own kb nb w7 w7.drew)
                have T10 : Hid (Turned2 own kb nb wo w10) := by
                  show Turned2 _ _ _ _ _
                  rw [← hw10]
                  exact TD.putNew (B := XB) (by have := HTJ.out.size; omega) 0 _
                clear TD
                have C10 : Hid (w10.cell? ⟨rb, roff + bn * 6 + 1, none⟩ = some (.slice (some ⟨lb, loff, none⟩) m lcap)) := (cell_same (hne10 rb (fun e => HXO.out (by rw [← e, HRB.out]; simp))) _).trans C7.out
                rw [hw10]
                clear hw10
                refine wpAnyM_done (by kernel_rfl) ?_ _
                simp only [noThrow, Exit.then]
                have HIA10 : Hid (InsAt w10 lb (loff + j * 5) ⟨op, (dn : Int), (an : Int), (bm : Int), nn⟩) := by
                  obtain ⟨_, pv2, lv2, _, e1, _, _, _, _, _, hl2⟩ := O10.out.header HBX.out
                  have e2 := e1.symm.trans C10.out
                  simp at e2
                  subst e2
                  obtain ⟨lb2, loff2, e3, h4, h5⟩ := hl2.get HYL.out
                  simp at e3
                  obtain ⟨rfl, rfl⟩ := e3
                  exact h5
                have HZ10 : Hid (∀ j, w10.frozen? ⟨lb, j, none⟩ = false) := O10.out.thaw lb hlb3
                have hXl : XB ≠ lb := fun e => HXO.out (by rw [e]; exact hlb3)
                obtain ⟨w11, HW11⟩ : ∃ W, Hid (putIns w10 lb (loff + j * 5) ⟨20, (dn : Int), 0, 0, R⟩ = W) := ⟨_, rfl⟩
                have O11 : Hid (FnO (X + 2) own w11 (.slice (some ⟨rb, roff, none⟩) n bcap2) (s.1.set bn { x with list := L.set j ⟨20, (dn : Int), 0, 0, R⟩ })) := by
                  show FnO _ _ _ _ _
                  rw [← HW11.out]
                  have h := O10.out.puts HBX.out HYL.out rfl C10.out ⟨20, (dn : Int), 0, 0, R⟩
                  simp only [List.set_set] at h
                  exact h
                have hne11 : ∀ g, g ≠ lb → w11.heap[g]? = w10.heap[g]? := fun g hg => by rw [← HW11.out]; exact putIns_other hg
                have K11 : Hid (KnAt w11 kb nb vn Q) := K10.out.same (hne11 kb hklb) (hne11 nb hnlb)
                have T11 : Hid (Turned2 own kb nb wo w11) := by show Turned2 _ _ _ _ _; rw [← HW11.out]; exact T10.out.putOwn hlb3 _ _
                have C11 : Hid (w11.cell? ⟨rb, roff + bn * 6 + 1, none⟩ = some (.slice (some ⟨lb, loff, none⟩) m lcap)) := (cell_same (hne11 rb hrl) _).trans C10.out
                obtain ⟨t0, t1, t2, t3, t4⟩ := P10.out
                dsimp only at t0 t1 t2 t3 t4
                have u0 := (cell_same (hne11 XB hXl) _).trans t0
                have u1 := (cell_same (hne11 XB hXl) _).trans t1
                have u4 := (cell_same (hne11 XB hXl) _).trans t4
                clear hne10 hne11
                go_at_K
                obtain ⟨kd, zd, nd, _⟩ := K11.out.at_ dn hdn
                have fk := frozen_of_cells K11.out.kh dn
                have fn := frozen_of_cells K11.out.nh dn
                have hkn := K11.out.ne
                have hnk : nb ≠ kb := fun e => hkn e.symm
                obtain ⟨td, htd⟩ : ∃ t, (Q (dn : Int)).isSome = t := ⟨_, rfl⟩
                rw [htd] at kd
                clear htd
                go_wp2_with (refine wpList_store_ins (op := { dst := none, op := Op.store 57 (Operand.tmp 86) (Operand.tmp 85), type := 0, pos := _, after := _, guard := none }) rfl (Operand.tmp 86) (Operand.tmp 85) rfl lb (loff + j * 5) 20 (dn : Int) 0 0 R rfl rfl HIA10.out HZ10.out ?_; rw [HW11.out]; clear t0 t1 t2 t3 t4)
                go_roundw
                case rel =>
                  refine ⟨j + 1, by omega, by go_num, ?_, ?_, T11.out.setRows _ _ _, ?_⟩
                  · rw [HNX2.out]
                    exact O11.out.setRows HKO.out HNB.out _ _ _
                  · rw [HNX2.out, HLX.out]
                    exact K11.out.put hdn _
                  · rw [World.cell?_setCell_other _ _ _ _ (by intro h9; have := congrArg Addr.block h9; simp at this; exact HNB.out (by rw [this, HRB.out]; simp)), World.cell?_setCell_other _ _ _ _ (by intro h9; have := congrArg Addr.block h9; simp at this; exact HKO.out (by rw [this, HRB.out]; simp))]
                    exact C11.out
                case measure => simp [intOf]; omega
              · have HFX : Hid (foldX Q ⟨op, (dn : Int), (an : Int), (bm : Int), nn⟩ = ⟨op, (dn : Int), (an : Int), (bm : Int), nn⟩) := by
                  show _ = _
                  simp only [foldX]
                  rw [if_pos HWW.out]
                  have h1 := HTA.out
                  have h2 := HTC.out
                  cases hka : Q (an : Int) with
                  | none => rfl
                  | some p =>
                    cases hkb : Q (bm : Int) with
                    | none => rfl
                    | some q =>
                      rw [hka] at h1
                      rw [hkb] at h2
                      exact absurd ⟨h1.symm, h2.symm⟩ hk2
                have HLX : Hid (learnX Q ⟨op, (dn : Int), (an : Int), (bm : Int), nn⟩ = Q) := by
                  show _ = _
                  simp only [learnX]
                  rw [if_neg (by simpa using h20)]
                rw [HFX.out, set_same HYL.out, HLX.out] at HNX2
                have hcs : (ta = true ∧ tc = false) ∨ (ta = false ∧ tc = true) ∨ (ta = false ∧ tc = false) := by
                  cases ta <;> cases tc <;> simp_all
                clear hk2 na nc
                rcases hcs with ⟨rfl, rfl⟩ | ⟨rfl, rfl⟩ | ⟨rfl, rfl⟩
                all_goals
                  go_wp2_with fail
                  go_roundw
                  case rel => exact ⟨j + 1, by omega, by go_num, by rw [HNX2.out]; exact O7.out, by rw [HNX2.out]; exact K7.out, T7.out, C7.out⟩
                  case measure => simp [intOf]; omega
            · have HWD : Hid (wordOkV op = false) := by show _ = _; simp only [wordOkV]; exact decide_eq_false hw
              rw [HWD.out]
              have HFX : Hid (foldX Q ⟨op, d, a, bb, nn⟩ = ⟨op, d, a, bb, nn⟩) := by
                show _ = _
                simp only [foldX]
                rw [if_neg hw]
              rw [HFX.out, set_same HYL.out] at HNX2
              clear hw
              by_cases h20 : op = 20
              · obtain ⟨hd0, hd1⟩ := HYI.out.2 h20
                dsimp only at hd0 hd1
                subst h20
                obtain ⟨dn, rfl⟩ := Int.eq_ofNat_of_zero_le hd0
                have hdn : dn < vn := by omega
                have HLX : Hid (learnX Q ⟨20, (dn : Int), a, bb, nn⟩ = (fun v => if v = (dn : Int) then some nn else Q v)) := by show _ = _; simp [learnX]
                clear hd0 hd1
                obtain ⟨kd, zd, nd, _⟩ := K7.out.at_ dn hdn
                have fk := frozen_of_cells K7.out.kh dn
                have fn := frozen_of_cells K7.out.nh dn
                have hkn := K7.out.ne
                have hnk : nb ≠ kb := fun e => hkn e.symm
                obtain ⟨td, htd⟩ : ∃ t, (Q (dn : Int)).isSome = t := ⟨_, rfl⟩
                rw [htd] at kd
                clear htd
                go_wp2_with fail
                go_roundw
                case rel =>
                  refine ⟨j + 1, by omega, by go_num, ?_, ?_, T7.out.setRows _ _ _, ?_⟩
                  · rw [HNX2.out]
                    exact O7.out.setRows HKO.out HNB.out _ _ _
                  · rw [HNX2.out, HLX.out]
                    exact K7.out.put hdn _
                  · rw [World.cell?_setCell_other _ _ _ _ (by intro h9; have := congrArg Addr.block h9; simp at this; exact HNB.out (by rw [this, HRB.out]; simp)), World.cell?_setCell_other _ _ _ _ (by intro h9; have := congrArg Addr.block h9; simp at this; exact HKO.out (by rw [this, HRB.out]; simp))]
                    exact C7.out
                case measure => simp [intOf]; omega
              · have h20b : (op == 20) = false := by simpa using h20
                have HLX : Hid (learnX Q ⟨op, d, a, bb, nn⟩ = Q) := by
                  show _ = _
                  simp only [learnX]
                  rw [if_neg h20]
                rw [HLX.out] at HNX2
                clear h20
                go_wp2_with fail
                go_roundw
                case rel => exact ⟨j + 1, by omega, by go_num, by rw [HNX2.out]; exact O7.out, by rw [HNX2.out]; exact K7.out, T7.out, C7.out⟩
                case measure => simp [intOf]; omega
          · have hjm : j = m := by omega
            subst hjm
            go_wp2_with fail
            go_roundw
            case rel =>
              refine ⟨k + 1, by omega, by go_num, ?_, ?_, HTP.out.trans HTJ.out⟩
              · rw [HNX.out, HFB.out, HLK.out]
                exact HOJ.out
              · rw [HNX.out, HFB.out, HQK.out]
                exact HKJ.out
            case measure => simp [intOf]; omega
      · have hkm2 : k = ol := by omega
        subst hkm2
        have HALL : Hid (foldO (orderOf F) (F.blocks, noKn) = s) := by show _ = _; rw [← HSS.out, List.take_of_length_le (by have := HOL.out; omega)]
        have RW : Hid (wo.heap[X + 1]? = some (.cells #[.slice none 0 0, .int .i64 0] 28 (0, 0))) := (HTP.out.block (X + 1) (by omega) (by omega) (by omega) (fun h => by have := O4.out.low (X + 1) h; omega)).trans R6.out
        have BFW : Hid (Below w.heap.size w wo) := by
          have h1 : Below (X + 2) w6 wo := ⟨HTP.out.os, HTP.out.tape, HTP.out.output, HTP.out.size, fun g hg => HTP.out.block g (by omega) (by omega) (by omega) (fun h => by have := O4.out.low g h; omega)⟩
          exact (Bel.after BW4.out B46.out).trans (h1.mono (by have := HX.out; omega))
        have yb1 : wo.cell? ⟨Y, 1, none⟩ = some (.int .i64 vals) := by simp [World.cell?, HYw.out]
        have r0 : wo.cell? ⟨X + 1, 0, none⟩ = some (.slice none 0 0) := by simp [World.cell?, RW.out]
        have r1 : wo.cell? ⟨X + 1, 1, none⟩ = some (.int .i64 0) := by simp [World.cell?, RW.out]
        have z0 : wo.frozen? ⟨X + 1, 0, none⟩ = false := by simp [World.frozen?, RW.out]
        have z1 : wo.frozen? ⟨X + 1, 1, none⟩ = false := by simp [World.frozen?, RW.out]
        go_wp2_with fail
        obtain ⟨q0, q1, hF4, hB4⟩ := copy_box (w := w) (F := { F with blocks := s.1 }) (vals := vals) (R := X + 1) (by have := HX.out; omega) RW.out HOP.out BFW.out
        refine bodyPost_ret (v := .agg #[.slice (some ⟨rb, roff, none⟩) n bcap2, .int .i64 vals]) (by simp [results, Tryz.results10, go_sem, q0, q1]) rfl ?_
        rw [HE.out, HALL.out]
        exact ⟨_, own, by show _ = Ending.returned (.agg #[_, .int .i64 F.values]); rw [HV.out], hF4, hB4⟩
  · have hc0 : (c != 0) = true := by simpa using hc
    have HE : Hid (foldF F = F) := foldF_no (by rw [HC.out]; exact hc)
    have r0 : w4.cell? ⟨X + 1, 0, none⟩ = some (.slice none 0 0) := by simp [World.cell?, R4.out]
    have r1 : w4.cell? ⟨X + 1, 1, none⟩ = some (.int .i64 0) := by simp [World.cell?, R4.out]
    have z0 : w4.frozen? ⟨X + 1, 0, none⟩ = false := by simp [World.frozen?, R4.out]
    have z1 : w4.frozen? ⟨X + 1, 1, none⟩ = false := by simp [World.frozen?, R4.out]
    go_wp2_with fail
    obtain ⟨q0, q1, hF4, hB4⟩ := copy_box (w := w) (F := F) (vals := vals) (R := X + 1) (by have := HX.out; omega) R4.out O4.out BW4.out
    refine bodyPost_ret (v := .agg #[.slice ba2 n bcap2, .int .i64 vals]) (by simp [results, Tryz.results10, go_sem, q0, q1]) rfl ?_
    rw [HE.out]
    exact ⟨_, own, by rw [HV.out], hF4, hB4⟩
end Go.Proofs.YtfmdnjnmbkgmjaaGreatDoor
