/- Code from homes: the program's Emit, walked. -/
import Derived.Test.YtkejplddeelahaaGreatDoorEmT3K
namespace Go.Proofs.YtkejplddeelahaaGreatDoor
open Go.ChangeShapes Go.WideShapes Go.ChangeAt Go.RowKit
set_option linter.unusedVariables false

theorem numC16 (bg : Nat → Int) : numC 16 bg = #[.int .i64 (bg 0), .int .i64 (bg 1), .int .i64 (bg 2), .int .i64 (bg 3), .int .i64 (bg 4), .int .i64 (bg 5), .int .i64 (bg 6), .int .i64 (bg 7), .int .i64 (bg 8), .int .i64 (bg 9), .int .i64 (bg 10), .int .i64 (bg 11), .int .i64 (bg 12), .int .i64 (bg 13), .int .i64 (bg 14), .int .i64 (bg 15)] := rfl
theorem homeOf {V a : Int} (h0 : 0 ≤ a) (h1 : a < V) (hV : V ≤ 40) : homeB a = true := homeB_iff.2 (by omega)

set_option maxRecDepth 100000 in
set_option maxHeartbeats 16000000 in
theorem impl_emit (v : Value) (F : FnD) (w : World) (hF : FnAt w v F) (hT : FTab w) :
    Calls Tryz.prog 10 #[v] w fun e w' => GivesEmit w (emitOf F) (emitB F) e w' := by
  have HF : Hid (FnAt w v F) := hF
  have HT : Hid (FTab w) := hT
  have hw00 : 0 < w.heap.size := World.block_lt_of_cell? w _ (hT 0 (by omega)).1
  obtain ⟨n, HN⟩ : ∃ n, Hid (F.blocks.length = n) := ⟨_, rfl⟩
  obtain ⟨vals, HV⟩ : ∃ x, Hid (F.values = x) := ⟨_, rfl⟩
  obtain ⟨ba, bcap, rfl⟩ := hF.out HN.out HV.out
  obtain ⟨L, HL⟩ : ∃ L, Hid (emitOf F = L) := ⟨_, rfl⟩
  obtain ⟨R, HR⟩ : ∃ R, Hid (emitB F = R) := ⟨_, rfl⟩
  rw [HL.out, HR.out]
  clear hF hT
  obtain ⟨wA, hwA⟩ : ∃ W, w.alloc (.cells #[.slice ba n bcap, .int .i64 vals] 26) = W := ⟨_, rfl⟩
  have HBA : Hid (Below w.heap.size w wA) := by show Below _ _ _; rw [← hwA]; exact Bel.alloc _ _
  have HXA : Hid (wA.heap[w.heap.size]? = some (.cells #[.slice ba n bcap, .int .i64 vals] 26 (0, 0))) := by show _ = _; rw [← hwA]; exact World.alloc_heap_new _ _
  have a0 : wA.cell? ⟨w.heap.size, 0, none⟩ = some (.slice ba n bcap) := by simp [World.cell?, HXA.out]
  have a1 : wA.cell? ⟨w.heap.size, 1, none⟩ = some (.int .i64 vals) := by simp [World.cell?, HXA.out]
  go_enter Tryz.func10, Tryz.ntmps10
  go_wp2_with fail
  try rw [hwA]
  clear hwA
  refine (impl_plainOk _ F _ (HF.out.keep (Keeps.of_below HBA.out 0))).mono ?_
  rintro e w1 ⟨pl, rfl, hpl, b1⟩
  have HPL : Hid (pl = true ↔ FnPlain F) := hpl
  have HB1 : Hid (Below w.heap.size w w1) := Bel.after HBA.out b1
  have HX1 : Hid (w1.heap[w.heap.size]? = some (.cells #[.slice ba n bcap, .int .i64 vals] 26 (0, 0))) := (b1.block _ (Array.getElem?_eq_some_iff.1 HXA.out).1).trans HXA.out
  have c0 : w1.cell? ⟨w.heap.size, 0, none⟩ = some (.slice ba n bcap) := by simp [World.cell?, HX1.out]
  have c1 : w1.cell? ⟨w.heap.size, 1, none⟩ = some (.int .i64 vals) := by simp [World.cell?, HX1.out]
  clear hpl b1 a0 a1
  cases pl with
  | false =>
    have hb : emitB F = false := emitB_no (fun h => by have := HPL.out.2 h.1; cases this)
    obtain rfl : R = false := by rw [← HR.out]; exact hb
    have hL : ([] : List InsD) = L := by rw [← HL.out, emitOf_no hb]
    go_wp2
    go_ret2
    exact ⟨_, rfl, by rw [← hL]; exact ownSteps_new (World.alloc_heap_new w1 _) HB1.out.size, Bel.after HB1.out (Bel.alloc _ _)⟩
  | true =>
    have HP : Hid (FnPlain F) := HPL.out.1 rfl
    by_cases hv : vals > 40
    · have hb : emitB F = false := emitB_no (fun h => by have h9 := h.2.1; rw [HV.out] at h9; omega)
      obtain rfl : R = false := by rw [← HR.out]; exact hb
      have hL : ([] : List InsD) = L := by rw [← HL.out, emitOf_no hb]
      go_wp2
      go_ret2
      exact ⟨_, rfl, by rw [← hL]; exact ownSteps_new (World.alloc_heap_new w1 _) HB1.out.size, Bel.after HB1.out (Bel.alloc _ _)⟩
    · have HS : Hid (FnShape F) := HP.out.1
      go_wp2_with fail
      refine (newEmitter_any _).mono ?_
      rintro e w2 ⟨E, v2, rfl, he2, b2⟩
      have hE2 := he2.cells.2.2.2
      have hX2 := (b2.block _ (Array.getElem?_eq_some_iff.1 HX1.out).1).trans HX1.out
      have hs12 := b2.size
      have hs01 := HB1.out.size
      have hXlt : w.heap.size < w1.heap.size := (Array.getElem?_eq_some_iff.1 HX1.out).1
      have hvl := he2.own.lt
      have heL := he2.lo
      have HE2 : Hid (EmIs w.heap.size w2 E v2 []) := ⟨he2.box, he2.own.low hs01, by omega⟩
      have HB2 : Hid (Below w.heap.size w w2) := Bel.after HB1.out b2
      obtain ⟨w3, hw3⟩ : ∃ W, w2.alloc (.cells (numC 16 (fun _ => 0)) 67) = W := ⟨_, rfl⟩
      have hB3 : Below w2.heap.size w2 w3 := by rw [← hw3]; exact Bel.alloc _ _
      have HBG : Hid (w3.heap[w2.heap.size]? = some (.cells (numC 16 (fun _ => 0)) 67 (0, 0))) := by show _ = _; rw [← hw3]; exact World.alloc_heap_new _ _
      have hs3 : w3.heap.size = w2.heap.size + 1 := by rw [← hw3]; simp
      have HNM : Hid (numC 16 (fun _ => 0) = #[.int .i64 0, .int .i64 0, .int .i64 0, .int .i64 0, .int .i64 0, .int .i64 0, .int .i64 0, .int .i64 0, .int .i64 0, .int .i64 0, .int .i64 0, .int .i64 0, .int .i64 0, .int .i64 0, .int .i64 0, .int .i64 0]) := by show _ = _; rfl
      rw [HNM.out] at hw3
      have HX3 : Hid (w3.heap[w.heap.size]? = some (.cells #[.slice ba n bcap, .int .i64 vals] 26 (0, 0))) := (hB3.block _ (Array.getElem?_eq_some_iff.1 hX2).1).trans hX2
      have HE3 : Hid (EmIs w.heap.size w3 E v2 []) := HE2.out.grow hB3
      have HB3 : Hid (Below w.heap.size w w3) := Bel.after HB2.out hB3
      have d0 : w3.cell? ⟨w.heap.size, 0, none⟩ = some (.slice ba n bcap) := by simp [World.cell?, HX3.out]
      have d1 : w3.cell? ⟨w.heap.size, 1, none⟩ = some (.int .i64 vals) := by simp [World.cell?, HX3.out]
      have hvB : some w2.heap.size ≠ v2.ownBlock := fun e9 => by have := (hvl _ e9.symm).2; omega
      have hvX : some w.heap.size ≠ v2.ownBlock := fun e9 => by have := (hvl _ e9.symm).1; omega
      have HNB : Hid (w2.heap.size ≠ E ∧ w.heap.size ≠ E ∧ w.heap.size ≠ w2.heap.size ∧ w.heap.size ≤ w2.heap.size) := by show _ ∧ _; omega
      have HNV : Hid (some w2.heap.size ≠ v2.ownBlock ∧ some w.heap.size ≠ v2.ownBlock) := ⟨hvB, hvX⟩
      have HE3L : Hid (E < w3.heap.size ∧ w2.heap.size < w3.heap.size ∧ ∀ g, v2.ownBlock = some g → g < w3.heap.size) := ⟨by omega, by omega, fun g hg => by have := (hvl g hg).2; omega⟩
      clear he2 b2 hX2 hB3 c0 c1 hE2 hvl heL hvB hvX hs12 hs01 hXlt hs3
      obtain ⟨B, HBB⟩ : ∃ B, Hid (w2.heap.size = B) := ⟨_, rfl⟩
      go_wp2_with fail
      try rw [hw3]
      clear hw3
      rw [HBB.out] at HBG HNB HNV HE3L ⊢
      refine (impl_order _ F _ (HF.out.keep (Keeps.of_below HB3.out 0))).mono ?_
      rintro e w4 ⟨u, rfl, ou, b4⟩
      obtain ⟨o, HO⟩ : ∃ o, Hid (orderOf F = o) := ⟨_, rfl⟩
      obtain ⟨m, HM⟩ : ∃ m, Hid (o.length = m) := ⟨_, rfl⟩
      rw [HO.out] at ou
      have HS4 : Hid (EmSt w w4 E B w.heap.size u v2 [] o (begTo F o 0) (.slice ba n bcap) vals) := by
        refine ⟨HE3.out.grow b4, Bel.after HB3.out b4, (b4.block _ (Array.getElem?_eq_some_iff.1 HX3.out).1).trans HX3.out, (b4.block _ (Array.getElem?_eq_some_iff.1 HBG.out).1).trans HBG.out, ou.low HB3.out.size, HNB.out, HNV.out, ?_⟩
        have hul := World.ownsRow.lt ou
        refine ⟨fun e9 => ?_, fun e9 => ?_, fun g hg e9 => ?_⟩
        · have := (hul _ e9).1; have := HE3L.out.1; omega
        · have := (hul _ e9).1; have := HE3L.out.2.1; omega
        · have := (hul _ hg).1; have := HE3L.out.2.2 g e9.symm; omega
      obtain ⟨ua, uc, huu⟩ : ∃ a c, u = .slice a m c := by obtain ⟨a, c, e9, _⟩ := ou.row; exact ⟨a, c, by rw [e9, HM.out]⟩
      subst huu
      have HOI : Hid (∀ b ∈ o, 0 ≤ b ∧ b < (n : Int)) := by rw [← HO.out, ← HN.out]; exact order_in HS.out
      have hm100 : m ≤ 100 := by rw [← HM.out, ← HO.out]; exact orderOf_small F
      have hn16 : n ≤ 16 := by rw [← HN.out]; exact HS.out.2.1
      clear ou b4 d0 d1
      go_wp2_with fail
      go_loopw [23] (fun i wr => ∃ (k : Nat) (vv : Value), k ≤ m ∧ i = .int .i64 k ∧ EmSt w wr E B w.heap.size (.slice ua m uc) vv (codeTo F o k) o (begTo F o k) (.slice ba n bcap) vals) (fun i _ => m - (intOf i).toNat)
      case atStart => exact ⟨0, v2, Nat.zero_le _, rfl, HS4.out⟩
      case round =>
        obtain ⟨k, vv, hk, rfl, hst⟩ := hrel
        have HST : Hid (EmSt w wr E B w.heap.size (.slice ua m uc) vv (codeTo F o k) o (begTo F o k) (.slice ba n bcap) vals) := hst
        clear hst
        have hcl : (codeTo F o k).length ≤ 9900 := by have h9 := codeTo_len HS.out o k; omega
        by_cases hlt : (k : Int) < (m : Int)
        · obtain ⟨b, HOB⟩ : ∃ b, Hid (o[k]? = some b) := ⟨o[k]'(by have := HM.out; omega), List.getElem?_eq_getElem _⟩
          obtain ⟨bn, hbn⟩ : ∃ bn : Nat, b = (bn : Int) := ⟨b.toNat, by have := HOI.out b (List.mem_of_getElem? HOB.out); omega⟩
          subst hbn
          have hbn2 : bn < n := by have := HOI.out _ (List.mem_of_getElem? HOB.out); omega
          have hbi : (bn : Int) < (n : Int) := by omega
          have hb16 : (bn : Int) < 16 := by omega
          obtain ⟨x, HX⟩ : ∃ x, Hid (F.blocks[bn]? = some x) := ⟨F.blocks[bn]'(by have := HN.out; omega), List.getElem?_eq_getElem _⟩
          obtain ⟨ug, hug⟩ : ∃ ug, ua = some ⟨ug, 0, none⟩ := by
            rcases HST.out.ord.2 with ⟨_, h9⟩ | ⟨g, cap, cur, h9, _⟩
            · have := HM.out; omega
            · simp at h9; exact ⟨g, h9.1⟩
          subst hug
          have q0 : wr.cell? ⟨ug, k, none⟩ = some (.int .i64 (bn : Int)) := by
            have h9 := HST.out.ord.cellAt (i := k) (by omega)
            rw [List.getD_eq_getElem?_getD, HOB.out] at h9
            exact h9
          obtain ⟨va, vc, hvv⟩ : ∃ a c, vv = .slice a (codeTo F o k).length c := by obtain ⟨a, c, e9, _⟩ := HST.out.em.own.row; exact ⟨a, c, e9⟩
          obtain ⟨ln, HLN⟩ : ∃ ln, Hid ((codeTo F o k).length = ln) := ⟨_, rfl⟩
          rw [HLN.out] at hvv hcl
          subst hvv
          obtain ⟨q1, _, _, _⟩ := HST.out.em.cells
          have q2 : wr.cell? ⟨B, bn, none⟩ = some (.int .i64 (begTo F o k bn)) := by
            have h9 := HST.out.beg
            simp only [World.cell?, h9]
            simpa using numC_at (f := begTo F o k) (show bn < 16 by omega)
          have q3 : wr.frozen? ⟨B, bn, none⟩ = false := by have h9 := HST.out.beg; simp [World.frozen?, h9]
          have hbg : updN (begTo F o k) bn (ln : Int) = begTo F o (k + 1) := by
            show _ = updN (begTo F o k) (o.getD k 0).toNat ((codeTo F o k).length : Int)
            rw [List.getD_eq_getElem?_getD, HOB.out, HLN.out]
            rfl
          have HS1 : Hid (EmSt w (wr.setCell ⟨B, bn, none⟩ (.int .i64 (ln : Int))) E B w.heap.size (.slice (some ⟨ug, 0, none⟩) m uc) (.slice va ln vc) (codeTo F o k) o (begTo F o (k + 1)) (.slice ba n bcap) vals) := by
            rw [← hbg]
            exact HST.out.begin (by omega) _
          obtain ⟨w5, hw5⟩ : ∃ W, wr.setCell ⟨B, bn, none⟩ (.int .i64 (ln : Int)) = W := ⟨_, rfl⟩
          rw [hw5] at HS1
          obtain ⟨bb, boff, hba, pv, lv, _, o1, o2, o3, o4, o5, hps, hls⟩ := HF.out.blockC HN.out hbn2 HX.out
          subst hba
          have HLS : Hid (ListAt 0 5 InsAt w lv x.list) := hls
          obtain ⟨nl, HNL⟩ : ∃ nl, Hid (x.list.length = nl) := ⟨_, rfl⟩
          obtain ⟨la, lcap, hlv⟩ : ∃ a c, lv = .slice a nl c := by obtain ⟨a, c, e9, _⟩ := hls; exact ⟨a, c, by rw [e9, HNL.out]⟩
          subst hlv
          have hnl : nl ≤ 24 := by rw [← HNL.out]; exact (HS.out.2.2.2.2 bn x HX.out).2.1
          have r0 : w5.cell? ⟨w.heap.size, 0, none⟩ = some (.slice (some ⟨bb, boff, none⟩) n bcap) := by have h9 := HS1.out.fb; simp [World.cell?, h9]
          have r1 := Bel.keeps HS1.out.bel o1
          have HO2 : Hid (w.cell? ⟨bb, boff + bn * 6 + 2, none⟩ = some (.int .i64 x.term.k) ∧ w.cell? ⟨bb, boff + bn * 6 + 3, none⟩ = some (.int .i64 x.term.a) ∧ w.cell? ⟨bb, boff + bn * 6 + 4, none⟩ = some (.int .i64 x.term.t) ∧ w.cell? ⟨bb, boff + bn * 6 + 5, none⟩ = some (.int .i64 x.term.e)) := ⟨o2, o3, o4, o5⟩
          clear o1 o2 o3 o4 o5 hps hls hbg
          go_wp2_with fail
          try rw [hw5]
          clear hw5 q0 q1 q2 q3 r0 r1
          obtain ⟨wq, hwq⟩ : ∃ x, x = wr := ⟨_, rfl⟩
          subst hwq
          go_loopw [41] (fun i wr => ∃ (j : Nat) (vv : Value), j ≤ nl ∧ i = .int .i64 j ∧ EmSt w wr E B w.heap.size (.slice (some ⟨ug, 0, none⟩) m uc) vv (codeTo F o k ++ listTo x.list j) o (begTo F o (k + 1)) (.slice (some ⟨bb, boff, none⟩) n bcap) vals) (fun i _ => nl - (intOf i).toNat)
          case atStart => exact ⟨0, _, Nat.zero_le _, rfl, by rw [listTo, List.append_nil]; exact HS1.out⟩
          case round =>
            obtain ⟨j, vj, hj, rfl, hsj⟩ := hrel
            have HSJ : Hid (EmSt w wr E B w.heap.size (.slice (some ⟨ug, 0, none⟩) m uc) vj (codeTo F o k ++ listTo x.list j) o (begTo F o (k + 1)) (.slice (some ⟨bb, boff, none⟩) n bcap) vals) := hsj
            clear hsj
            have hlj : (codeTo F o k ++ listTo x.list j).length ≤ 20000 := by have h9 := listTo_len x.list j; rw [List.length_append, HLN.out]; omega
            by_cases hlt2 : (j : Int) < (nl : Int)
            · obtain ⟨y, HY⟩ : ∃ y, Hid (x.list[j]? = some y) := ⟨x.list[j]'(by have := HNL.out; omega), List.getElem?_eq_getElem _⟩
              obtain ⟨lb, loff, hla, hcy⟩ : ∃ lb loff, la = some ⟨lb, loff, none⟩ ∧ InsAt w lb (loff + j * 5) y := by
                obtain ⟨a9, c9, e9, _, h9⟩ := HLS.out
                simp at e9
                obtain ⟨b9, off9, e10, _, h11⟩ := h9 (by have := HNL.out; omega)
                exact ⟨b9, off9, e9.1.trans e10, h11 j y HY.out⟩
              subst hla
              obtain ⟨y0, y1, y2, y3, y4⟩ := y
              obtain ⟨t0, t1, t2, t3, t4⟩ := hcy
              dsimp only at t0 t1 t2 t3 t4
              replace t0 := Bel.keeps HSJ.out.bel t0
              replace t1 := Bel.keeps HSJ.out.bel t1
              replace t2 := Bel.keeps HSJ.out.bel t2
              replace t3 := Bel.keeps HSJ.out.bel t3
              replace t4 := Bel.keeps HSJ.out.bel t4
              go_wp2_with fail
              clear t0 t1 t2 t3 t4
              refine (impl_emitIns y0 y1 y2 y3 y4 _).mono ?_
              obtain ⟨T, HTT⟩ : ∃ T, Hid (emitX ⟨y0, y1, y2, y3, y4⟩ = T) := ⟨_, rfl⟩
              rw [HTT.out]
              rintro e w6 ⟨tv, rfl, ot, b6⟩
              have HS6 : Hid (EmSt w w6 E B w.heap.size (.slice (some ⟨ug, 0, none⟩) m uc) vj (codeTo F o k ++ listTo x.list j) o (begTo F o (k + 1)) (.slice (some ⟨bb, boff, none⟩) n bcap) vals) := (HSJ.out.grow (Bel.alloc _ _)).grow b6
              have HOT : Hid (StepsAt w6 tv T) := ot.at
              have hTl : T.length ≤ 4 := by rw [← HTT.out]; exact emitX_len _
              clear ot b6
              go_wp2_with fail
              refine (put_any w.heap.size E vj tv (codeTo F o k ++ listTo x.list j) T _ HS6.out.em HS6.out.bel.size HOT.out (by omega)).mono ?_
              rintro e w7 ⟨rr, v7, rfl, _, h1, h2⟩
              have HS7 : Hid (EmSt w w7 E B w.heap.size (.slice (some ⟨ug, 0, none⟩) m uc) v7 (codeTo F o k ++ listTo x.list (j + 1)) o (begTo F o (k + 1)) (.slice (some ⟨bb, boff, none⟩) n bcap) vals) := by
                rw [listTo_next HY.out, HTT.out, ← List.append_assoc]
                exact HS6.out.to h1 h2
              clear h1 h2
              go_wp2
              go_roundw
              case rel => exact ⟨j + 1, v7, by omega, by go_num, HS7.out⟩
              case measure => simp [intOf]; omega
            · have hjn : j = nl := by omega
              subst hjn
              obtain ⟨o2, o3, o4, o5⟩ := HO2.out
              replace o2 := Bel.keeps HSJ.out.bel o2
              replace o3 := Bel.keeps HSJ.out.bel o3
              replace o4 := Bel.keeps HSJ.out.bel o4
              replace o5 := Bel.keeps HSJ.out.bel o5
              have r0 : wr.cell? ⟨w.heap.size, 0, none⟩ = some (.slice (some ⟨bb, boff, none⟩) n bcap) := by have h9 := HSJ.out.fb; simp [World.cell?, h9]
              have HTK := term_kinds (HS.out.2.2.2.2 bn x HX.out).2.2.2.2
              have HTE : Hid (blockL x = listTo x.list j ++ termL x.term) := by show _ = _; unfold blockL; rw [HNL.out]
              have HKK : Hid (x.term.k = 1 ∨ x.term.k = 2 ∨ x.term.k = 3) := by show _ ∨ _; rcases HTK with ⟨h, _⟩ | ⟨h, _⟩ | ⟨h, _⟩ <;> omega
              have HHA : Hid (x.term.k ≠ 1 → homeB x.term.a = true) := fun h1 => by
                have hV := HV.out
                rcases HTK with ⟨h, _⟩ | ⟨_, _, _, h2, h3⟩ | ⟨_, h2, h3⟩
                · exact absurd h h1
                · exact homeOf h2 h3 (by omega)
                · exact homeOf h2 h3 (by omega)
              clear HTK
              obtain ⟨tm, HTM⟩ : ∃ q : TermD, Hid (x.term = q) := ⟨_, rfl⟩
              rw [HTM.out] at o2 o3 o4 o5 HTE HKK HHA
              obtain ⟨tk, ta, tt, te⟩ := tm
              dsimp only at o2 o3 o4 o5 HKK HHA
              go_wp2_with fail
              clear o2 o3 o4 o5 r0
              refine (term_any w.heap.size E vj (codeTo F o k ++ listTo x.list j) tk ta tt te _ HSJ.out.em HSJ.out.bel.size (by omega) HKK.out HHA.out).mono ?_
              rintro e w7 ⟨rr, v7, rfl, _, h1, h2⟩
              have HS7 : Hid (EmSt w w7 E B w.heap.size (.slice (some ⟨ug, 0, none⟩) m uc) v7 (codeTo F o (k + 1)) o (begTo F o (k + 1)) (.slice (some ⟨bb, boff, none⟩) n bcap) vals) := by
                rw [codeTo_next HOB.out (by simpa using HX.out), HTE.out, ← List.append_assoc]
                exact HSJ.out.to h1 h2
              clear h1 h2
              go_wp2
              go_roundw
              case rel => exact ⟨k + 1, v7, by omega, by go_num, HS7.out⟩
              case measure => simp [intOf]; omega
        · have hkm : k = m := by omega
          subst hkm
          have y0 : wr.cell? ⟨B, 0, none⟩ = some (.int .i64 (begTo F o k 0)) := by have h9 := HST.out.beg; simp only [World.cell?, h9]; rfl
          have y1 : wr.cell? ⟨B, 1, none⟩ = some (.int .i64 (begTo F o k 1)) := by have h9 := HST.out.beg; simp only [World.cell?, h9]; rfl
          have y2 : wr.cell? ⟨B, 2, none⟩ = some (.int .i64 (begTo F o k 2)) := by have h9 := HST.out.beg; simp only [World.cell?, h9]; rfl
          have y3 : wr.cell? ⟨B, 3, none⟩ = some (.int .i64 (begTo F o k 3)) := by have h9 := HST.out.beg; simp only [World.cell?, h9]; rfl
          have y4 : wr.cell? ⟨B, 4, none⟩ = some (.int .i64 (begTo F o k 4)) := by have h9 := HST.out.beg; simp only [World.cell?, h9]; rfl
          have y5 : wr.cell? ⟨B, 5, none⟩ = some (.int .i64 (begTo F o k 5)) := by have h9 := HST.out.beg; simp only [World.cell?, h9]; rfl
          have y6 : wr.cell? ⟨B, 6, none⟩ = some (.int .i64 (begTo F o k 6)) := by have h9 := HST.out.beg; simp only [World.cell?, h9]; rfl
          have y7 : wr.cell? ⟨B, 7, none⟩ = some (.int .i64 (begTo F o k 7)) := by have h9 := HST.out.beg; simp only [World.cell?, h9]; rfl
          have y8 : wr.cell? ⟨B, 8, none⟩ = some (.int .i64 (begTo F o k 8)) := by have h9 := HST.out.beg; simp only [World.cell?, h9]; rfl
          have y9 : wr.cell? ⟨B, 9, none⟩ = some (.int .i64 (begTo F o k 9)) := by have h9 := HST.out.beg; simp only [World.cell?, h9]; rfl
          have y10 : wr.cell? ⟨B, 10, none⟩ = some (.int .i64 (begTo F o k 10)) := by have h9 := HST.out.beg; simp only [World.cell?, h9]; rfl
          have y11 : wr.cell? ⟨B, 11, none⟩ = some (.int .i64 (begTo F o k 11)) := by have h9 := HST.out.beg; simp only [World.cell?, h9]; rfl
          have y12 : wr.cell? ⟨B, 12, none⟩ = some (.int .i64 (begTo F o k 12)) := by have h9 := HST.out.beg; simp only [World.cell?, h9]; rfl
          have y13 : wr.cell? ⟨B, 13, none⟩ = some (.int .i64 (begTo F o k 13)) := by have h9 := HST.out.beg; simp only [World.cell?, h9]; rfl
          have y14 : wr.cell? ⟨B, 14, none⟩ = some (.int .i64 (begTo F o k 14)) := by have h9 := HST.out.beg; simp only [World.cell?, h9]; rfl
          have y15 : wr.cell? ⟨B, 15, none⟩ = some (.int .i64 (begTo F o k 15)) := by have h9 := HST.out.beg; simp only [World.cell?, h9]; rfl
          have eR : codeTo F o k = rawE F := by unfold rawE; rw [HO.out, HM.out]
          have eB : begTo F (orderOf F) (orderOf F).length = begTo F o k := by rw [HO.out, HM.out]
          have HCE : Hid ((codeTo F o k).map (aimE (begTo F o k)) = codeE F) := by show _ = _; unfold codeE; rw [eR, eB]
          have hpos : 0 < (codeTo F o k).length := by rw [eR]; exact rawE_pos HS.out
          have hops : OpsIn (codeTo F o k) := by rw [eR]; exact rawE_ops HS.out
          have hjm : ∀ x ∈ codeTo F o k, jumpE x = true → 0 ≤ x.n ∧ x.n < 16 := fun x hx hj => by
            rw [eR] at hx
            have := rawE_jumps HS.out x hx hj
            have := HN.out
            omega
          have HAIM : Hid (Calls Tryz.prog 48 #[.pointer (some ⟨E, 0, none⟩), .agg (numC 16 (begTo F o k))] wr fun e w' => GivesAim w.heap.size E wr vv ((codeTo F o k).map (aimE (begTo F o k))) e w') := aim_any w.heap.size E vv (codeTo F o k) (begTo F o k) wr HST.out.em HST.out.bel.size hw00 (HT.out.under HST.out.bel hw00) hops hjm hpos (by omega)
          rw [numC16, HCE.out] at HAIM
          clear eR eB hpos hops hjm
          go_wp2_with fail
          clear y0 y1 y2 y3 y4 y5 y6 y7 y8 y9 y10 y11 y12 y13 y14 y15
          refine HAIM.out.mono ?_
          rintro e w8 ⟨rr, rfl, he8, b8⟩
          have HE8 : Hid (EmIs w.heap.size w8 E vv (codeE F)) := he8
          have HB8 : Hid (Below w.heap.size w w8) := HST.out.bel.trans b8
          obtain ⟨z0, _, _, _⟩ := he8.cells
          obtain ⟨va, vn, vc, hvv⟩ : ∃ a n c, vv = .slice a n c := by obtain ⟨a, c, e9, _⟩ := he8.own.row; exact ⟨a, _, c, e9⟩
          subst hvv
          obtain ⟨mk, HMK⟩ : ∃ q, Hid (machineOkB (codeE F) = q) := ⟨_, rfl⟩
          clear he8 b8
          go_wp2_with fail
          refine (impl_machineOk _ (codeE F) _ HE8.out.own.at (codeE_ops HS.out) (HT.out.under HB8.out hw00)).mono ?_
          rw [HMK.out]
          rintro e w9 ⟨rfl, b9⟩
          have HE9 : Hid (EmIs w.heap.size w9 E (.slice va vn vc) (codeE F)) := HE8.out.grow b9
          have HB9 : Hid (Below w.heap.size w w9) := Bel.after HB8.out b9
          clear b9 z0
          cases mk with
          | false =>
            have hb : emitB F = false := emitB_no (fun h => by rw [HMK.out] at h; exact absurd h.2.2 (by simp))
            obtain rfl : R = false := by rw [← HR.out]; exact hb
            have hL : ([] : List InsD) = L := by rw [← HL.out, emitOf_no hb]
            go_wp2
            go_ret2
            exact ⟨_, rfl, by rw [← hL]; exact ownSteps_new (World.alloc_heap_new w9 _) HB9.out.size, Bel.after HB9.out (Bel.alloc _ _)⟩
          | true =>
            have hb : emitB F = true := emitB_yes HP.out (by have := HV.out; omega) HMK.out
            obtain rfl : R = true := by rw [← HR.out]; exact hb
            have hL : codeE F = L := by rw [← HL.out, emitOf_yes hb]
            obtain ⟨z0, _, _, _⟩ := HE9.out.cells
            go_wp2
            go_ret2
            exact ⟨_, rfl, by rw [← hL]; exact HE9.out.own, HB9.out⟩
end Go.Proofs.YtkejplddeelahaaGreatDoor
