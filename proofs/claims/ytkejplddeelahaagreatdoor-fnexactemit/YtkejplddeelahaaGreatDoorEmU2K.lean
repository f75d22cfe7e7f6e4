/- Code from homes: the model's Emit. -/
import Derived.Test.YtkejplddeelahaaGreatDoorEmU1K
import Derived.Test.YtkejplddeelahaaGreatDoorKOrd
import Derived.Test.YtkejplddeelahaaGreatDoorKEdge
import Derived.Test.YtkejplddeelahaaGreatDoorEmT3K
namespace Go.Proofs.YtkejplddeelahaaGreatDoor
open Go.ChangeShapes Go.WideShapes Go.ChangeAt Go.RowKit
set_option linter.unusedVariables false

theorem homeOfS {V a : Int} (h0 : 0 ≤ a) (h1 : a < V) (hV : V ≤ 40) : homeB a = true := homeB_iff.2 (by omega)
theorem wp_skipsU {P : Program} {Q : Exit → Act → World → Prop} {o : Oper} {a : Act} {w w' : World} {K : Act → World → Prop} (h : (execOp a.eval o).run P w = .ok .skip w') (hk : K (a.put o.dst undef) w') : o.wp P a w K Q := by
  unfold Oper.wp
  simp only [h]
  exact hk
def put6 (w : World) (X : Nat) (a b c d e f : Value) : World := (((((w.setCell ⟨X, 0, none⟩ a).setCell ⟨X, 1, none⟩ b).setCell ⟨X, 2, none⟩ c).setCell ⟨X, 3, none⟩ d).setCell ⟨X, 4, none⟩ e).setCell ⟨X, 5, none⟩ f
theorem put6_heap {w : World} {X : Nat} {y0 y1 y2 y3 y4 y5 : Value} {T : TypeId} {z : Nat × Nat} (h : w.heap[X]? = some (.cells #[y0, y1, y2, y3, y4, y5] T z)) (a b c d e f : Value) : (put6 w X a b c d e f).heap[X]? = some (.cells #[a, b, c, d, e, f] T z) := by
  simp [put6, World.setCell, Array.getElem?_modify, h]
theorem put6_below {w0 w : World} {X lo : Nat} (h : Below lo w0 w) (hX : lo ≤ X) (a b c d e f : Value) : Below lo w0 (put6 w X a b c d e f) :=
  (((((h.setCell (p := ⟨X, 0, none⟩) hX _).setCell (p := ⟨X, 1, none⟩) hX _).setCell (p := ⟨X, 2, none⟩) hX _).setCell (p := ⟨X, 3, none⟩) hX _).setCell (p := ⟨X, 4, none⟩) hX _).setCell (p := ⟨X, 5, none⟩) hX _

structure AimG (w0 w : World) (l : List InsD) (bg : Nat → Int) (n sg og ocap k : Nat) : Prop where
  bel : Below w0.heap.size w0 w
  st : OwnInts w w0.heap.size (.slice (some ⟨sg, 0, none⟩) n n) (listN n bg)
  blk : StBlk w og (ocap * 5)
  each : ∀ j x, l[j]? = some x → InsAt w og (j * 5) (if j < k then aimE bg x else x)
theorem AimG.plain {w0 w : World} {l : List InsD} {bg : Nat → Int} {n sg og ocap p : Nat} {x : InsD} (h : AimG w0 w l bg n sg og ocap p) (hx : l[p]? = some x) (hj : jumpE x = false) : AimG w0 w l bg n sg og ocap (p + 1) := by
  refine ⟨h.bel, h.st, h.blk, fun j z hz => ?_⟩
  have h9 := h.each j z hz
  by_cases e : j = p
  · subst e
    rw [hx] at hz
    cases hz
    rw [if_neg (by omega)] at h9
    rw [if_pos (by omega)]
    unfold aimE
    rw [hj]
    exact h9
  · by_cases e2 : j < p
    · rw [if_pos e2] at h9; rw [if_pos (by omega)]; exact h9
    · rw [if_neg e2] at h9; rw [if_neg (by omega)]; exact h9
theorem AimG.jump {w0 w : World} {l : List InsD} {bg : Nat → Int} {n sg og ocap p q : Nat} {x0 x1 x2 x3 : Int} (h : AimG w0 w l bg n sg og ocap p) (hlo : w0.heap.size ≤ og) (hne : sg ≠ og) (hx : l[p]? = some ⟨x0, x1, x2, x3, (q : Int)⟩) (hj : jumpE ⟨x0, x1, x2, x3, (q : Int)⟩ = true) : AimG w0 (w.setCell ⟨og, p * 5 + 4, none⟩ (.int .i64 (bg q))) l bg n sg og ocap (p + 1) := by
  refine ⟨h.bel.setCell (p := ⟨og, p * 5 + 4, none⟩) hlo _, h.st.apartSet (fun e => hne (by simpa [Value.ownBlock] using e)) _, h.blk.set _ _, fun j z hz => ?_⟩
  have h9 := h.each j z hz
  by_cases e : j = p
  · subst e
    rw [hx] at hz
    cases hz
    rw [if_neg (by omega)] at h9
    rw [if_pos (by omega)]
    have e9 : aimE bg ⟨x0, x1, x2, x3, (q : Int)⟩ = ⟨x0, x1, x2, x3, bg q⟩ := by unfold aimE; rw [hj]; simp
    rw [e9]
    obtain ⟨c0, c1, c2, c3, c4⟩ := h9
    exact ⟨cell_aside c0 (by omega), cell_aside c1 (by omega), cell_aside c2 (by omega), cell_aside c3 (by omega), cell_there c4⟩
  · by_cases e2 : j < p
    · rw [if_pos e2] at h9; rw [if_pos (by omega)]; exact h9.store _ _ (by omega)
    · rw [if_neg e2] at h9; rw [if_neg (by omega)]; exact h9.store _ _ (by omega)
theorem AimG.ends {w0 w : World} {l : List InsD} {bg : Nat → Int} {n sg og m ocap : Nat} (h : AimG w0 w l bg n sg og ocap m) (hm : l.length = m) (hmc : m ≤ ocap) (hcm : ocap ≤ maxLen) (hlo : w0.heap.size ≤ og) : OwnSteps w w0.heap.size (.slice (some ⟨og, 0, none⟩) m ocap) (l.map (aimE bg)) := by
  refine ownSteps_of h.blk (by rw [List.length_map]; exact hm) hmc hcm hlo (fun i x hx => ?_)
  rw [List.getElem?_map] at hx
  cases e : l[i]? with
  | none => rw [e] at hx; simp at hx
  | some z =>
    rw [e] at hx
    simp at hx
    subst hx
    have h9 := h.each i z e
    rw [if_pos (by have := (List.getElem?_eq_some_iff.1 e).1; omega)] at h9
    exact h9
theorem SpE.box {w0 w w' : World} {X Y : Nat} {u sv v : Value} {l : List InsD} {o : List Int} {n : Nat} {bg : Nat → Int} {bv : Value} {vals : Int} {cs : Array Value} (h : SpE w0 w X u sv v l o n bg bv vals) (hY : w.heap[Y]? = some (.cells cs 76 (0, 0))) (hg : w.grownBy w' v.ownBlock) : w'.heap[Y]? = some (.cells cs 76 (0, 0)) := by
  have hne : some Y ≠ v.ownBlock := fun e9 => by
    rcases h.out.2 with ⟨e8, _⟩ | ⟨g8, c8, cur8, e8, _, hg8, _⟩
    · rw [e8] at e9; simp [Value.ownBlock] at e9
    · rw [e8] at e9
      simp [Value.ownBlock] at e9
      rw [← e9, hY] at hg8
      simp at hg8
  exact (hg.block _ (Array.getElem?_eq_some_iff.1 hY).1 hne).trans hY
set_option maxRecDepth 100000 in
set_option maxHeartbeats 16000000 in
theorem spec_emit (v : Value) (F : FnD) (w : World) (hF : FnAt w v F) :
    Calls Tryz.prog 11 #[v] w fun e w' => GivesEmit w (emitOf F) (emitB F) e w' := by
  have HF : Hid (FnAt w v F) := hF
  obtain ⟨n, HN⟩ : ∃ n, Hid (F.blocks.length = n) := ⟨_, rfl⟩
  obtain ⟨vals, HV⟩ : ∃ x, Hid (F.values = x) := ⟨_, rfl⟩
  obtain ⟨ba, bcap, rfl⟩ := hF.out HN.out HV.out
  obtain ⟨L, HL⟩ : ∃ L, Hid (emitOf F = L) := ⟨_, rfl⟩
  obtain ⟨R, HR⟩ : ∃ R, Hid (emitB F = R) := ⟨_, rfl⟩
  rw [HL.out, HR.out]
  clear hF
  obtain ⟨wA, hwA⟩ : ∃ W, w.alloc (.cells #[.slice ba n bcap, .int .i64 vals] 26) = W := ⟨_, rfl⟩
  have HBA : Hid (Below w.heap.size w wA) := by show Below _ _ _; rw [← hwA]; exact Bel.alloc _ _
  have HXA : Hid (wA.heap[w.heap.size]? = some (.cells #[.slice ba n bcap, .int .i64 vals] 26 (0, 0))) := by show _ = _; rw [← hwA]; exact World.alloc_heap_new _ _
  have a0 : wA.cell? ⟨w.heap.size, 0, none⟩ = some (.slice ba n bcap) := by simp [World.cell?, HXA.out]
  have a1 : wA.cell? ⟨w.heap.size, 1, none⟩ = some (.int .i64 vals) := by simp [World.cell?, HXA.out]
  go_enter Tryz.func11, Tryz.ntmps11
  go_wp2_with fail
  try rw [hwA]
  clear hwA
  refine (spec_plainOk _ F _ (HF.out.keep (Keeps.of_below HBA.out 0))).mono ?_
  rintro e w1 ⟨pl, rfl, hpl, b1⟩
  have HPL : Hid (pl = true ↔ FnPlain F) := hpl
  have HB1 : Hid (Below w.heap.size w w1) := Bel.after HBA.out b1
  have HX1 : Hid (w1.heap[w.heap.size]? = some (.cells #[.slice ba n bcap, .int .i64 vals] 26 (0, 0))) := (b1.block _ (Array.getElem?_eq_some_iff.1 HXA.out).1).trans HXA.out
  have c0 : w1.cell? ⟨w.heap.size, 0, none⟩ = some (.slice ba n bcap) := by simp [World.cell?, HX1.out]
  have c1 : w1.cell? ⟨w.heap.size, 1, none⟩ = some (.int .i64 vals) := by simp [World.cell?, HX1.out]
  clear hpl b1 a0 a1
  cases pl with
  | false =>
    have hb : emitB F = false := emitB_no (fun h => by have := HPL.out.2 h.1; cases this)
    obtain rfl : R = false := by rw [← HR.out]; exact hb
    have hL : ([] : List InsD) = L := by rw [← HL.out, emitOf_no hb]
    go_wp2
    go_ret2
    exact ⟨_, rfl, by rw [← hL]; exact ownSteps_new (World.alloc_heap_new w1 _) HB1.out.size, Bel.after HB1.out (Bel.alloc _ _)⟩
  | true =>
    have HP : Hid (FnPlain F) := HPL.out.1 rfl
    by_cases hv : vals > 40
    · have hb : emitB F = false := emitB_no (fun h => by have h9 := h.2.1; rw [HV.out] at h9; omega)
      obtain rfl : R = false := by rw [← HR.out]; exact hb
      have hL : ([] : List InsD) = L := by rw [← HL.out, emitOf_no hb]
      go_wp2
      go_ret2
      exact ⟨_, rfl, by rw [← hL]; exact ownSteps_new (World.alloc_heap_new w1 _) HB1.out.size, Bel.after HB1.out (Bel.alloc _ _)⟩
    · have HS : Hid (FnShape F) := HP.out.1
      obtain ⟨w2, hw2⟩ : ∃ W, w1.alloc (.cells #[] 46) = W := ⟨_, rfl⟩
      have hB2 : Below w1.heap.size w1 w2 := by rw [← hw2]; exact Bel.alloc _ _
      have HB2 : Hid (Below w.heap.size w w2) := Bel.after HB1.out hB2
      have HO2 : Hid (OwnSteps w2 w.heap.size (.slice (some ⟨w1.heap.size, 0, none⟩) 0 0) []) := by show OwnSteps _ _ _ _; rw [← hw2]; exact ownSteps_new (World.alloc_heap_new w1 _) HB1.out.size
      have HX2 : Hid (w2.heap[w.heap.size]? = some (.cells #[.slice ba n bcap, .int .i64 vals] 26 (0, 0))) := (hB2.block _ (Array.getElem?_eq_some_iff.1 HX1.out).1).trans HX1.out
      have d0 : w2.cell? ⟨w.heap.size, 0, none⟩ = some (.slice ba n bcap) := by simp [World.cell?, HX2.out]
      have d1 : w2.cell? ⟨w.heap.size, 1, none⟩ = some (.int .i64 vals) := by simp [World.cell?, HX2.out]
      clear hB2
      go_wp2_with fail
      try rw [hw2]
      clear hw2 c0 c1
      refine (l3Order_any _ F _ (HF.out.keep (Keeps.of_below HB2.out 0)) HS.out).mono ?_
      rw [← orderOf_yes HS.out]
      rintro e w3 ⟨u, rfl, ou, b3⟩
      obtain ⟨o, HO⟩ : ∃ o, Hid (orderOf F = o) := ⟨_, rfl⟩
      obtain ⟨m, HM⟩ : ∃ m, Hid (o.length = m) := ⟨_, rfl⟩
      rw [HO.out] at ou
      have hn16 : n ≤ 16 := by rw [← HN.out]; exact HS.out.2.1
      have hX3 := (b3.block _ (Array.getElem?_eq_some_iff.1 HX2.out).1).trans HX2.out
      have e0 : w3.cell? ⟨w.heap.size, 0, none⟩ = some (.slice ba n bcap) := by simp [World.cell?, hX3]
      have hmk := make_ints n (by omega) w3
      have HB3 : Hid (Below w.heap.size w w3) := Bel.after HB2.out b3
      have hmd := own_made (w := w3) (lo := w.heap.size) n (by omega) HB3.out.size
      have HS4 : Hid (SpE w (w3.alloc (.cells (madeCells #[.int .i64 0] n) 3)) w.heap.size u (.slice (some ⟨w3.heap.size, 0, none⟩) n n) (.slice (some ⟨w1.heap.size, 0, none⟩) 0 0) [] o n (begTo F o 0) (.slice ba n bcap) vals) := by
        refine ⟨Bel.after HB3.out (Bel.alloc _ _), ((Bel.alloc w3 _).block _ (Array.getElem?_eq_some_iff.1 hX3).1).trans hX3, (ou.keep (Bel.alloc _ _)).low HB2.out.size, hmd, (HO2.out.keep b3).keep (Bel.alloc _ _), fun g hg e9 => ?_⟩
        have := (World.ownsRow.lt ou g hg).2
        simp [Value.ownBlock] at e9
        omega
      obtain ⟨ua, uc, huu⟩ : ∃ a c, u = .slice a m c := by obtain ⟨a, c, e9, _⟩ := ou.row; exact ⟨a, c, by rw [e9, HM.out]⟩
      subst huu
      have HOI : Hid (∀ b ∈ o, 0 ≤ b ∧ b < (n : Int)) := by rw [← HO.out, ← HN.out]; exact order_in HS.out
      have hm100 : m ≤ 100 := by rw [← HM.out, ← HO.out]; exact orderOf_small F
      clear ou b3 d0 d1 hX3 hmd
      obtain ⟨w4, hw4⟩ : ∃ W, w3.alloc (.cells (madeCells #[.int .i64 0] n) 3) = W := ⟨_, rfl⟩
      obtain ⟨sg, HSG⟩ : ∃ sg, Hid (w3.heap.size = sg) := ⟨_, rfl⟩
      rw [hw4, HSG.out] at HS4
      rw [hw4, HSG.out] at hmk
      go_wp2_with fail
      clear hmk hw4 e0
      go_loopw [4, 7] (fun ov i wr => ∃ (k : Nat) (va : Option Addr) (vn vc : Nat), k ≤ m ∧ i = .int .i64 k ∧ ov = .slice va vn vc ∧ SpE w wr w.heap.size (.slice ua m uc) (.slice (some ⟨sg, 0, none⟩) n n) (.slice va vn vc) (codeTo F o k) o n (begTo F o k) (.slice ba n bcap) vals) (fun _ i _ => m - (intOf i).toNat)
      case atStart => exact ⟨0, _, _, _, Nat.zero_le _, rfl, rfl, HS4.out⟩
      case round =>
        obtain ⟨k, va, vn, vc, hk, rfl, rfl, hst⟩ := hrel
        have HST : Hid (SpE w wr w.heap.size (.slice ua m uc) (.slice (some ⟨sg, 0, none⟩) n n) (.slice va vn vc) (codeTo F o k) o n (begTo F o k) (.slice ba n bcap) vals) := hst
        clear hst
        have hcl : (codeTo F o k).length ≤ 9900 := by have h9 := codeTo_len HS.out o k; omega
        have HVN : Hid ((codeTo F o k).length = vn) := by obtain ⟨a, c, e9, _⟩ := HST.out.out.row; simp at e9; exact e9.2.1.symm
        by_cases hlt : (k : Int) < (m : Int)
        · obtain ⟨b, HOB⟩ : ∃ b, Hid (o[k]? = some b) := ⟨o[k]'(by have := HM.out; omega), List.getElem?_eq_getElem _⟩
          obtain ⟨bn, hbn⟩ : ∃ bn : Nat, b = (bn : Int) := ⟨b.toNat, by have := HOI.out b (List.mem_of_getElem? HOB.out); omega⟩
          subst hbn
          have hbn2 : bn < n := by have := HOI.out _ (List.mem_of_getElem? HOB.out); omega
          have hbi : (bn : Int) < (n : Int) := by omega
          obtain ⟨x, HX⟩ : ∃ x, Hid (F.blocks[bn]? = some x) := ⟨F.blocks[bn]'(by have := HN.out; omega), List.getElem?_eq_getElem _⟩
          obtain ⟨ug, hug⟩ : ∃ ug, ua = some ⟨ug, 0, none⟩ := by
            rcases HST.out.ord.2 with ⟨_, h9⟩ | ⟨g, cap, cur, h9, _⟩
            · have := HM.out; omega
            · simp at h9; exact ⟨g, h9.1⟩
          subst hug
          have q0 : wr.cell? ⟨ug, k, none⟩ = some (.int .i64 (bn : Int)) := by
            have h9 := HST.out.ord.cellAt (i := k) (by omega)
            rw [List.getD_eq_getElem?_getD, HOB.out] at h9
            exact h9
          obtain ⟨bb, boff, hba, pv, lv, o0, o1, o2, o3, o4, o5, hps, hls⟩ := HF.out.blockC HN.out hbn2 HX.out
          subst hba
          have HLS : Hid (ListAt 0 5 InsAt w lv x.list) := hls
          obtain ⟨nl, HNL⟩ : ∃ nl, Hid (x.list.length = nl) := ⟨_, rfl⟩
          obtain ⟨la, lcap, hlv⟩ : ∃ a c, lv = .slice a nl c := by obtain ⟨a, c, e9, _⟩ := hls; exact ⟨a, c, by rw [e9, HNL.out]⟩
          subst hlv
          obtain ⟨pa, np, pc, hpv⟩ : ∃ a n c, pv = .slice a n c := by obtain ⟨a, c, e9, _⟩ := hps; exact ⟨a, _, c, e9⟩
          subst hpv
          have hnl : nl ≤ 24 := by rw [← HNL.out]; exact (HS.out.2.2.2.2 bn x HX.out).2.1
          have HTK := term_kinds (HS.out.2.2.2.2 bn x HX.out).2.2.2.2
          have HTE : Hid (blockL x = listTo x.list nl ++ termL x.term) := by show _ = _; unfold blockL; rw [HNL.out]
          have HKK : Hid (x.term.k = 1 ∨ x.term.k = 2 ∨ x.term.k = 3) := by show _ ∨ _; rcases HTK with ⟨h, _⟩ | ⟨h, _⟩ | ⟨h, _⟩ <;> omega
          have HHA : Hid (x.term.k ≠ 1 → homeB x.term.a = true) := fun h1 => by
            have hV := HV.out
            rcases HTK with ⟨h, _⟩ | ⟨_, _, _, h2, h3⟩ | ⟨_, h2, h3⟩
            · exact absurd h h1
            · exact homeOfS h2 h3 (by omega)
            · exact homeOfS h2 h3 (by omega)
          obtain ⟨tm, HTM⟩ : ∃ q : TermD, Hid (x.term = q) := ⟨_, rfl⟩
          rw [HTM.out] at o2 o3 o4 o5 HTE HKK HHA
          obtain ⟨tk, ta, tt, te⟩ := tm
          dsimp only at o2 o3 o4 o5 HKK HHA
          clear HTK hps hls
          have r0 : wr.cell? ⟨w.heap.size, 0, none⟩ = some (.slice (some ⟨bb, boff, none⟩) n bcap) := by have h9 := HST.out.fb; simp [World.cell?, h9]
          replace o0 := Bel.keeps HST.out.bel o0
          replace o1 := Bel.keeps HST.out.bel o1
          replace o2 := Bel.keeps HST.out.bel o2
          replace o3 := Bel.keeps HST.out.bel o3
          replace o4 := Bel.keeps HST.out.bel o4
          replace o5 := Bel.keeps HST.out.bel o5
          go_wp2_with fail
          refine wp_region_held_drew (S := fun w' => w'.cell? ⟨w.heap.size, 0, none⟩ = some (.slice (some ⟨bb, boff, none⟩) n bcap) ∧ w'.cell? ⟨ug, k, none⟩ = some (.int .i64 (bn : Int)) ∧ w'.cell? ⟨bb, boff + bn * 6, none⟩ = some (.slice pa np pc) ∧ w'.cell? ⟨bb, boff + bn * 6 + 1, none⟩ = some (.slice la nl lcap) ∧ w'.cell? ⟨bb, boff + bn * 6 + 2, none⟩ = some (.int .i64 tk) ∧ w'.cell? ⟨bb, boff + bn * 6 + 3, none⟩ = some (.int .i64 ta) ∧ w'.cell? ⟨bb, boff + bn * 6 + 4, none⟩ = some (.int .i64 tt) ∧ w'.cell? ⟨bb, boff + bn * 6 + 5, none⟩ = some (.int .i64 te)) (by kernel_rfl) ⟨r0, q0, o0, o1, o2, o3, o4, o5⟩ (fun hHeld => ?_)
          refine wpAnyH_take (i := 0) (oi := { dst := some 33, op := Go.Op.fieldAddr 26 (Go.Operand.tmp 1) 0, type := 0, pos := "l15_emit.go:97", after := #[], guard := none }) (v := ?_) rfl (by kernel_rfl) (by kernel_rfl) (by kernel_rfl) (fun _ _ _ h => h) (Or.inl ⟨by rfl, ?_⟩) (by assumption) ?_
          rotate_left
          · intro w hSw
            (try dsimp only at hSw)
            go_simp
            (try with_reducible rfl)
          try simp only [Act.put, List.setIfInBounds_toArray, List.set_cons_zero, List.set_cons_succ]
          refine wpAnyH_take (i := 1) (oi := { dst := some 34, op := Go.Op.load 24 (Go.Operand.tmp 33), type := 24, pos := "l15_emit.go:97", after := #[{ on := 0, ground := Go.Ground.data }], guard := none }) (v := ?_) rfl (by kernel_rfl) (by kernel_rfl) (by kernel_rfl) (fun _ _ _ h => h) (Or.inl ⟨by rfl, ?_⟩) (by assumption) ?_
          rotate_left
          · intro w hSw
            (try dsimp only at hSw)
            go_simp
            (try with_reducible rfl)
          try simp only [Act.put, List.setIfInBounds_toArray, List.set_cons_zero, List.set_cons_succ]
          refine wpAnyH_take (i := 2) (oi := { dst := some 35, op := Go.Op.move (Go.Operand.tmp 5), type := 33, pos := "l15_emit.go:97", after := #[], guard := none }) (v := ?_) rfl (by kernel_rfl) (by kernel_rfl) (by kernel_rfl) (fun _ _ _ h => h) (Or.inl ⟨by rfl, ?_⟩) (by assumption) ?_
          rotate_left
          · intro w hSw
            (try dsimp only at hSw)
            go_simp
            (try with_reducible rfl)
          try simp only [Act.put, List.setIfInBounds_toArray, List.set_cons_zero, List.set_cons_succ]
          refine wpAnyH_take (i := 3) (oi := { dst := some 36, op := Go.Op.move (Go.Operand.tmp 7), type := 3, pos := "l15_emit.go:97", after := #[], guard := none }) (v := ?_) rfl (by kernel_rfl) (by kernel_rfl) (by kernel_rfl) (fun _ _ _ h => h) (Or.inl ⟨by rfl, ?_⟩) (by assumption) ?_
          rotate_left
          · intro w hSw
            (try dsimp only at hSw)
            go_simp
            (try with_reducible rfl)
          try simp only [Act.put, List.setIfInBounds_toArray, List.set_cons_zero, List.set_cons_succ]
          refine wpAnyH_take (i := 4) (oi := { dst := some 37, op := Go.Op.indexAddr 33 (Go.Operand.tmp 35) (Go.Operand.tmp 36), type := 0, pos := "l15_emit.go:97", after := #[{ on := 2, ground := Go.Ground.data }, { on := 3, ground := Go.Ground.data }], guard := none }) (v := ?_) rfl (by kernel_rfl) (by kernel_rfl) (by kernel_rfl) (fun _ _ _ h => h) (Or.inl ⟨by rfl, ?_⟩) (by assumption) ?_
          rotate_left
          · intro w hSw
            (try dsimp only at hSw)
            go_simp
            (try with_reducible rfl)
          try simp only [Act.put, List.setIfInBounds_toArray, List.set_cons_zero, List.set_cons_succ]
          refine wpAnyH_take (i := 5) (oi := { dst := some 38, op := Go.Op.load 3 (Go.Operand.tmp 37), type := 3, pos := "l15_emit.go:97", after := #[{ on := 4, ground := Go.Ground.data }], guard := none }) (v := ?_) rfl (by kernel_rfl) (by kernel_rfl) (by kernel_rfl) (fun _ _ _ h => h) (Or.inl ⟨by rfl, ?_⟩) (by assumption) ?_
          rotate_left
          · intro w hSw
            (try dsimp only at hSw)
            go_simp
            (try with_reducible rfl)
          try simp only [Act.put, List.setIfInBounds_toArray, List.set_cons_zero, List.set_cons_succ]
          refine wpAnyH_take (i := 6) (oi := { dst := some 39, op := Go.Op.indexAddr 24 (Go.Operand.tmp 34) (Go.Operand.tmp 38), type := 0, pos := "l15_emit.go:97", after := #[{ on := 1, ground := Go.Ground.data }, { on := 5, ground := Go.Ground.data }], guard := none }) (v := ?_) rfl (by kernel_rfl) (by kernel_rfl) (by kernel_rfl) (fun _ _ _ h => h) (Or.inl ⟨by rfl, ?_⟩) (by assumption) ?_
          rotate_left
          · intro w hSw
            (try dsimp only at hSw)
            go_simp
            (try with_reducible rfl)
          try simp only [Act.put, List.setIfInBounds_toArray, List.set_cons_zero, List.set_cons_succ]
          refine wpAnyH_take (i := 7) (oi := { dst := some 40, op := Go.Op.load 76 (Go.Operand.tmp 39), type := 76, pos := "l15_emit.go:97", after := #[{ on := 6, ground := Go.Ground.data }], guard := none }) (v := ?_) rfl (by kernel_rfl) (by kernel_rfl) (by kernel_rfl) (fun _ _ _ h => h) (Or.inl ⟨by rfl, ?_⟩) (by assumption) ?_
          rotate_left
          · intro w hSw
            (try dsimp only at hSw)
            go_simp
            (try with_reducible rfl)
          try simp only [Act.put, List.setIfInBounds_toArray, List.set_cons_zero, List.set_cons_succ]
          refine ckAnyH_oneK (i := 8) (o := { dst := some 8, op := Go.Op.alloc 76, type := 0, pos := "l15_emit.go:97", after := #[], guard := none }) rfl rfl (by kernel_rfl) (fun K9 hK9 => ?_)
          have hdr : Below wr.heap.size wr wr.drew := (Below.refl _ wr).drew
          have hal : Below wr.heap.size wr.drew (wr.drew.alloc (.cells #[.slice none 0 0, .slice none 0 0, .int .i64 0, .int .i64 0, .int .i64 0, .int .i64 0] 76)) := Bel.alloc wr.drew _
          refine wp_value (v := .pointer (some ⟨wr.heap.size, 0, none⟩)) (w' := wr.drew.alloc (.cells #[.slice none 0 0, .slice none 0 0, .int .i64 0, .int .i64 0, .int .i64 0, .int .i64 0] 76)) (by simp [execOp, go_sem]) (hK9 _ _ ⟨⟨Bel.keeps hal hHeld.1, Bel.keeps hal hHeld.2.1, Bel.keeps hal hHeld.2.2.1, Bel.keeps hal hHeld.2.2.2.1, Bel.keeps hal hHeld.2.2.2.2.1, Bel.keeps hal hHeld.2.2.2.2.2.1, Bel.keeps hal hHeld.2.2.2.2.2.2.1, Bel.keeps hal hHeld.2.2.2.2.2.2.2⟩, ?_⟩)
          try simp only [Act.put, List.setIfInBounds_toArray, List.set_cons_zero, List.set_cons_succ]
          clear hK9
          refine ckAnyH_oneK (i := 9) (o := { dst := none, op := Go.Op.store 76 (Go.Operand.tmp 8) (Go.Operand.tmp 40), type := 0, pos := "l15_emit.go:97", after := #[{ on := 8, ground := Go.Ground.data }, { on := 7, ground := Go.Ground.data }, { on := 0, ground := Go.Ground.phase }, { on := 1, ground := Go.Ground.phase }, { on := 2, ground := Go.Ground.phase }, { on := 3, ground := Go.Ground.phase }, { on := 4, ground := Go.Ground.phase }, { on := 5, ground := Go.Ground.phase }, { on := 6, ground := Go.Ground.phase }, { on := 7, ground := Go.Ground.phase }, { on := 8, ground := Go.Ground.phase }], guard := none }) rfl rfl (by kernel_rfl) (fun K9 hK9 => ?_)
          have hXz : (wr.drew.alloc (.cells #[.slice none 0 0, .slice none 0 0, .int .i64 0, .int .i64 0, .int .i64 0, .int .i64 0] 76)).heap[wr.heap.size]? = some (.cells #[.slice none 0 0, .slice none 0 0, .int .i64 0, .int .i64 0, .int .i64 0, .int .i64 0] 76 (0, 0)) := World.alloc_heap_new wr.drew _
          obtain ⟨wB, hwB⟩ : ∃ W, wr.drew.alloc (.cells #[.slice none 0 0, .slice none 0 0, .int .i64 0, .int .i64 0, .int .i64 0, .int .i64 0] 76) = W := ⟨_, rfl⟩
          rw [hwB] at hXz hal ⊢
          have x0 : wB.cell? ⟨wr.heap.size, 0, none⟩ = some (.slice none 0 0) := by simp [World.cell?, hXz]
          have x1 : wB.cell? ⟨wr.heap.size, 1, none⟩ = some (.slice none 0 0) := by simp [World.cell?, hXz]
          have x2 : wB.cell? ⟨wr.heap.size, 2, none⟩ = some (.int .i64 0) := by simp [World.cell?, hXz]
          have x3 : wB.cell? ⟨wr.heap.size, 3, none⟩ = some (.int .i64 0) := by simp [World.cell?, hXz]
          have x4 : wB.cell? ⟨wr.heap.size, 4, none⟩ = some (.int .i64 0) := by simp [World.cell?, hXz]
          have x5 : wB.cell? ⟨wr.heap.size, 5, none⟩ = some (.int .i64 0) := by simp [World.cell?, hXz]
          have z0 : wB.frozen? ⟨wr.heap.size, 0, none⟩ = false := by simp [World.frozen?, hXz]
          have z1 : wB.frozen? ⟨wr.heap.size, 1, none⟩ = false := by simp [World.frozen?, hXz]
          have z2 : wB.frozen? ⟨wr.heap.size, 2, none⟩ = false := by simp [World.frozen?, hXz]
          have z3 : wB.frozen? ⟨wr.heap.size, 3, none⟩ = false := by simp [World.frozen?, hXz]
          have z4 : wB.frozen? ⟨wr.heap.size, 4, none⟩ = false := by simp [World.frozen?, hXz]
          have z5 : wB.frozen? ⟨wr.heap.size, 5, none⟩ = false := by simp [World.frozen?, hXz]
          obtain ⟨wC, hwC⟩ : ∃ W, put6 wB wr.heap.size (.slice pa np pc) (.slice la nl lcap) (.int .i64 tk) (.int .i64 ta) (.int .i64 tt) (.int .i64 te) = W := ⟨_, rfl⟩
          have hBC : Below wr.heap.size wr wC := by rw [← hwC]; exact put6_below (Bel.after hdr hal) (Nat.le_refl _) _ _ _ _ _ _
          have hXC : wC.heap[wr.heap.size]? = some (.cells #[.slice pa np pc, .slice la nl lcap, .int .i64 tk, .int .i64 ta, .int .i64 tt, .int .i64 te] 76 (0, 0)) := by rw [← hwC]; exact put6_heap hXz _ _ _ _ _ _
          refine wp_skipsU (w' := wC) (by rw [← hwC]; simp [execOp, go_sem, put6, x0, x1, x2, x3, x4, x5, z0, z1, z2, z3, z4, z5]) (hK9 _ _ ⟨⟨Bel.keeps hBC r0, Bel.keeps hBC q0, Bel.keeps hBC o0, Bel.keeps hBC o1, Bel.keeps hBC o2, Bel.keeps hBC o3, Bel.keeps hBC o4, Bel.keeps hBC o5⟩, ?_⟩)
          clear hK9 hwB hwC hXz hal hdr x0 x1 x2 x3 x4 x5 z0 z1 z2 z3 z4 z5 hHeld
          refine wpAnyH_done (by kernel_rfl) ?_ _
          simp only [Exit.then]
          go_at_K
          obtain ⟨X5, HX5⟩ : ∃ X, Hid (wr.heap.size = X) := ⟨_, rfl⟩
          rw [HX5.out] at hXC ⊢
          have HXC : Hid (wC.heap[X5]? = some (.cells #[.slice pa np pc, .slice la nl lcap, .int .i64 tk, .int .i64 ta, .int .i64 tt, .int .i64 te] 76 (0, 0))) := hXC
          have HSC : Hid (SpE w wC w.heap.size (.slice (some ⟨ug, 0, none⟩) m uc) (.slice (some ⟨sg, 0, none⟩) n n) (.slice va vn vc) (codeTo F o k) o n (begTo F o k) (.slice (some ⟨bb, boff, none⟩) n bcap) vals) := HST.out.grow hBC
          have q1 := Bel.keeps hBC q0
          clear hBC hXC r0 q0 o0 o1 o2 o3 o4 o5
          have q2 : wC.cell? ⟨sg, bn, none⟩ = some (.int .i64 ((listN n (begTo F o k)).getD bn 0)) := HSC.out.st.cellAt (i := bn) (by omega)
          have q3 : wC.frozen? ⟨sg, bn, none⟩ = false := by obtain ⟨cc, hsg⟩ := HSC.out.st.heapOf; simp [World.frozen?, hsg]
          have hbg : updN (begTo F o k) bn (vn : Int) = begTo F o (k + 1) := by
            show _ = updN (begTo F o k) (o.getD k 0).toNat ((codeTo F o k).length : Int)
            rw [List.getD_eq_getElem?_getD, HOB.out, HVN.out]
            rfl
          have HS5 : Hid (SpE w (wC.setCell ⟨sg, bn, none⟩ (.int .i64 (vn : Int))) w.heap.size (.slice (some ⟨ug, 0, none⟩) m uc) (.slice (some ⟨sg, 0, none⟩) n n) (.slice va vn vc) (codeTo F o k) o n (begTo F o (k + 1)) (.slice (some ⟨bb, boff, none⟩) n bcap) vals) := by
            rw [← hbg]
            exact HSC.out.begin hbn2 _
          have HX5C : Hid ((wC.setCell ⟨sg, bn, none⟩ (.int .i64 (vn : Int))).heap[X5]? = some (.cells #[.slice pa np pc, .slice la nl lcap, .int .i64 tk, .int .i64 ta, .int .i64 tt, .int .i64 te] 76 (0, 0))) := (Below.heap_setCell _ _ _ X5 (fun e9 => by
            obtain ⟨cc, hsg⟩ := HSC.out.st.heapOf
            have h9 := HXC.out
            rw [e9, hsg] at h9
            simp at h9)).trans HXC.out
          obtain ⟨w5, hw5⟩ : ∃ W, wC.setCell ⟨sg, bn, none⟩ (.int .i64 (vn : Int)) = W := ⟨_, rfl⟩
          rw [hw5] at HS5 HX5C
          clear hbg
          go_wp2_with fail
          try rw [hw5]
          clear hw5 q1 q2 q3
          obtain ⟨wq, hwq⟩ : ∃ x, x = wr := ⟨_, rfl⟩
          subst hwq
          go_loopw [4, 9] (fun ov i wr => ∃ (j : Nat) (va : Option Addr) (vn vc : Nat), j ≤ nl ∧ i = .int .i64 j ∧ ov = .slice va vn vc ∧ SpE w wr w.heap.size (.slice (some ⟨ug, 0, none⟩) m uc) (.slice (some ⟨sg, 0, none⟩) n n) (.slice va vn vc) (codeTo F o k ++ listTo x.list j) o n (begTo F o (k + 1)) (.slice (some ⟨bb, boff, none⟩) n bcap) vals ∧ wr.heap[X5]? = some (.cells #[.slice pa np pc, .slice la nl lcap, .int .i64 tk, .int .i64 ta, .int .i64 tt, .int .i64 te] 76 (0, 0))) (fun _ i _ => nl - (intOf i).toNat)
          case atStart => exact ⟨0, _, _, _, Nat.zero_le _, rfl, rfl, by rw [listTo, List.append_nil]; exact HS5.out, HX5C.out⟩
          case round =>
            obtain ⟨j, ja, jn, jc, hj, rfl, rfl, hsj, hxj⟩ := hrel
            have HSJ : Hid (SpE w wr w.heap.size (.slice (some ⟨ug, 0, none⟩) m uc) (.slice (some ⟨sg, 0, none⟩) n n) (.slice ja jn jc) (codeTo F o k ++ listTo x.list j) o n (begTo F o (k + 1)) (.slice (some ⟨bb, boff, none⟩) n bcap) vals) := hsj
            have HXJ : Hid (wr.heap[X5]? = some (.cells #[.slice pa np pc, .slice la nl lcap, .int .i64 tk, .int .i64 ta, .int .i64 tt, .int .i64 te] 76 (0, 0))) := hxj
            have c1 : wr.cell? ⟨X5, 1, none⟩ = some (.slice la nl lcap) := by simp [World.cell?, hxj]
            clear hsj hxj
            have hlj : (codeTo F o k ++ listTo x.list j).length ≤ 20000 := by have h9 := listTo_len x.list j; rw [List.length_append]; omega
            by_cases hlt2 : (j : Int) < (nl : Int)
            · obtain ⟨y, HY⟩ : ∃ y, Hid (x.list[j]? = some y) := ⟨x.list[j]'(by have := HNL.out; omega), List.getElem?_eq_getElem _⟩
              obtain ⟨lb, loff, hla, hcy⟩ : ∃ lb loff, la = some ⟨lb, loff, none⟩ ∧ InsAt w lb (loff + j * 5) y := by
                obtain ⟨a9, c9, e9, _, h9⟩ := HLS.out
                simp at e9
                obtain ⟨b9, off9, e10, _, h11⟩ := h9 (by have := HNL.out; omega)
                exact ⟨b9, off9, e9.1.trans e10, h11 j y HY.out⟩
              subst hla
              obtain ⟨y0, y1, y2, y3, y4⟩ := y
              obtain ⟨t0, t1, t2, t3, t4⟩ := hcy
              dsimp only at t0 t1 t2 t3 t4
              replace t0 := Bel.keeps HSJ.out.bel t0
              replace t1 := Bel.keeps HSJ.out.bel t1
              replace t2 := Bel.keeps HSJ.out.bel t2
              replace t3 := Bel.keeps HSJ.out.bel t3
              replace t4 := Bel.keeps HSJ.out.bel t4
              go_wp2_with fail
              clear t0 t1 t2 t3 t4 c1
              refine (spec_emitIns y0 y1 y2 y3 y4 _).mono ?_
              obtain ⟨T, HTT⟩ : ∃ T, Hid (emitX ⟨y0, y1, y2, y3, y4⟩ = T) := ⟨_, rfl⟩
              rw [HTT.out]
              rintro e w6 ⟨tv, rfl, ot, b6⟩
              have hTl : T.length ≤ 4 := by rw [← HTT.out]; exact emitX_len _
              have HS6 : Hid (SpE w w6 w.heap.size (.slice (some ⟨ug, 0, none⟩) m uc) (.slice (some ⟨sg, 0, none⟩) n n) (.slice ja jn jc) (codeTo F o k ++ listTo x.list j) o n (begTo F o (k + 1)) (.slice (some ⟨bb, boff, none⟩) n bcap) vals) := HSJ.out.grow b6
              have hx6 : w6.heap[X5]? = some (.cells #[.slice pa np pc, .slice (some ⟨lb, loff, none⟩) nl lcap, .int .i64 tk, .int .i64 ta, .int .i64 tt, .int .i64 te] 76 (0, 0)) := (b6.block _ (Array.getElem?_eq_some_iff.1 HXJ.out).1).trans HXJ.out
              obtain ⟨v7, w7, hrun, ho7, hg7, _⟩ := add_steps w.heap.size (.slice ja jn jc) tv (codeTo F o k ++ listTo x.list j) T w6 HS6.out.out HS6.out.bel.size ot.at (by omega) 28
              have HRUN : Hid (∀ ty, (Builtin.append_ #[28, 28] ty #[.slice ja jn jc, tv]).run Tryz.prog w6 = .ok v7 w7) := fun ty => hrun
              have HX7 : Hid (w7.heap[X5]? = some (.cells #[.slice pa np pc, .slice (some ⟨lb, loff, none⟩) nl lcap, .int .i64 tk, .int .i64 ta, .int .i64 tt, .int .i64 te] 76 (0, 0))) := HS6.out.box hx6 hg7
              have HS7 : Hid (SpE w w7 w.heap.size (.slice (some ⟨ug, 0, none⟩) m uc) (.slice (some ⟨sg, 0, none⟩) n n) v7 (codeTo F o k ++ listTo x.list (j + 1)) o n (begTo F o (k + 1)) (.slice (some ⟨bb, boff, none⟩) n bcap) vals) := by
                rw [listTo_next HY.out, HTT.out, ← List.append_assoc]
                exact HS6.out.add ho7 hg7
              obtain ⟨va7, vn7, vc7, hv7⟩ : ∃ a n c, v7 = .slice a n c := by obtain ⟨a, c, e9, _⟩ := ho7.row; exact ⟨a, _, c, e9⟩
              subst hv7
              clear hrun ho7 hg7 hx6 ot b6
              go_wp2_with (at_builtin; refine wpList_appendS _ rfl _ _ 28 28 rfl _ _ _ _ rfl rfl (HRUN.out _) ?_)
              go_roundw
              case rel => exact ⟨j + 1, va7, vn7, vc7, by omega, by go_num, rfl, HS7.out, HX7.out⟩
              case measure => simp [intOf]; omega
            · have hjn : j = nl := by omega
              subst hjn
              have c2 : wr.cell? ⟨X5, 2, none⟩ = some (.int .i64 tk) := by have h9 := HXJ.out; simp [World.cell?, h9]
              have c3 : wr.cell? ⟨X5, 3, none⟩ = some (.int .i64 ta) := by have h9 := HXJ.out; simp [World.cell?, h9]
              have c4 : wr.cell? ⟨X5, 4, none⟩ = some (.int .i64 tt) := by have h9 := HXJ.out; simp [World.cell?, h9]
              have c5 : wr.cell? ⟨X5, 5, none⟩ = some (.int .i64 te) := by have h9 := HXJ.out; simp [World.cell?, h9]
              go_wp2_with fail
              clear c1 c2 c3 c4 c5
              refine (l15Term_any tk ta tt te _ HKK.out HHA.out).mono ?_
              obtain ⟨T, HTT⟩ : ∃ T, Hid (termL ⟨tk, ta, tt, te⟩ = T) := ⟨_, rfl⟩
              rw [HTT.out]
              rintro e w6 ⟨tv, rfl, ot, b6⟩
              have hTl : T.length ≤ 3 := by rw [← HTT.out]; exact termL_len _
              have HS6 : Hid (SpE w w6 w.heap.size (.slice (some ⟨ug, 0, none⟩) m uc) (.slice (some ⟨sg, 0, none⟩) n n) (.slice ja jn jc) (codeTo F o k ++ listTo x.list j) o n (begTo F o (k + 1)) (.slice (some ⟨bb, boff, none⟩) n bcap) vals) := HSJ.out.grow b6
              obtain ⟨v7, w7, hrun, ho7, hg7, _⟩ := add_steps w.heap.size (.slice ja jn jc) tv (codeTo F o k ++ listTo x.list j) T w6 HS6.out.out HS6.out.bel.size ot.at (by omega) 28
              have HRUN : Hid (∀ ty, (Builtin.append_ #[28, 28] ty #[.slice ja jn jc, tv]).run Tryz.prog w6 = .ok v7 w7) := fun ty => hrun
              have HS7 : Hid (SpE w w7 w.heap.size (.slice (some ⟨ug, 0, none⟩) m uc) (.slice (some ⟨sg, 0, none⟩) n n) v7 (codeTo F o (k + 1)) o n (begTo F o (k + 1)) (.slice (some ⟨bb, boff, none⟩) n bcap) vals) := by
                rw [codeTo_next HOB.out (by simpa using HX.out), HTE.out, HTT.out, ← List.append_assoc]
                exact HS6.out.add ho7 hg7
              obtain ⟨va7, vn7, vc7, hv7⟩ : ∃ a n c, v7 = .slice a n c := by obtain ⟨a, c, e9, _⟩ := ho7.row; exact ⟨a, _, c, e9⟩
              subst hv7
              clear hrun ho7 hg7 ot b6
              go_wp2_with (at_builtin; refine wpList_appendS _ rfl _ _ 28 28 rfl _ _ _ _ rfl rfl (HRUN.out _) ?_)
              go_roundw
              case rel => exact ⟨k + 1, va7, vn7, vc7, by omega, by go_num, rfl, HS7.out⟩
              case measure => simp [intOf]; omega
        · have hkm : k = m := by omega
          subst hkm
          have eR : codeTo F o k = rawE F := by unfold rawE; rw [HO.out, HM.out]
          have eB : begTo F (orderOf F) (orderOf F).length = begTo F o k := by rw [HO.out, HM.out]
          have HCE : Hid ((codeTo F o k).map (aimE (begTo F o k)) = codeE F) := by show _ = _; unfold codeE; rw [eR, eB]
          have hpos : 0 < (codeTo F o k).length := by rw [eR]; exact rawE_pos HS.out
          have HJM : Hid (∀ x ∈ codeTo F o k, jumpE x = true → 0 ≤ x.n ∧ x.n < (n : Int)) := fun x hx hj => by
            rw [eR] at hx
            have := rawE_jumps HS.out x hx hj
            have := HN.out
            omega
          have hvnp : 0 < vn := by have := HVN.out; omega
          have hvn9 : vn ≤ 9900 := by have := HVN.out; omega
          obtain ⟨og, hog⟩ : ∃ og, va = some ⟨og, 0, none⟩ := by
            rcases HST.out.out.2 with ⟨_, h0⟩ | ⟨g', c', cur, h0, _⟩
            · omega
            · simp at h0; exact ⟨g', h0.1⟩
          subst hog
          obtain ⟨hblk, holo, _, hocap, hocm, _⟩ := HST.out.out.blk
          have hne : sg ≠ og := fun e => by
            subst e
            obtain ⟨c1, h1⟩ := HST.out.st.heapOf
            obtain ⟨c2, h2, _⟩ := hblk
            rw [h1] at h2
            simp at h2
          have HAIM : Hid (AimG w wr (codeTo F o k) (begTo F o k) n sg og vc 0) := ⟨HST.out.bel, HST.out.st, hblk, fun j x hx => by
            obtain ⟨a9, c9, e9, h9⟩ := HST.out.out.row
            obtain ⟨g9, e10, _, _, h11, _⟩ := h9 (by omega)
            simp at e9
            rw [e10] at e9
            simp at e9
            rw [if_neg (by omega), e9.1]
            exact h11 j x hx⟩
          have HOLO : Hid (w.heap.size ≤ og) := holo
          clear hblk eR eB hpos
          obtain ⟨wq, hwq⟩ : ∃ x, x = wr := ⟨_, rfl⟩
          subst hwq
          go_wp2_with fail
          go_loopw [10] (fun i ws => ∃ p : Nat, p ≤ vn ∧ i = .int .i64 p ∧ AimG w ws (codeTo F o k) (begTo F o k) n sg og vc p) (fun i _ => vn - (intOf i).toNat)
          case atStart => exact ⟨0, Nat.zero_le _, rfl, HAIM.out⟩
          case round =>
            obtain ⟨p, hp, rfl, haim⟩ := hrel
            have HAM : Hid (AimG w wr (codeTo F o k) (begTo F o k) n sg og vc p) := haim
            by_cases hlt3 : (p : Int) < (vn : Int)
            · obtain ⟨x, HX⟩ : ∃ x, Hid ((codeTo F o k)[p]? = some x) := ⟨(codeTo F o k)[p]'(by have := HVN.out; omega), List.getElem?_eq_getElem _⟩
              have hcx := haim.each p x HX.out
              rw [if_neg (by omega)] at hcx
              have HJ : Hid (jumpE x = true → 0 ≤ x.n ∧ x.n < (n : Int)) := HJM.out x (List.mem_of_getElem? HX.out)
              clear haim
              obtain ⟨x0, x1, x2, x3, x4⟩ := x
              obtain ⟨c0, c1, c2, c3, c4⟩ := hcx
              dsimp only at c0 c1 c2 c3 c4 HJ
              by_cases h9 : x0 = 9
              · subst h9
                obtain ⟨q, rfl⟩ : ∃ q : Nat, x4 = (q : Int) := ⟨x4.toNat, by have := HJ.out rfl; omega⟩
                have hqk : q < n := by have := HJ.out rfl; omega
                have hqk2 : (q : Int) < (n : Int) := by omega
                have t0 := HAM.out.st.cellAt (i := q) hqk
                rw [listN_at n _ hqk] at t0
                have f4 : wr.frozen? ⟨og, p * 5 + 4, none⟩ = false := (HAM.out.blk.cell (j := p * 5 + 4) (by omega)).2
                have HNX : Hid (AimG w (wr.setCell ⟨og, p * 5 + 4, none⟩ (.int .i64 (begTo F o k q))) (codeTo F o k) (begTo F o k) n sg og vc (p + 1)) := HAM.out.jump HOLO.out hne HX.out rfl
                go_wp2
                go_roundw
                case rel => exact ⟨p + 1, by omega, by go_num, HNX.out⟩
                case measure => simp [intOf]; omega
              have e9 : (x0 == 9) = false := by simpa using h9
              by_cases h10 : x0 = 10
              · subst h10
                obtain ⟨q, rfl⟩ : ∃ q : Nat, x4 = (q : Int) := ⟨x4.toNat, by have := HJ.out rfl; omega⟩
                have hqk : q < n := by have := HJ.out rfl; omega
                have hqk2 : (q : Int) < (n : Int) := by omega
                have t0 := HAM.out.st.cellAt (i := q) hqk
                rw [listN_at n _ hqk] at t0
                have f4 : wr.frozen? ⟨og, p * 5 + 4, none⟩ = false := (HAM.out.blk.cell (j := p * 5 + 4) (by omega)).2
                have HNX : Hid (AimG w (wr.setCell ⟨og, p * 5 + 4, none⟩ (.int .i64 (begTo F o k q))) (codeTo F o k) (begTo F o k) n sg og vc (p + 1)) := HAM.out.jump HOLO.out hne HX.out rfl
                go_wp2
                go_roundw
                case rel => exact ⟨p + 1, by omega, by go_num, HNX.out⟩
                case measure => simp [intOf]; omega
              have e10 : (x0 == 10) = false := by simpa using h10
              have HNX : Hid (AimG w wr (codeTo F o k) (begTo F o k) n sg og vc (p + 1)) := HAM.out.plain HX.out (by unfold jumpE; simp [h9, h10])
              clear h9 h10
              go_wp2
              go_roundw
              case rel => exact ⟨p + 1, by omega, by go_num, HNX.out⟩
              case measure => simp [intOf]; omega
            · have hpm : p = vn := by omega
              subst hpm
              clear haim
              have HE8 : Hid (OwnSteps wr w.heap.size (.slice (some ⟨og, 0, none⟩) p vc) (codeE F)) := by show OwnSteps _ _ _ _; rw [← HCE.out]; exact HAM.out.ends HVN.out hocap hocm HOLO.out
              have HB8 : Hid (Below w.heap.size w wr) := HAM.out.bel
              obtain ⟨mk, HMK⟩ : ∃ q, Hid (machineOkB (codeE F) = q) := ⟨_, rfl⟩
              go_wp2_with fail
              refine (spec_machineOk _ (codeE F) _ HE8.out.at (codeE_ops HS.out)).mono ?_
              rw [HMK.out]
              rintro e w9 ⟨rfl, b9⟩
              have HE9 : Hid (OwnSteps w9 w.heap.size (.slice (some ⟨og, 0, none⟩) p vc) (codeE F)) := HE8.out.keep b9
              have HB9 : Hid (Below w.heap.size w w9) := Bel.after HB8.out b9
              clear b9
              cases mk with
              | false =>
                have hb : emitB F = false := emitB_no (fun h => by rw [HMK.out] at h; exact absurd h.2.2 (by simp))
                obtain rfl : R = false := by rw [← HR.out]; exact hb
                have hL : ([] : List InsD) = L := by rw [← HL.out, emitOf_no hb]
                go_wp2
                go_ret2
                exact ⟨_, rfl, by rw [← hL]; exact ownSteps_new (World.alloc_heap_new w9 _) HB9.out.size, Bel.after HB9.out (Bel.alloc _ _)⟩
              | true =>
                have hb : emitB F = true := emitB_yes HP.out (by have := HV.out; omega) HMK.out
                obtain rfl : R = true := by rw [← HR.out]; exact hb
                have hL : codeE F = L := by rw [← HL.out, emitOf_yes hb]
                go_wp2
                go_ret2
                exact ⟨_, rfl, by rw [← hL]; exact HE9.out, HB9.out⟩
end Go.Proofs.YtkejplddeelahaaGreatDoor
