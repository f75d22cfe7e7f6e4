/- Folding, of the program: all blocks, in order. -/
import Derived.Test.YtfmdnjnmbkgmjaaGreatDoorFoldImpK
import Derived.Test.YtfmdnjnmbkgmjaaGreatDoorKWalk
import Derived.Test.YtfmdnjnmbkgmjaaGreatDoorKCkE
import Derived.Test.YtfmdnjnmbkgmjaaGreatDoorKUsA
namespace Go.Proofs.YtfmdnjnmbkgmjaaGreatDoor
open Go.ChangeShapes Go.WideShapes Go.ChangeAt Go.RowKit
set_option linter.unusedVariables false
set_option maxRecDepth 100000
open Classical in
noncomputable def foldF (F : FnD) : FnD := if checkOf F = 0 then { F with blocks := (foldO (orderOf F) (F.blocks, noKn)).1 } else F
theorem foldF_yes {F : FnD} (h : checkOf F = 0) : foldF F = { F with blocks := (foldO (orderOf F) (F.blocks, noKn)).1 } := by unfold foldF; rw [if_pos h]
theorem foldF_no {F : FnD} (h : checkOf F ≠ 0) : foldF F = F := by unfold foldF; rw [if_neg h]
theorem orderIn {F : FnD} (h : FnShape F) : ∀ b ∈ orderOf F, 0 ≤ b ∧ b < (F.blocks.length : Int) := by
  rw [orderOf_yes h]
  intro b hb
  exact (wayOf_len h).2.2 b (by simpa using hb)
theorem foldList_any (mb : Nat) (w : World) :
    Calls Tryz.prog 51 #[.map (some mb)] w fun e w' => e = .returned (.func (Fn.func 101) #[] #[.pointer (some ⟨w.heap.size, 0, none⟩)]) ∧ w' = w.alloc (.cells #[.map (some mb)] 76) := by
  go_enter Tryz.func51, Tryz.ntmps51
  go_wp2_with fail
  go_ret
  exact ⟨rfl, rfl⟩
set_option maxHeartbeats 8000000 in
theorem foldPass_any (F : FnD) (lo : Nat) (own : OwnF) (mb kb g : Nat) (bv : Value) (w : World) (hO : FnO lo own w bv F.blocks) (hs : FnShape F) (hm : MapN w mb noKn) (hmb : ¬ (own mb).1 ≤ 3) (hk : w.cell? ⟨kb, 0, none⟩ = some (.map (some mb))) (hkb : ¬ (own kb).1 ≤ 3) (hkm : kb ≠ mb)
    (hg : w.cell? ⟨g, 0, none⟩ = some (.func (Fn.func 101) #[] #[.pointer (some ⟨kb, 0, none⟩)])) (hgo : ¬ (own g).1 ≤ 3) (hgm : g ≠ mb) :
    Calls Tryz.prog 50 #[.agg #[bv, .int .i64 F.values], .slice (some ⟨g, 0, none⟩) 1 1] w fun e w' => GivesFold lo own mb bv w (foldO (orderOf F) (F.blocks, noKn)) e w' := by
  have HO : Hid (FnO lo own w bv F.blocks) := hO
  have HS : Hid (FnShape F) := hs
  have HM : Hid (MapN w mb noKn) := hm
  have HMB : Hid (¬ (own mb).1 ≤ 3) := hmb
  have HK : Hid (w.cell? ⟨kb, 0, none⟩ = some (.map (some mb))) := hk
  have HKB : Hid (¬ (own kb).1 ≤ 3) := hkb
  have HG : Hid (w.cell? ⟨g, 0, none⟩ = some (.func (Fn.func 101) #[] #[.pointer (some ⟨kb, 0, none⟩)])) := hg
  have HGO : Hid (¬ (own g).1 ≤ 3) := hgo
  obtain ⟨n, HN⟩ : ∃ n, Hid (F.blocks.length = n) := ⟨_, rfl⟩
  obtain ⟨vals, HVL⟩ : ∃ x, Hid (F.values = x) := ⟨_, rfl⟩
  obtain ⟨ba, bcap, hbv, _, hrow⟩ := hO.rows
  rw [HN.out] at hbv hrow
  have h1n : 1 ≤ n := by have := hs.1; have := HN.out; omega
  obtain ⟨rb, roff, hba, hrb, _⟩ := hrow (by omega)
  subst hba
  subst hbv
  have HRB : Hid (own rb = (0, 0, 0)) := hrb
  rw [HVL.out]
  have HFA : Hid (FnAt w (.agg #[.slice (some ⟨rb, roff, none⟩) n bcap, .int .i64 vals]) F) := FnAtLo.low (Nat.zero_le _) (hO.fnAt HVL.out)
  have HBI : Hid (BlocksIn F.blocks) := blocksIn_of hs
  clear hO hs hm hmb hk hkb hg hgo hrow hrb
  go_enter Tryz.func50, Tryz.ntmps50
  go_wp2_with fail
  obtain ⟨w1, hw1⟩ : ∃ W, w.alloc (.cells #[.slice (some ⟨rb, roff, none⟩) n bcap, .int .i64 vals] 28) = W := ⟨_, rfl⟩
  obtain ⟨X, HX⟩ : ∃ X, Hid (w.heap.size = X) := ⟨_, rfl⟩
  have B1 : Hid (Below w.heap.size w w1) := by show Below _ _ _; rw [← hw1]; exact Bel.alloc _ _
  have HX0 : Hid (w1.cell? ⟨X, 0, none⟩ = some (.slice (some ⟨rb, roff, none⟩) n bcap)) := by show _ = _; rw [← hw1, ← HX.out]; simp [go_sem]
  rw [hw1, HX.out]
  clear hw1
  refine (impl_order _ F _ (HFA.out.later B1.out)).mono ?_
  rintro e w2 ⟨ov, rfl, oo, b2⟩
  have OO : Hid (OwnInts w2 w1.heap.size ov (orderOf F)) := oo
  obtain ⟨ol, HOL⟩ : ∃ q, Hid ((orderOf F).length = q) := ⟨_, rfl⟩
  obtain ⟨oa, ocap, rfl, _⟩ := oo.row
  rw [HOL.out] at OO ⊢
  have B2 : Hid (Below w.heap.size w w2) := Bel.after B1.out b2
  have X2 : Hid (w2.cell? ⟨X, 0, none⟩ = some (.slice (some ⟨rb, roff, none⟩) n bcap)) := Bel.keeps b2 HX0.out
  have hol : ol ≤ 100 := by rw [← HOL.out]; exact orderOf_small F
  have HXO : Hid (¬ (own X).1 ≤ 3) := fun h => by have := HO.out.high X h; have := HX.out; omega
  have HXM : Hid (X ≠ mb) := fun e => by have := HM.out.lt; have := HX.out; omega
  have hs1 := B1.out.size
  clear oo b2
  go_wp2_with fail
  go_loopw [11] (fun i wr => ∃ k : Nat, k ≤ ol ∧ i = .int .i64 k ∧ FnO lo own wr (.slice (some ⟨rb, roff, none⟩) n bcap) (foldO ((orderOf F).take k) (F.blocks, noKn)).1 ∧ MapN wr mb (foldO ((orderOf F).take k) (F.blocks, noKn)).2 ∧ Turned own mb w2 wr) (fun i _ => ol - (intOf i).toNat)
  case atStart => exact ⟨0, Nat.zero_le _, rfl, by simpa [foldO] using HO.out.keep B2.out, by simpa [foldO] using HM.out.kept B2.out, Turned.refl _ _ _⟩
  case round =>
    obtain ⟨wo, hwo⟩ : ∃ x, x = wr := ⟨_, rfl⟩
    subst hwo
    obtain ⟨k, hk, rfl, hOp, hMp, hTp⟩ := hrel
    obtain ⟨s, HSS⟩ : ∃ s, Hid (foldO ((orderOf F).take k) (F.blocks, noKn) = s) := ⟨_, rfl⟩
    rw [HSS.out] at hOp hMp
    have HOP : Hid (FnO lo own wo (.slice (some ⟨rb, roff, none⟩) n bcap) s.1) := hOp
    have HMP : Hid (MapN wo mb s.2) := hMp
    have HTP : Hid (Turned own mb w2 wo) := hTp
    have HSL : Hid (s.1.length = n) := by show _ = _; rw [← HSS.out, foldO_len]; exact HN.out
    have HSI : Hid (BlocksIn s.1) := by show BlocksIn _; rw [← HSS.out]; exact HBI.out.foldO _
    clear hOp hMp hTp
    by_cases hlt : (k : Int) < (ol : Int)
    · obtain ⟨b, hb⟩ : ∃ b, (orderOf F)[k]? = some b := ⟨_, List.getElem?_eq_getElem (by have := HOL.out; omega)⟩
      obtain ⟨hb0, hbn⟩ := orderIn HS.out b (List.mem_of_getElem? hb)
      obtain ⟨bn, rfl⟩ := Int.eq_ofNat_of_zero_le hb0
      have hbn2 : bn < n := by have := HN.out; omega
      obtain ⟨x, hx⟩ : ∃ x, s.1[bn]? = some x := ⟨_, List.getElem?_eq_getElem (by have := HSL.out; omega)⟩
      have HXB : Hid (s.1[bn]? = some x) := hx
      have HNX : Hid (foldO ((orderOf F).take (k + 1)) (F.blocks, noKn) = foldB s bn) := by
        show _ = _
        rw [List.take_add_one, hb, Option.toList_some, foldO_snoc, HSS.out]
        rfl
      obtain ⟨ob, ooff, hoa, q0⟩ : ∃ ob ooff, oa = some ⟨ob, ooff, none⟩ ∧ wo.cell? ⟨ob, ooff + k, none⟩ = some (.int .i64 (bn : Int)) := by
        obtain ⟨a9, c9, e9, _, h9⟩ := OO.out.at
        simp at e9
        obtain ⟨ob, ooff, e8, h8⟩ := h9 (by have := HOL.out; omega)
        have e10 : oa = some ⟨ob, ooff, none⟩ := by rw [e9.1]; exact e8
        have h10 := (OO.out.lt ob (by rw [e10]; rfl)).1
        refine ⟨ob, ooff, e10, HTP.out.cell ?_ (by have := HM.out.lt; omega) (fun h => by have := HO.out.high ob h; omega)⟩
        rw [h8 k (by have := HOL.out; omega), List.getD_eq_getElem?_getD, hb]
        rfl
      subst hoa
      have xb := HTP.out.cell X2.out HXM.out HXO.out
      have HKw : Hid (wo.cell? ⟨kb, 0, none⟩ = some (.map (some mb))) := HTP.out.cell (Bel.keeps B2.out HK.out) hkm HKB.out
      have HGw : Hid (wo.cell? ⟨g, 0, none⟩ = some (.func (Fn.func 101) #[] #[.pointer (some ⟨kb, 0, none⟩)])) := HTP.out.cell (Bel.keeps B2.out HG.out) hgm HGO.out
      clear hb hx hb0 hbn
      go_wp2_with fail
      clear q0
      go_loopw [17] (fun i ws => ∃ j : Nat, j ≤ 1 ∧ i = .int .i64 j ∧ FnO lo own ws (.slice (some ⟨rb, roff, none⟩) n bcap) (if j = 0 then s else foldB s bn).1 ∧ MapN ws mb (if j = 0 then s else foldB s bn).2 ∧ Turned own mb wo ws) (fun i _ => 1 - (intOf i).toNat)
      case atStart => exact ⟨0, by omega, rfl, HOP.out, HMP.out, Turned.refl _ _ _⟩
      case round =>
        obtain ⟨j, hj, rfl, hOj, hMj, hTj⟩ := hrel
        have HTJ : Hid (Turned own mb wo wr) := hTj
        have hcases : j = 0 ∨ j = 1 := by omega
        rcases hcases with hj0 | hj1
        · subst hj0
          have HOJ : Hid (FnO lo own wr (.slice (some ⟨rb, roff, none⟩) n bcap) s.1) := hOj
          have HMJ : Hid (MapN wr mb s.2) := hMj
          have pk := hTj.cell HKw.out hkm HKB.out
          have pg := hTj.cell HGw.out hgm HGO.out
          have xj := hTj.cell xb HXM.out HXO.out
          clear hOj hMj hTj
          go_wp2_with fail
          refine (foldList1_any lo own mb kb s.2 rb roff n bcap bn s.1 x _ HOJ.out HXB.out (HSI.out bn x HXB.out).1 (HSI.out bn x HXB.out).2 HMJ.out HMB.out pk HKB.out hkm).mono ?_
          rintro e w5 ⟨⟨r, rfl⟩, o5, m5, t5⟩
          have O5 : Hid (FnO lo own w5 (.slice (some ⟨rb, roff, none⟩) n bcap) (foldB s bn).1) := o5
          have M5 : Hid (MapN w5 mb (foldB s bn).2) := m5
          have T5 : Hid (Turned own mb wo w5) := HTJ.out.trans t5
          clear o5 m5 t5
          go_wp2_with fail
          go_roundw
          case rel => exact ⟨1, by omega, by go_num, O5.out, M5.out, T5.out⟩
          case measure => simp [intOf]
        · subst hj1
          have HOJ : Hid (FnO lo own wr (.slice (some ⟨rb, roff, none⟩) n bcap) (foldB s bn).1) := hOj
          have HMJ : Hid (MapN wr mb (foldB s bn).2) := hMj
          clear hOj hMj hTj
          go_wp2_with fail
          go_roundw
          case rel =>
            refine ⟨k + 1, by omega, by go_num, ?_, ?_, HTP.out.trans HTJ.out⟩
            · rw [HNX.out]
              exact HOJ.out
            · rw [HNX.out]
              exact HMJ.out
          case measure => simp [intOf]; omega
    · have hkm2 : k = ol := by omega
      subst hkm2
      have HALL : Hid (foldO (orderOf F) (F.blocks, noKn) = s) := by show _ = _; rw [← HSS.out, List.take_of_length_le (by have := HOL.out; omega)]
      go_wp2_with fail
      go_end0
      rw [HALL.out]
      exact ⟨⟨_, rfl⟩, HOP.out, HMP.out, (Turned.below B2.out).trans HTP.out⟩
set_option maxHeartbeats 8000000 in
theorem impl_fold (v : Value) (F : FnD) (w : World) (hF : FnAt w v F) (hsm : FnSmall F) (hg : HandleAt w) :
    Calls Tryz.prog 12 #[v] w fun e w' => GivesO w (foldF F) e w' := by
  have HF : Hid (FnAt w v F) := hF
  have HSM : Hid (FnSmall F) := hsm
  have HG : Hid (HandleAt w) := hg
  obtain ⟨n, HN⟩ : ∃ n, Hid (F.blocks.length = n) := ⟨_, rfl⟩
  obtain ⟨vals, HV⟩ : ∃ x, Hid (F.values = x) := ⟨_, rfl⟩
  obtain ⟨ba, bcap, rfl⟩ := hF.out HN.out HV.out
  obtain ⟨c, HC⟩ : ∃ c, Hid (checkOf F = c) := ⟨_, rfl⟩
  have hmm := @run_makeMap Tryz.prog
  clear hF hsm hg
  go_enter Tryz.func12, Tryz.ntmps12
  go_wp2_with fail
  obtain ⟨w1, hw1⟩ : ∃ W, (w.alloc (.cells #[.slice ba n bcap, .int .i64 vals] 28)).alloc (.cells #[.slice none 0 0, .int .i64 0] 28) = W := ⟨_, rfl⟩
  have hs1 : w1.heap.size = w.heap.size + 2 := by rw [← hw1]; simp
  have B1 : Hid (Below w.heap.size w w1) := by show Below _ _ _; rw [← hw1]; repeat (first | exact Below.refl _ _ | apply Below.drew | refine Below.alloc ?_ (by simp <;> omega) _ | refine Below.setCell ?_ (by simp <;> omega) _)
  have X1 : Hid (w1.heap[w.heap.size]? = some (.cells #[.slice ba n bcap, .int .i64 vals] 28 (0, 0))) := by
    show _ = _
    rw [← hw1, Below.heap_alloc _ _ _ (by simp)]
    exact World.alloc_heap_new w _
  have R1 : Hid (w1.heap[w.heap.size + 1]? = some (.cells #[.slice none 0 0, .int .i64 0] 28 (0, 0))) := by
    show _ = _
    rw [← hw1]
    have h := World.alloc_heap_new (w.alloc (.cells #[.slice ba n bcap, .int .i64 vals] 28)) (.cells #[.slice none 0 0, .int .i64 0] 28)
    rw [World.size_alloc] at h
    exact h
  obtain ⟨X, HX⟩ : ∃ X, Hid (w.heap.size = X) := ⟨_, rfl⟩
  rw [hw1, HX.out]
  rw [HX.out] at X1 R1 hs1
  clear hw1
  refine (fnCopy_any _ F _ (HF.out.later B1.out) HSM.out).mono ?_
  rintro e w2 ⟨bv, own, rfl, o2, b2⟩
  have O2 : Hid (FnO (X + 2) own w2 bv F.blocks) := by show FnO _ _ _ _ _; rw [← hs1]; exact o2
  have B2 : Hid (Below w.heap.size w w2) := Bel.after B1.out b2
  have X2 : Hid (w2.heap[X]? = some (.cells #[.slice ba n bcap, .int .i64 vals] 28 (0, 0))) := (b2.block X (by omega)).trans X1.out
  have R2 : Hid (w2.heap[X + 1]? = some (.cells #[.slice none 0 0, .int .i64 0] 28 (0, 0))) := (b2.block (X + 1) (by omega)).trans R1.out
  have hs2 : X + 2 ≤ w2.heap.size := by have := b2.size; omega
  rw [HV.out]
  clear b2 o2
  obtain ⟨ba2, bcap2, hbv⟩ := O2.out.rows.is
  rw [HN.out] at hbv
  subst hbv
  have x20 : w2.cell? ⟨X, 0, none⟩ = some (.slice ba n bcap) := by simp [World.cell?, X2.out]
  have x21 : w2.cell? ⟨X, 1, none⟩ = some (.int .i64 vals) := by simp [World.cell?, X2.out]
  have hX2 : X < w2.heap.size := by omega
  go_wp2_with fail
  obtain ⟨w3, hw3⟩ : ∃ W, w2.alloc (.cells #[.slice ba2 n bcap2, .int .i64 vals] 28) = W := ⟨_, rfl⟩
  have B3 : Hid (Below w2.heap.size w2 w3) := by show Below _ _ _; rw [← hw3]; exact Bel.alloc _ _
  obtain ⟨Y, HY⟩ : ∃ Y, Hid (w2.heap.size = Y) := ⟨_, rfl⟩
  have HY3 : Hid (w3.heap[Y]? = some (.cells #[.slice ba2 n bcap2, .int .i64 vals] 28 (0, 0))) := by show _ = _; rw [← hw3, ← HY.out]; exact World.alloc_heap_new _ _
  have hs3 : w3.heap.size = Y + 1 := by rw [← hw3]; have := HY.out; simp; omega
  rw [hw3, HY.out]
  clear hw3 x20 x21 hX2
  refine (impl_check _ F _ (HF.out.later (Bel.after B2.out B3.out)) (HG.out.keep (Bel.after B2.out B3.out))).mono ?_
  rw [HC.out]
  rintro e w4 ⟨rfl, b4⟩
  have B4 : Hid (Below w2.heap.size w2 w4) := Bel.after B3.out b4
  have HY4 : Hid (w4.heap[Y]? = some (.cells #[.slice ba2 n bcap2, .int .i64 vals] 28 (0, 0))) := (b4.block Y (by omega)).trans HY3.out
  have hs4 : Y + 1 ≤ w4.heap.size := by have := b4.size; omega
  have R4 : Hid (w4.heap[X + 1]? = some (.cells #[.slice none 0 0, .int .i64 0] 28 (0, 0))) := (B4.out.block (X + 1) (by omega)).trans R2.out
  have O4 : Hid (FnO (X + 2) own w4 (.slice ba2 n bcap2) F.blocks) := O2.out.keep B4.out
  clear b4
  have y0 : w4.cell? ⟨Y, 0, none⟩ = some (.slice ba2 n bcap2) := by simp [World.cell?, HY4.out]
  have y1 : w4.cell? ⟨Y, 1, none⟩ = some (.int .i64 vals) := by simp [World.cell?, HY4.out]
  have r0 : w4.cell? ⟨X + 1, 0, none⟩ = some (.slice none 0 0) := by simp [World.cell?, R4.out]
  have r1 : w4.cell? ⟨X + 1, 1, none⟩ = some (.int .i64 0) := by simp [World.cell?, R4.out]
  have z0 : w4.frozen? ⟨X + 1, 0, none⟩ = false := by simp [World.frozen?, R4.out]
  have z1 : w4.frozen? ⟨X + 1, 1, none⟩ = false := by simp [World.frozen?, R4.out]
  by_cases hc : c = 0
  · subst hc
    have HW : Hid (FnShape F ∧ ¬ CopyIn F ∧ AllReached F) := check_well HC.out
    have HE : Hid (foldF F = { F with blocks := (foldO (orderOf F) (F.blocks, noKn)).1 }) := foldF_yes HC.out
    clear r0 r1 z0 z1
    go_wp2_with fail
    have hSS : ∀ w', Below w4.heap.size w4 w' → w'.cell? ⟨Y, 0, none⟩ = some (.slice ba2 n bcap2) ∧ w'.cell? ⟨Y, 1, none⟩ = some (.int .i64 vals) := fun w' hb => ⟨Bel.keeps hb y0, Bel.keeps hb y1⟩
    refine wp_noThrow (wp_region_held_drew (S := fun w' => w'.cell? ⟨Y, 0, none⟩ = some (.slice ba2 n bcap2) ∧ w'.cell? ⟨Y, 1, none⟩ = some (.int .i64 vals)) (by kernel_rfl) ⟨y0, y1⟩ (fun hHeld => ?_))
    refine wpAnyH_take (i := 0) (oi := { dst := some 9, op := Go.Op.load 28 (Go.Operand.tmp 3), type := 28, pos := "l07_small.go:22", after := #[], guard := none }) (v := ?_) rfl (by kernel_rfl) (by kernel_rfl) (by kernel_rfl) (fun _ _ _ h => h) (Or.inl ⟨by rfl, ?_⟩) (by assumption) ?_
    rotate_left
    · intro w hSw
      (try dsimp only at hSw)
      go_simp
      (try with_reducible rfl)
    try simp only [Act.put, List.setIfInBounds_toArray, List.set_cons_zero, List.set_cons_succ]
    have BD : Below w4.heap.size w4 w4.drew := (Below.refl _ _).drew
    have hdr : w4.drew.heap.size = w4.heap.size := rfl
    clear hHeld
    generalize w4.drew = wD at BD hdr ⊢
    refine ckAnyH_oneK (i := 1) (o := { dst := some 10, op := Go.Op.makeMap 76 none, type := 76, pos := "l07_small.go:22", after := #[], guard := none }) rfl rfl (by kernel_rfl) (fun K9 hK9 => ?_)
    refine wp_value (v := .map (some wD.heap.size)) (w' := wD.alloc (.map #[] 0)) (by simp [execOp, hmm]) (hK9 _ _ ⟨hSS _ (Bel.after BD (Bel.alloc _ _)), ?_⟩)
    try simp only [Act.put, List.setIfInBounds_toArray, List.set_cons_zero, List.set_cons_succ]
    clear hK9 hmm
    have M5 : Hid (MapN (wD.alloc (.map #[] 0)) wD.heap.size noKn) := mapN_new wD
    obtain ⟨w5, hw5⟩ : ∃ W, wD.alloc (.map #[] 0) = W := ⟨_, rfl⟩
    have B5 : Hid (Below w4.heap.size w4 w5) := by show Below _ _ _; rw [← hw5]; exact Bel.after BD (Bel.alloc _ _)
    have hs5 : w5.heap.size = wD.heap.size + 1 := by rw [← hw5]; simp
    obtain ⟨mb, HMB⟩ : ∃ q, Hid (wD.heap.size = q) := ⟨_, rfl⟩
    rw [hw5, HMB.out] at M5
    rw [hw5, HMB.out]
    rw [HMB.out] at hs5 hdr
    clear hw5
    refine ckAnyH_oneK (i := 2) (o := { dst := some 11, op := Go.Op.call { callee := Go.Callee.value (Go.Operand.func 51), args := #[Go.Operand.tmp 10], argTypes := #[76] }, type := 73, pos := "l07_small.go:22", after := #[{ on := 1, ground := Go.Ground.data }], guard := none }) rfl rfl (by kernel_rfl) (fun K9 hK9 => ?_)
    refine wp_call_of (f := 51) (args := #[.map (some mb)]) (by go_simp) (foldList_any mb _) ?_
    rintro e w6 ⟨rfl, e6⟩
    have B56 : Hid (Below w5.heap.size w5 w6) := by show Below _ _ _; rw [e6]; exact Bel.alloc _ _
    have B6 : Hid (Below w4.heap.size w4 w6) := Bel.after B5.out B56.out
    have k6 : w6.cell? ⟨w5.heap.size, 0, none⟩ = some (.map (some mb)) := by rw [e6]; simp [go_sem]
    have hs6 : w6.heap.size = w5.heap.size + 1 := by rw [e6]; simp
    obtain ⟨kb, HKB⟩ : ∃ q, Hid (w5.heap.size = q) := ⟨_, rfl⟩
    rw [HKB.out] at k6 hs6 ⊢
    clear e6
    refine ⟨_, rfl, ?_⟩
    refine hK9 _ _ ⟨hSS _ B6.out, ?_⟩
    try simp only [Act.put, List.setIfInBounds_toArray, List.set_cons_zero, List.set_cons_succ]
    clear hK9
    refine ckAnyH_oneK (i := 3) (o := { dst := some 12, op := Go.Op.buildSlice 77 1 #[(0, Go.Operand.tmp 11)], type := 77, pos := "l07_small.go:22", after := #[{ on := 2, ground := Go.Ground.data }], guard := none }) rfl rfl (by kernel_rfl) (fun K9 hK9 => ?_)
    refine wp_value (v := .slice (some ⟨w6.heap.size, 0, none⟩) 1 1) (w' := w6.alloc (.cells #[.func (Fn.func 101) #[] #[.pointer (some ⟨kb, 0, none⟩)]] 73)) (by simp [execOp, Instr.buildSlice, go_sem]) (hK9 _ _ ⟨hSS _ (Bel.after B6.out (Bel.alloc _ _)), ?_⟩)
    try simp only [Act.put, List.setIfInBounds_toArray, List.set_cons_zero, List.set_cons_succ]
    clear hK9
    obtain ⟨w7, hw7⟩ : ∃ W, w6.alloc (.cells #[.func (Fn.func 101) #[] #[.pointer (some ⟨kb, 0, none⟩)]] 73) = W := ⟨_, rfl⟩
    have B67 : Hid (Below w6.heap.size w6 w7) := by show Below _ _ _; rw [← hw7]; exact Bel.alloc _ _
    have g7 : w7.cell? ⟨w6.heap.size, 0, none⟩ = some (.func (Fn.func 101) #[] #[.pointer (some ⟨kb, 0, none⟩)]) := by rw [← hw7]; simp [go_sem]
    obtain ⟨G, HGG⟩ : ∃ q, Hid (w6.heap.size = q) := ⟨_, rfl⟩
    rw [HGG.out] at g7 ⊢
    rw [hw7]
    clear hw7
    have B7 : Hid (Below w4.heap.size w4 w7) := Bel.after B6.out B67.out
    have HNO : Hid (∀ q, w4.heap.size ≤ q → ¬ (own q).1 ≤ 3) := fun q hq h => by have := O4.out.high q h; omega
    have e1 := HMB.out
    have e2 := HKB.out
    have e3 := HGG.out
    have eY := HY.out
    have HFP := foldPass_any F (X + 2) own mb kb G (.slice ba2 n bcap2) w7 (O4.out.keep B7.out) HW.out.1 (M5.out.kept (Bel.after B56.out B67.out)) (HNO.out mb (by omega)) (Bel.keeps B67.out k6) (HNO.out kb (by omega)) (by omega) g7 (HNO.out G (by omega)) (by omega)
    rw [HV.out] at HFP
    refine ckAnyH_oneK (i := 4) (o := { dst := some 13, op := Go.Op.call { callee := Go.Callee.value (Go.Operand.func 50), args := #[Go.Operand.tmp 9, Go.Operand.tmp 12], argTypes := #[28, 77] }, type := 0, pos := "l07_small.go:22", after := #[{ on := 0, ground := Go.Ground.data }, { on := 3, ground := Go.Ground.data }, { on := 2, ground := Go.Ground.chain }], guard := none }) rfl rfl (by kernel_rfl) (fun K9 hK9 => ?_)
    refine wp_call_of (f := 50) (args := #[.agg #[.slice ba2 n bcap2, .int .i64 vals], .slice (some ⟨G, 0, none⟩) 1 1]) (by go_simp) HFP ?_
    rintro e w8 ⟨⟨r, rfl⟩, o8, m8, t8⟩
    have O8 : Hid (FnO (X + 2) own w8 (.slice ba2 n bcap2) (foldO (orderOf F) (F.blocks, noKn)).1) := o8
    have B78 : Hid (Below (X + 2) w7 w8) := t8.bel (by have := B7.out.size; omega) O4.out.low (by omega)
    have HYo : Hid (¬ (own Y).1 ≤ 3) := fun h => by have := O2.out.high Y h; have := HY.out; omega
    have hY8 : w8.heap[Y]? = w7.heap[Y]? := t8.block Y (by have := B7.out.size; omega) (by omega) HYo.out
    have HY8 : Hid (w8.heap[Y]? = some (.cells #[.slice ba2 n bcap2, .int .i64 vals] 28 (0, 0))) := hY8.trans ((B7.out.block Y (by omega)).trans HY4.out)
    have R8 : Hid (w8.heap[X + 1]? = some (.cells #[.slice none 0 0, .int .i64 0] 28 (0, 0))) := (B78.out.block (X + 1) (by omega)).trans ((B7.out.block (X + 1) (by omega)).trans R4.out)
    have BF8 : Hid (Below w.heap.size w w8) := (Bel.after (Bel.after B2.out B4.out) B7.out).trans (B78.out.mono (by have := HX.out; omega))
    have y80 : w8.cell? ⟨Y, 0, none⟩ = some (.slice ba2 n bcap2) := by simp [World.cell?, HY8.out]
    have y81 : w8.cell? ⟨Y, 1, none⟩ = some (.int .i64 vals) := by simp [World.cell?, HY8.out]
    clear o8 m8 t8 HFP hY8 k6 g7 y0 y1
    refine ⟨_, rfl, ?_⟩
    refine hK9 _ _ ⟨⟨y80, y81⟩, ?_⟩
    try simp only [Act.put, List.setIfInBounds_toArray, List.set_cons_zero, List.set_cons_succ]
    clear hK9 hSS
    refine wpAnyH_done (by kernel_rfl) ?_ _
    simp only [noThrow, Exit.then]
    have r0 : w8.cell? ⟨X + 1, 0, none⟩ = some (.slice none 0 0) := by simp [World.cell?, R8.out]
    have r1 : w8.cell? ⟨X + 1, 1, none⟩ = some (.int .i64 0) := by simp [World.cell?, R8.out]
    have z0 : w8.frozen? ⟨X + 1, 0, none⟩ = false := by simp [World.frozen?, R8.out]
    have z1 : w8.frozen? ⟨X + 1, 1, none⟩ = false := by simp [World.frozen?, R8.out]
    go_at_K
    go_wp2_with fail
    obtain ⟨q0, q1, hF4, hB4⟩ := copy_box (w := w) (F := { F with blocks := (foldO (orderOf F) (F.blocks, noKn)).1 }) (vals := vals) (R := X + 1) (by have := HX.out; omega) R8.out O8.out BF8.out
    refine bodyPost_ret (v := .agg #[.slice ba2 n bcap2, .int .i64 vals]) (by simp [results, Tryz.results12, go_sem, q0, q1]) rfl ?_
    rw [HE.out]
    exact ⟨_, own, by show _ = Ending.returned (.agg #[_, .int .i64 F.values]); rw [HV.out], hF4, hB4⟩
  · have hc0 : (c == 0) = false := by simpa using hc
    have HE : Hid (foldF F = F) := foldF_no (by rw [HC.out]; exact hc)
    clear hmm
    go_wp2_with fail
    obtain ⟨q0, q1, hF4, hB4⟩ := copy_box (w := w) (F := F) (vals := vals) (R := X + 1) (by have := HX.out; omega) R4.out O4.out (Bel.after B2.out B4.out)
    refine bodyPost_ret (v := .agg #[.slice ba2 n bcap2, .int .i64 vals]) (by simp [results, Tryz.results12, go_sem, q0, q1]) rfl ?_
    rw [HE.out]
    exact ⟨_, own, by rw [HV.out], hF4, hB4⟩
end Go.Proofs.YtfmdnjnmbkgmjaaGreatDoor
