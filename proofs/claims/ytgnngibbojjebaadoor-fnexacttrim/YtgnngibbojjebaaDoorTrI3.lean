/- Trimming: the program's Trim and Trimmed. -/
import Derived.Test.YtgnngibbojjebaaDoorTrI2
import Derived.Test.YtgnngibbojjebaaDoorCks
import Derived.Test.YtgnngibbojjebaaDoorCmOne
import Derived.Deep.RegionWith
namespace Go.Proofs.YtgnngibbojjebaaDoor
open Go.ChangeShapes Go.WideShapes Go.ChangeAt Go.RowKit
set_option linter.unusedVariables false

theorem wp_skipsT {P : Program} {Q : Exit → Act → World → Prop} {o : Oper} {a : Act} {w w' : World} {K : Act → World → Prop} (h : (execOp a.eval o).run P w = .ok .skip w') (hk : K (a.put o.dst undef) w') : o.wp P a w K Q := by
  unfold Oper.wp
  simp only [h]
  exact hk
theorem OwnInts.five {w : World} {lo : Nat} {v : Value} {l : List Int} (h : OwnInts w lo v l) {g : Nat} (hg : v.ownBlock ≠ some g) (o0 o1 o2 o3 o4 : Nat) (k0 k1 k2 k3 k4 : Value) : OwnInts (((((w.setCell ⟨g, o0, none⟩ k0).setCell ⟨g, o1, none⟩ k1).setCell ⟨g, o2, none⟩ k2).setCell ⟨g, o3, none⟩ k3).setCell ⟨g, o4, none⟩ k4) lo v l :=
  ((((h.apartSet hg _).apartSet hg _).apartSet hg _).apartSet hg _).apartSet hg _
/-- What is filled in so far. -/
structure FillAt (w0 w : World) (l : List InsD) (g n gcap tg tcap k : Nat) : Prop where
  bel : Below w0.heap.size w0 w
  thn : OwnInts w w0.heap.size (.slice (some ⟨tg, 0, none⟩) n tcap) (thenL l)
  blk : StBlk w g (gcap * 5)
  fil : ∀ j x, (keptL l k)[j]? = some x → InsAt w g (j * 5) (aimS l x)
theorem FillAt.keep {w0 w w' : World} {l : List InsD} {g n gcap tg tcap k : Nat} (h : FillAt w0 w l g n gcap tg tcap k) (hb : Below w.heap.size w w') : FillAt w0 w' l g n gcap tg tcap k :=
  ⟨Bel.after h.bel hb, h.thn.keep hb, h.blk.keep hb, fun j x hx => (h.fil j x hx).keep (Keeps.of_below hb 0) (Nat.zero_le _)⟩
theorem FillAt.idle {w0 w : World} {l : List InsD} {g n gcap tg tcap k : Nat} {x : InsD} (h : FillAt w0 w l g n gcap tg tcap k) (hx : l[k]? = some x) (hs : staysB l.length k x = false) : FillAt w0 w l g n gcap tg tcap (k + 1) :=
  ⟨h.bel, h.thn, h.blk, by rw [keptL_no hx hs]; exact h.fil⟩
theorem FillAt.one {w0 w : World} {l : List InsD} {g n gcap tg tcap k q : Nat} {x : InsD} {y0 y1 y2 y3 y4 : Int} (h : FillAt w0 w l g n gcap tg tcap k) (hg : w0.heap.size ≤ g) (hgt : tg ≠ g) (hx : l[k]? = some x) (hs : staysB l.length k x = true) (hq : keptN l k = q) (hk : k < gcap) (hy : aimS l x = ⟨y0, y1, y2, y3, y4⟩) :
    FillAt w0 (((((w.setCell ⟨g, q * 5, none⟩ (.int .i64 y0)).setCell ⟨g, q * 5 + 1, none⟩ (.int .i64 y1)).setCell ⟨g, q * 5 + 2, none⟩ (.int .i64 y2)).setCell ⟨g, q * 5 + 3, none⟩ (.int .i64 y3)).setCell ⟨g, q * 5 + 4, none⟩ (.int .i64 y4)) l g n gcap tg tcap (k + 1) := by
  have hqk := keptN_le l k
  refine ⟨below_five h.bel hg _ _ _ _ _ _, h.thn.five (fun e => hgt (by simpa [Value.ownBlock] using e)) _ _ _ _ _ _ _ _ _ _, ((((h.blk.set _ _).set _ _).set _ _).set _ _).set _ _, fun j z hz => ?_⟩
  rw [keptL_yes hx hs] at hz
  by_cases hj : j < (keptL l k).length
  · rw [List.getElem?_append_left hj] at hz
    have hjq : j < q := by rw [← hq]; exact hj
    exact (((((h.fil j z hz).store _ _ (by omega)).store _ _ (by omega)).store _ _ (by omega)).store _ _ (by omega)).store _ _ (by omega)
  · have hjl := (List.getElem?_eq_some_iff.1 hz).1
    rw [List.length_append, List.length_singleton] at hjl
    have hjq : j = q := by rw [← hq]; unfold keptN; omega
    have hzx : z = x := by
      rw [List.getElem?_append_right (by omega), show j - (keptL l k).length = 0 by omega] at hz
      simpa using hz.symm
    subst hzx
    subst hjq
    rw [hy]
    obtain ⟨⟨u0, q0⟩, _⟩ := h.blk.cell (j := j * 5) (by omega)
    obtain ⟨⟨u1, q1⟩, _⟩ := h.blk.cell (j := j * 5 + 1) (by omega)
    obtain ⟨⟨u2, q2⟩, _⟩ := h.blk.cell (j := j * 5 + 2) (by omega)
    obtain ⟨⟨u3, q3⟩, _⟩ := h.blk.cell (j := j * 5 + 3) (by omega)
    obtain ⟨⟨u4, q4⟩, _⟩ := h.blk.cell (j := j * 5 + 4) (by omega)
    exact ins_put q0 q1 q2 q3 q4
theorem FillAt.ends {w0 w : World} {l : List InsD} {g n gcap tg tcap m : Nat} (h : FillAt w0 w l g n gcap tg tcap n) (hn : l.length = n) (hnc : n ≤ gcap) (hcm : gcap ≤ maxLen) (hg : w0.heap.size ≤ g) (hm : keptN l n = m) : OwnSteps w w0.heap.size (.slice (some ⟨g, 0, none⟩) m gcap) (trimL l) := by
  have hle := keptN_le l n
  refine ownSteps_of h.blk ?_ (by omega) hcm hg (fun i x hx => ?_)
  · unfold trimL
    rw [List.length_map, hn]
    exact hm
  · unfold trimL at hx
    rw [List.getElem?_map, hn] at hx
    cases e : (keptL l n)[i]? with
    | none => rw [e] at hx; simp at hx
    | some z =>
      rw [e] at hx
      simp at hx
      subst hx
      exact h.fil i z e

set_option maxRecDepth 100000 in
set_option maxHeartbeats 8000000 in
theorem impl_trim (v : Value) (l : List InsD) (w : World) (ha : StepsAt w v l) (ho : OpsIn l) (hT : FTab w) (hs : l.length ≤ 1048576) :
    Calls Tryd.prog 23 #[v] w fun e w' => GivesSteps w (trimOf l) e w' := by
  have HA0 : Hid (StepsAt w v l) := ha
  obtain ⟨a, cap, rfl, hm, hc⟩ := ha
  obtain ⟨n, HN⟩ : ∃ m, Hid (l.length = m) := ⟨_, rfl⟩
  rw [HN.out] at hs hm HA0 ⊢
  have HA : Hid (StepsAt w (.slice a n cap) l) := HA0.out
  clear hc hm HA0
  have HO : Hid (OpsIn l) := ho
  have HT : Hid (FTab w) := hT
  clear ho hT
  obtain ⟨R, HR⟩ : ∃ R, Hid (machineOkB l = R) := ⟨_, rfl⟩
  obtain ⟨v1, w1, hrun, ho1, hb1, g, gcap, rfl⟩ := stepsCopied HA.out HN.out hs
  have HRUN : Hid (∀ ty, (Builtin.append_ #[27, 27] ty #[.slice (some ⟨w.heap.size, 0, none⟩) 0 0, .slice a n cap]).run Tryd.prog (w.alloc (.cells #[] 32)) = .ok (.slice (some ⟨g, 0, none⟩) n gcap) w1) := hrun
  have HO1 : Hid (OwnSteps w1 w.heap.size (.slice (some ⟨g, 0, none⟩) n gcap) l) := ho1
  have HB1 : Hid (Below w.heap.size w w1) := hb1
  clear hrun ho1 hb1
  obtain ⟨L, HL⟩ : ∃ L, Hid (trimOf l = L) := ⟨_, rfl⟩
  rw [HL.out]
  go_enter Tryd.func23, Tryd.ntmps23
  go_wp2_with (at_builtin; refine wpList_appendS _ rfl _ _ 27 27 rfl _ _ _ _ rfl rfl (HRUN.out _) ?_)
  refine (impl_machineOk _ l _ (StepsAt.keep HA.out HB1.out) HO.out (HT.out.keep HB1.out)).mono ?_
  rw [HR.out]
  rintro e w2 ⟨rfl, b2⟩
  have HO2 : Hid (OwnSteps w2 w.heap.size (.slice (some ⟨g, 0, none⟩) n gcap) l) := HO1.out.keep b2
  have HB2 : Hid (Below w.heap.size w w2) := Bel.after HB1.out b2
  clear b2
  cases R with
  | false =>
    have e9 : l = L := by rw [← HL.out]; unfold trimOf; rw [HR.out]; rfl
    go_wp2_with fail
    go_ret
    exact ⟨_, rfl, by rw [← e9]; exact HO2.out, HB2.out⟩
  | true =>
    have HE : Hid (trimL l = L) := by show _ = _; rw [← HL.out]; unfold trimOf; rw [HR.out]; rfl
    have hpos : 1 ≤ n ∧ n ≤ 900 := by have h := machineOkB_parts HR.out; have := HN.out; omega
    go_wp2_with fail
    refine (placesThen_any a n cap l _ (StepsAt.keep HA.out HB2.out) HN.out HR.out).mono ?_
    rintro e w3 ⟨tv, rfl, ot, b3⟩
    obtain ⟨tg, tcap, htv⟩ : ∃ tg tcap, tv = .slice (some ⟨tg, 0, none⟩) n tcap := by
      rcases ot.2 with ⟨_, h0⟩ | ⟨g', c', cur, h0, _⟩
      · rw [thenL_len, HN.out] at h0; omega
      · exact ⟨g', c', by rw [h0, thenL_len, HN.out]⟩
    subst htv
    have HOT : Hid (OwnInts w3 w2.heap.size (.slice (some ⟨tg, 0, none⟩) n tcap) (thenL l)) := ot
    have HO3 : Hid (OwnSteps w3 w.heap.size (.slice (some ⟨g, 0, none⟩) n gcap) l) := HO2.out.keep b3
    have HB3 : Hid (Below w.heap.size w w3) := Bel.after HB2.out b3
    have hs23 := HB2.out.size
    clear b3 ot
    obtain ⟨hblk, hglo, hglt, hgn, hgm, _⟩ := HO3.out.blk
    have hgt : tg ≠ g := fun e => by
      have h1 := (HOT.out.lt tg rfl).1
      have h2 := (HO2.out.lt g rfl).2
      omega
    obtain ⟨w4, hcl, hblk4, hoth, hbel⟩ := clear_steps w3 g n gcap (by omega) hblk hgn
    have HCL : Hid (∀ ty, (Builtin.clear_ #[27] ty #[.slice (some ⟨g, 0, none⟩) n gcap]).run Tryd.prog w3 = .ok (.tuple #[]) w4) := hcl
    have HF : Hid (FillAt w w4 l g n gcap tg tcap 0) := by
      refine ⟨hbel _ _ hglo HB3.out, ?_, hblk4, fun j x hx => by simp [keptL] at hx⟩
      obtain ⟨h0, h1⟩ := HOT.out.low hs23
      refine ⟨h0, ?_⟩
      rcases h1 with h1 | ⟨g', c', cur, e', hl', hg', h2⟩
      · exact .inl h1
      · exact .inr ⟨g', c', cur, e', hl', (hoth g' (fun e => by
          have e2 : tg = g' := by cases e'; rfl
          exact hgt (e2.trans e))).trans hg', h2⟩
    have hkl := keptN_last (l := l) (k := n - 1) (by have := HN.out; omega) (List.getElem?_eq_getElem (by have := HN.out; omega))
    rw [HN.out] at hkl
    have HGLO : Hid (w.heap.size ≤ g) := hglo
    clear hcl hblk4 hoth hbel hblk hglt
    have hcl0 := HCL.out 0
    go_wp2_with fail
    clear hcl0
    go_loopw [19] (fun i wr => ∃ k : Nat, k ≤ n ∧ i = .int .i64 k ∧ FillAt w wr l g n gcap tg tcap k) (fun i _ => n - (intOf i).toNat)
    case atStart => exact ⟨0, Nat.zero_le _, rfl, HF.out⟩
    case round =>
      obtain ⟨k, hk, rfl, hf⟩ := hrel
      have HFK : Hid (FillAt w wr l g n gcap tg tcap k) := hf
      by_cases hlt : (k : Int) < (n : Int)
      · have hkl2 : k < l.length := by have := HN.out; omega
        obtain ⟨x, HX⟩ : ∃ x, Hid (l[k]? = some x) := ⟨l[k], List.getElem?_eq_getElem hkl2⟩
        have hmem := List.mem_of_getElem? HX.out
        have HREG : Hid (0 ≤ x.d ∧ x.d ≤ 7) := move_regs HR.out hmem
        have HXO : Hid (-9223372036854775808 ≤ x.op ∧ x.op ≤ 9223372036854775807) := HO.out.at HX.out
        have HJ : Hid (jumpB x = true → 0 ≤ x.n ∧ x.n < (n : Int)) := fun h => by have h9 := jump_place HR.out hmem h; have := HN.out; omega
        have haK := StepsAt.keep HA.out hf.bel
        obtain ⟨a0, cap0, e0, _, hc0⟩ := id haK
        simp at e0
        obtain ⟨b, off, hab, _, hd⟩ := hc0 (by omega)
        have hcx := hd k x HX.out
        rw [← e0.1] at hab
        subst hab
        clear hc0 hd e0 hmem hkl2 haK
        obtain ⟨x0, x1, x2, x3, x4⟩ := x
        obtain ⟨c0, c1, c2, c3, c4⟩ := hcx
        dsimp only at c0 c1 c2 c3 c4 HREG HXO HJ
        obtain ⟨q, HQ⟩ : ∃ q, Hid (keptN l k = q) := ⟨_, rfl⟩
        have hqk : q ≤ k := by rw [← HQ.out]; exact keptN_le l k
        clear hf
        go_wp2_with fail
        refine (stays_any (some ⟨b, off, none⟩) n cap l k ⟨x0, x1, x2, x3, x4⟩ _ (StepsAt.keep (StepsAt.keep HA.out HFK.out.bel) (by repeat (first | exact Below.refl _ _ | apply Below.drew | refine Below.alloc ?_ (by simp <;> omega) _ | refine Below.setCell ?_ (by simp <;> omega) _))) HN.out (by omega) HX.out HREG.out).mono ?_
        obtain ⟨s, HS⟩ : ∃ s, Hid (staysB n k ⟨x0, x1, x2, x3, x4⟩ = s) := ⟨_, rfl⟩
        rw [HS.out]
        rintro e w5 ⟨rfl, b5⟩
        have hbox : SBox (wr.alloc (.cells #[.int .i64 x0, .int .i64 x1, .int .i64 x2, .int .i64 x3, .int .i64 x4] 32)) wr.heap.size x0 x1 x2 x3 x4 := World.alloc_heap_new wr _
        have X5 := hbox.keep b5
        have HF5 : Hid (FillAt w w5 l g n gcap tg tcap k) := (HFK.out.keep (Bel.alloc _ _)).keep b5
        have hX5 := X5.lt
        clear b5 hbox
        cases s with
        | false =>
          clear c0 c1 c2 c3 c4 X5
          go_wp2
          go_roundw
          case rel => exact ⟨k + 1, by omega, by go_num, HF5.out.idle HX.out (by rw [HN.out]; exact HS.out)⟩
          case measure => simp [intOf]; omega
        | true =>
          have HX5 : Hid (SBox w5 wr.heap.size x0 x1 x2 x3 x4) := X5
          have t0 := HF5.out.thn.cellAt (i := k) (by omega)
          rw [thenL_at (by have := HN.out; omega), HQ.out] at t0
          obtain ⟨p0, p1, p2, p3, p4⟩ := X5.at
          obtain ⟨y, HY⟩ : ∃ y, Hid (aimS l ⟨x0, x1, x2, x3, x4⟩ = y) := ⟨_, rfl⟩
          obtain ⟨y0, y1, y2, y3, y4⟩ := y
          clear c0 c1 c2 c3 c4 X5
          have hqn : (q : Int) < (n : Int) := by omega
          go_wp2_with fail
          refine wp_noThrow (region_M 9 (fun w' => w'.cell? ⟨tg, k, none⟩ = some (.int .i64 (q : Int)) ∧ w'.cell? ⟨wr.heap.size, 0, none⟩ = some (.int .i64 x0) ∧ w'.cell? ⟨wr.heap.size, 1, none⟩ = some (.int .i64 x1) ∧ w'.cell? ⟨wr.heap.size, 2, none⟩ = some (.int .i64 x2) ∧ w'.cell? ⟨wr.heap.size, 3, none⟩ = some (.int .i64 x3) ∧ w'.cell? ⟨wr.heap.size, 4, none⟩ = some (.int .i64 x4)) (by kernel_rfl) ?_)
          have hHeld : w5.drew.cell? ⟨tg, k, none⟩ = some (.int .i64 (q : Int)) ∧ w5.drew.cell? ⟨wr.heap.size, 0, none⟩ = some (.int .i64 x0) ∧ w5.drew.cell? ⟨wr.heap.size, 1, none⟩ = some (.int .i64 x1) ∧ w5.drew.cell? ⟨wr.heap.size, 2, none⟩ = some (.int .i64 x2) ∧ w5.drew.cell? ⟨wr.heap.size, 3, none⟩ = some (.int .i64 x3) ∧ w5.drew.cell? ⟨wr.heap.size, 4, none⟩ = some (.int .i64 x4) := ⟨t0, p0, p1, p2, p3, p4⟩
          refine wpAnyM_take (i := 0) (oi := { dst := some 27, op := Go.Op.move (Go.Operand.tmp 3), type := 27, pos := "l16_trim.go:24", after := #[], guard := none }) (v := ?_) rfl (by kernel_rfl) (by kernel_rfl) (by kernel_rfl) (by kernel_rfl) (fun _ _ _ h => h) (Or.inl ⟨by rfl, ?_⟩) (by assumption) ?_
          rotate_left
          · intro w hSw
            (try dsimp only at hSw)
            go_simp
            (try with_reducible rfl)
          try simp only [Act.put, List.setIfInBounds_toArray, List.set_cons_zero, List.set_cons_succ]
          refine wpAnyM_take (i := 1) (oi := { dst := some 28, op := Go.Op.move (Go.Operand.tmp 4), type := 49, pos := "l16_trim.go:24", after := #[], guard := none }) (v := ?_) rfl (by kernel_rfl) (by kernel_rfl) (by kernel_rfl) (by kernel_rfl) (fun _ _ _ h => h) (Or.inl ⟨by rfl, ?_⟩) (by assumption) ?_
          rotate_left
          · intro w hSw
            (try dsimp only at hSw)
            go_simp
            (try with_reducible rfl)
          try simp only [Act.put, List.setIfInBounds_toArray, List.set_cons_zero, List.set_cons_succ]
          refine wpAnyM_take (i := 2) (oi := { dst := some 29, op := Go.Op.move (Go.Operand.tmp 5), type := 3, pos := "l16_trim.go:24", after := #[], guard := none }) (v := ?_) rfl (by kernel_rfl) (by kernel_rfl) (by kernel_rfl) (by kernel_rfl) (fun _ _ _ h => h) (Or.inl ⟨by rfl, ?_⟩) (by assumption) ?_
          rotate_left
          · intro w hSw
            (try dsimp only at hSw)
            go_simp
            (try with_reducible rfl)
          try simp only [Act.put, List.setIfInBounds_toArray, List.set_cons_zero, List.set_cons_succ]
          refine wpAnyM_take (i := 3) (oi := { dst := some 30, op := Go.Op.indexAddr 49 (Go.Operand.tmp 28) (Go.Operand.tmp 29), type := 0, pos := "l16_trim.go:24", after := #[{ on := 1, ground := Go.Ground.data }, { on := 2, ground := Go.Ground.data }], guard := none }) (v := ?_) rfl (by kernel_rfl) (by kernel_rfl) (by kernel_rfl) (by kernel_rfl) (fun _ _ _ h => h) (Or.inl ⟨by rfl, ?_⟩) (by assumption) ?_
          rotate_left
          · intro w hSw
            (try dsimp only at hSw)
            go_simp
            (try with_reducible rfl)
          try simp only [Act.put, List.setIfInBounds_toArray, List.set_cons_zero, List.set_cons_succ]
          refine wpAnyM_take (i := 4) (oi := { dst := some 31, op := Go.Op.load 3 (Go.Operand.tmp 30), type := 3, pos := "l16_trim.go:24", after := #[{ on := 3, ground := Go.Ground.data }], guard := none }) (v := ?_) rfl (by kernel_rfl) (by kernel_rfl) (by kernel_rfl) (by kernel_rfl) (fun _ _ _ h => h) (Or.inl ⟨by rfl, ?_⟩) (by assumption) ?_
          rotate_left
          · intro w hSw
            (try dsimp only at hSw)
            go_simp
            (try with_reducible rfl)
          try simp only [Act.put, List.setIfInBounds_toArray, List.set_cons_zero, List.set_cons_succ]
          refine wpAnyM_take (i := 5) (oi := { dst := some 32, op := Go.Op.load 32 (Go.Operand.tmp 6), type := 32, pos := "l16_trim.go:24", after := #[], guard := none }) (v := ?_) rfl (by kernel_rfl) (by kernel_rfl) (by kernel_rfl) (by kernel_rfl) (fun _ _ _ h => h) (Or.inl ⟨by rfl, ?_⟩) (by assumption) ?_
          rotate_left
          · intro w hSw
            (try dsimp only at hSw)
            go_simp
            (try with_reducible rfl)
          try simp only [Act.put, List.setIfInBounds_toArray, List.set_cons_zero, List.set_cons_succ]
          refine wpAnyM_take (i := 6) (oi := { dst := some 33, op := Go.Op.move (Go.Operand.tmp 4), type := 49, pos := "l16_trim.go:24", after := #[], guard := none }) (v := ?_) rfl (by kernel_rfl) (by kernel_rfl) (by kernel_rfl) (by kernel_rfl) (fun _ _ _ h => h) (Or.inl ⟨by rfl, ?_⟩) (by assumption) ?_
          rotate_left
          · intro w hSw
            (try dsimp only at hSw)
            go_simp
            (try with_reducible rfl)
          try simp only [Act.put, List.setIfInBounds_toArray, List.set_cons_zero, List.set_cons_succ]
          refine cmAnyM_oneK (i := 7) (o := { dst := some 34, op := Go.Op.call { callee := Go.Callee.value (Go.Operand.func 54), args := #[Go.Operand.tmp 32, Go.Operand.tmp 33], argTypes := #[32, 49] }, type := 32, pos := "l16_trim.go:24", after := #[{ on := 5, ground := Go.Ground.data }, { on := 6, ground := Go.Ground.data }], guard := none }) rfl rfl (by kernel_rfl) (fun K9 hK9 => ?_)
          refine wp_call_of (f := 54) (args := #[.agg #[.int .i64 x0, .int .i64 x1, .int .i64 x2, .int .i64 x3, .int .i64 x4], .slice (some ⟨tg, 0, none⟩) n tcap]) (by go_simp) (goingTo_any x0 x1 x2 x3 x4 l w.heap.size tg n tcap w5.drew HN.out (HF5.out.thn.keep (Below.refl _ w5).drew) HXO.out (HT.out.keep (HF5.out.bel.drew)) HJ.out) ?_
          rw [HY.out]
          rintro e w6 ⟨rfl, b6⟩
          have b56 : Below w5.heap.size w5 w6 := ((Below.refl _ w5).drew).trans b6
          have HF6 : Hid (FillAt w w6 l g n gcap tg tcap k) := HF5.out.keep b56
          have hH6 : w6.cell? ⟨tg, k, none⟩ = some (.int .i64 (q : Int)) ∧ w6.cell? ⟨wr.heap.size, 0, none⟩ = some (.int .i64 x0) ∧ w6.cell? ⟨wr.heap.size, 1, none⟩ = some (.int .i64 x1) ∧ w6.cell? ⟨wr.heap.size, 2, none⟩ = some (.int .i64 x2) ∧ w6.cell? ⟨wr.heap.size, 3, none⟩ = some (.int .i64 x3) ∧ w6.cell? ⟨wr.heap.size, 4, none⟩ = some (.int .i64 x4) := ⟨Bel.keeps b56 t0, Bel.keeps b56 p0, Bel.keeps b56 p1, Bel.keeps b56 p2, Bel.keeps b56 p3, Bel.keeps b56 p4⟩
          refine ⟨_, rfl, ?_⟩
          refine hK9 _ _ ⟨fun _ => hH6, ?_⟩
          try simp only [Act.put, List.setIfInBounds_toArray, List.set_cons_zero, List.set_cons_succ]
          clear hK9 hHeld b6 b56
          refine wpAnyM_take (i := 8) (oi := { dst := some 35, op := Go.Op.indexAddr 27 (Go.Operand.tmp 27) (Go.Operand.tmp 31), type := 0, pos := "l16_trim.go:24", after := #[{ on := 0, ground := Go.Ground.data }, { on := 4, ground := Go.Ground.data }, { on := 0, ground := Go.Ground.phase }, { on := 1, ground := Go.Ground.phase }, { on := 2, ground := Go.Ground.phase }, { on := 3, ground := Go.Ground.phase }, { on := 4, ground := Go.Ground.phase }, { on := 5, ground := Go.Ground.phase }, { on := 6, ground := Go.Ground.phase }, { on := 7, ground := Go.Ground.phase }], guard := none }) (v := ?_) rfl (by kernel_rfl) (by kernel_rfl) (by kernel_rfl) (by kernel_rfl) (fun _ _ _ h => h) (Or.inl ⟨by rfl, ?_⟩) (by assumption) ?_
          rotate_left
          · intro w hSw
            (try dsimp only at hSw)
            go_simp
            (try with_reducible rfl)
          try simp only [Act.put, List.setIfInBounds_toArray, List.set_cons_zero, List.set_cons_succ]
          refine cmAnyM_oneK (i := 9) (o := { dst := none, op := Go.Op.store 32 (Go.Operand.tmp 35) (Go.Operand.tmp 34), type := 0, pos := "l16_trim.go:24", after := #[{ on := 8, ground := Go.Ground.data }, { on := 7, ground := Go.Ground.data }, { on := 7, ground := Go.Ground.chain }, { on := 0, ground := Go.Ground.phase }, { on := 1, ground := Go.Ground.phase }, { on := 2, ground := Go.Ground.phase }, { on := 3, ground := Go.Ground.phase }, { on := 4, ground := Go.Ground.phase }, { on := 5, ground := Go.Ground.phase }, { on := 6, ground := Go.Ground.phase }, { on := 7, ground := Go.Ground.phase }], guard := none }) rfl rfl (by kernel_rfl) (fun K9 hK9 => ?_)
          obtain ⟨⟨u0, q0⟩, f0⟩ := HF6.out.blk.cell (j := q * 5) (by omega)
          obtain ⟨⟨u1, q1⟩, f1⟩ := HF6.out.blk.cell (j := q * 5 + 1) (by omega)
          obtain ⟨⟨u2, q2⟩, f2⟩ := HF6.out.blk.cell (j := q * 5 + 2) (by omega)
          obtain ⟨⟨u3, q3⟩, f3⟩ := HF6.out.blk.cell (j := q * 5 + 3) (by omega)
          obtain ⟨⟨u4, q4⟩, f4⟩ := HF6.out.blk.cell (j := q * 5 + 4) (by omega)
          refine wp_skipsT (w' := ((((w6.setCell ⟨g, q * 5, none⟩ (.int .i64 y0)).setCell ⟨g, q * 5 + 1, none⟩ (.int .i64 y1)).setCell ⟨g, q * 5 + 2, none⟩ (.int .i64 y2)).setCell ⟨g, q * 5 + 3, none⟩ (.int .i64 y3)).setCell ⟨g, q * 5 + 4, none⟩ (.int .i64 y4)) (by simp [execOp, go_sem, stepV, q0, q1, q2, q3, q4, f0, f1, f2, f3, f4]) (hK9 _ _ ⟨fun h => absurd rfl h, ?_⟩)
          clear hK9 hH6
          refine wpAnyM_done (by kernel_rfl) ?_ _
          simp only [noThrow, Exit.inBlock, Exit.then]
          go_at_K
          have HF7 := HF6.out.one HGLO.out hgt HX.out (by rw [HN.out]; exact HS.out) HQ.out (by omega) HY.out
          generalize ((((w6.setCell ⟨g, q * 5, none⟩ (.int .i64 y0)).setCell ⟨g, q * 5 + 1, none⟩ (.int .i64 y1)).setCell ⟨g, q * 5 + 2, none⟩ (.int .i64 y2)).setCell ⟨g, q * 5 + 3, none⟩ (.int .i64 y3)).setCell ⟨g, q * 5 + 4, none⟩ (.int .i64 y4) = w7 at HF7 ⊢
          have HF8 : Hid (FillAt w w7 l g n gcap tg tcap (k + 1)) := HF7
          clear HF7 q0 q1 q2 q3 q4 f0 f1 f2 f3 f4 t0 p0 p1 p2 p3 p4
          go_wp2
          go_roundw
          case rel => exact ⟨k + 1, by omega, by go_num, HF8.out⟩
          case measure => simp [intOf]; omega
      · have hkn : k = n := by omega
        subst hkn
        have t0 := hf.thn.cellAt (i := k - 1) (by omega)
        rw [thenL_at (by have := HN.out; omega)] at t0
        obtain ⟨m, hm⟩ : ∃ m, k = m + 1 := ⟨k - 1, by omega⟩
        subst hm
        rw [show m + 1 - 1 = m by omega] at t0 hkl
        obtain ⟨q, HQ⟩ : ∃ q, Hid (keptN l m = q) := ⟨_, rfl⟩
        rw [HQ.out] at t0 hkl
        have hqm : q ≤ m := by rw [← HQ.out]; exact keptN_le l m
        clear hf
        go_wp2
        go_ret
        refine ⟨_, rfl, ?_, HFK.out.bel⟩
        rw [← HE.out]
        exact HFK.out.ends HN.out hgn hgm HGLO.out (by rw [hkl])
end Go.Proofs.YtgnngibbojjebaaDoor
