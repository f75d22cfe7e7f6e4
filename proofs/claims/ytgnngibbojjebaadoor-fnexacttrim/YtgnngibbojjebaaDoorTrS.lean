/- Trimming: the program's Trimmed, and the model's Trim and Trimmed. -/
import Derived.Test.YtgnngibbojjebaaDoorTrI3
namespace Go.Proofs.YtgnngibbojjebaaDoor
open Go.ChangeShapes Go.WideShapes Go.ChangeAt Go.RowKit
set_option linter.unusedVariables false

def trimmedOf (l : List InsD) : Int := (l.length : Int) - ((trimOf l).length : Int)
theorem GivesSteps.form {w : World} {l : List InsD} {e : Ending} {w' : World} (h : GivesSteps w l e w') : ∃ a c, e = .returned (.slice a l.length c) ∧ Below w.heap.size w w' := by
  obtain ⟨v, rfl, ho, hb⟩ := h
  obtain ⟨a, c, rfl, _⟩ := ho.row
  exact ⟨a, c, rfl, hb⟩

theorem impl_trimmed (v : Value) (l : List InsD) (w : World) (ha : StepsAt w v l) (ho : OpsIn l) (hT : FTab w) (hs : l.length ≤ 1048576) :
    Calls Tryd.prog 15 #[v] w fun e w' => e = .returned (.int .i64 (trimmedOf l)) ∧ Below w.heap.size w w' := by
  have HC : Hid (Calls Tryd.prog 23 #[v] w fun e w' => GivesSteps w (trimOf l) e w') := impl_trim v l w ha ho hT hs
  have hle := trimOf_len l
  obtain ⟨a, cap, rfl, hm, hc⟩ := ha
  obtain ⟨n, HN⟩ : ∃ m, Hid (l.length = m) := ⟨_, rfl⟩
  obtain ⟨m, HM⟩ : ∃ m, Hid ((trimOf l).length = m) := ⟨_, rfl⟩
  have HR : Hid (trimmedOf l = (n : Int) - (m : Int)) := by show _ = _; unfold trimmedOf; rw [HN.out, HM.out]
  rw [HN.out] at HC hs hle ⊢
  rw [HM.out] at hle
  rw [HR.out]
  clear hc hm ho hT
  go_enter Tryd.func15, Tryd.ntmps15
  go_wp2_with fail
  refine HC.out.mono ?_
  intro e w1 hg
  obtain ⟨a1, c1, rfl, b1⟩ := hg.form
  rw [HM.out]
  clear hg
  go_wp2
  go_ret
  exact ⟨rfl, b1⟩

/-- A list of numbers, appended to one of the call's own. -/
theorem add_nums (lo : Nat) (v u : Value) (l m : List Int) (w : World) (hv : OwnInts w lo v l) (hlo : lo ≤ w.heap.size) (hu : IntsAt w u m) (hn : l.length + m.length ≤ 2000000) (hp : 0 < m.length) :
    ∃ v' w', (∀ ty, (Builtin.append_ #[49, 49] ty #[v, u]).run Tryd.prog w = .ok v' w') ∧ OwnInts w' lo v' (l ++ m) ∧ w.grownBy w' v.ownBlock ∧ v' ≠ .slice none 0 0 := by
  obtain ⟨i0, hi, hz0, hz1, hz2⟩ := info_parts (show (Tryd.prog.info? 3).map (fun i => (i.zero, i.size, i.bytes)) = some (some (.int .i64 0), 1, 8) by kernel_rfl)
  obtain ⟨a, cap, rfl, hm, hc⟩ := hu
  have hmx : 2000000 ≤ maxLen := by decide
  obtain ⟨b, off, rfl, hE⟩ := hc hp
  obtain ⟨v', w', hrun, ho, hgr, hnil⟩ := run_append_own (P := Tryd.prog) w lo 49 49 3 i0 (.int .i64 0) 1 8 Tryd.underlying49 hi hz0 hz1 hz2 rfl (by decide) v l.length (l.map (fun x => Value.int .i64 x)) hv ⟨b, off, none⟩ m.length cap (m.map (fun x => Value.int .i64 x)) (by simp) (fun j u hu => by
    have hj : j < m.length := by have := (List.getElem?_eq_some_iff.1 hu).1; simpa using this
    rw [addS, hE j hj]
    simpa [List.getD, hj] using hu) (by simp [Value.oneCell']) (by omega) (by omega) (by omega)
  refine ⟨v', w', fun ty => hrun, ?_, hgr, fun e => ?_⟩
  · unfold OwnInts
    rw [List.map_append, List.length_append]
    exact ho
  · have := (hnil.1 e).2
    omega
theorem intsAt_one (w : World) (x : Int) : IntsAt (w.alloc (.cells #[.int .i64 x] 3)) (.slice (some ⟨w.heap.size, 0, none⟩) 1 1) [x] := by
  refine ⟨some ⟨w.heap.size, 0, none⟩, 1, rfl, by simp, fun _ => ⟨w.heap.size, 0, rfl, fun i hi => ?_⟩⟩
  have : i = 0 := by simpa using hi
  subst this
  rw [World.cell?_alloc_new]
  rfl
theorem stepsAt_one (w : World) (x0 x1 x2 x3 x4 : Int) : StepsAt (w.alloc (.cells #[.int .i64 x0, .int .i64 x1, .int .i64 x2, .int .i64 x3, .int .i64 x4] 32)) (.slice (some ⟨w.heap.size, 0, none⟩) 1 1) [⟨x0, x1, x2, x3, x4⟩] := by
  refine ⟨some ⟨w.heap.size, 0, none⟩, 1, rfl, by simp, fun _ => ⟨w.heap.size, 0, rfl, Nat.zero_le _, fun i x hi => ?_⟩⟩
  have hi0 : i = 0 := by have := (List.getElem?_eq_some_iff.1 hi).1; simpa using this
  subst hi0
  simp at hi
  subst hi
  refine ⟨?_, ?_, ?_, ?_, ?_⟩ <;> simp [World.cell?_alloc_new]
/-- A row of numbers stays when a row of steps grows, and the other way round. -/
theorem OwnInts.besides {w w' : World} {lo : Nat} {v u : Value} {l : List Int} {m : List InsD} (h : OwnInts w lo v l) (hu : OwnSteps w lo u m) (hg : w.grownBy w' u.ownBlock) : OwnInts w' lo v l := by
  obtain ⟨h0, h1⟩ := h
  refine ⟨h0, ?_⟩
  rcases h1 with h1 | ⟨g, cap, cur, e, hlo, hgb, h2⟩
  · exact .inl h1
  · refine .inr ⟨g, cap, cur, e, hlo, (hg.block g (Array.getElem?_eq_some_iff.1 hgb).1 (fun ee => ?_)).trans hgb, h2⟩
    rcases hu.2 with ⟨eu, _⟩ | ⟨g', cap', cur', eu, _, hgb', _⟩
    · rw [eu] at ee; simp [Value.ownBlock] at ee
    · rw [eu] at ee
      simp [Value.ownBlock] at ee
      rw [← ee, hgb] at hgb'
      simp at hgb'
theorem OwnSteps.besides {w w' : World} {lo : Nat} {v u : Value} {l : List Int} {m : List InsD} (hu : OwnSteps w lo u m) (h : OwnInts w lo v l) (hg : w.grownBy w' v.ownBlock) : OwnSteps w' lo u m := by
  obtain ⟨h0, h1⟩ := hu
  refine ⟨h0, ?_⟩
  rcases h1 with h1 | ⟨g, cap, cur, e, hlo, hgb, h2⟩
  · exact .inl h1
  · refine .inr ⟨g, cap, cur, e, hlo, (hg.block g (Array.getElem?_eq_some_iff.1 hgb).1 (fun ee => ?_)).trans hgb, h2⟩
    rcases h.2 with ⟨eu, _⟩ | ⟨g', cap', cur', eu, _, hgb', _⟩
    · rw [eu] at ee; simp [Value.ownBlock] at ee
    · rw [eu] at ee
      simp [Value.ownBlock] at ee
      rw [← ee, hgb] at hgb'
      simp at hgb'
def thenTo (l : List InsD) (k : Nat) : List Int := listN k (fun i => (keptN l i : Int))
theorem thenTo_len (l : List InsD) (k : Nat) : (thenTo l k).length = k := listN_len _ _
theorem thenTo_next (l : List InsD) (k : Nat) : thenTo l k ++ [(keptN l k : Int)] = thenTo l (k + 1) := by
  unfold thenTo listN
  rw [List.range_succ, List.map_append]
  rfl
/-- The model's two rows so far. -/
structure TwoAt (w0 w : World) (l : List InsD) (k : Nat) (tv ov : Value) : Prop where
  bel : Below w0.heap.size w0 w
  thn : OwnInts w w0.heap.size tv (thenTo l k)
  out : OwnSteps w w0.heap.size ov (keptL l k)
/-- And then, the jumps aimed so far. -/
structure AimAt (w0 w : World) (l : List InsD) (n tg tcap og m ocap k : Nat) : Prop where
  bel : Below w0.heap.size w0 w
  thn : OwnInts w w0.heap.size (.slice (some ⟨tg, 0, none⟩) n tcap) (thenL l)
  blk : StBlk w og (ocap * 5)
  each : ∀ j x, (keptL l n)[j]? = some x → InsAt w og (j * 5) (if j < k then aimS l x else x)
theorem AimAt.plain {w0 w : World} {l : List InsD} {n tg tcap og m ocap p : Nat} {x : InsD} (h : AimAt w0 w l n tg tcap og m ocap p) (hx : (keptL l n)[p]? = some x) (hj : jumpB x = false) : AimAt w0 w l n tg tcap og m ocap (p + 1) := by
  refine ⟨h.bel, h.thn, h.blk, fun j z hz => ?_⟩
  have h9 := h.each j z hz
  by_cases e : j = p
  · subst e
    rw [hx] at hz
    cases hz
    rw [if_neg (by omega)] at h9
    rw [if_pos (by omega)]
    unfold aimS
    rw [hj]
    exact h9
  · by_cases e2 : j < p
    · rw [if_pos e2] at h9; rw [if_pos (by omega)]; exact h9
    · rw [if_neg e2] at h9; rw [if_neg (by omega)]; exact h9
theorem AimAt.jump {w0 w : World} {l : List InsD} {n tg tcap og m ocap p q : Nat} {x0 x1 x2 x3 : Int} (h : AimAt w0 w l n tg tcap og m ocap p) (hlo : w0.heap.size ≤ og) (hne : tg ≠ og) (hx : (keptL l n)[p]? = some ⟨x0, x1, x2, x3, (q : Int)⟩) (hj : jumpB ⟨x0, x1, x2, x3, (q : Int)⟩ = true) : AimAt w0 (w.setCell ⟨og, p * 5 + 4, none⟩ (.int .i64 (keptN l q : Int))) l n tg tcap og m ocap (p + 1) := by
  refine ⟨h.bel.setCell (p := ⟨og, p * 5 + 4, none⟩) hlo _, h.thn.apartSet (fun e => hne (by simpa [Value.ownBlock] using e)) _, h.blk.set _ _, fun j z hz => ?_⟩
  have h9 := h.each j z hz
  by_cases e : j = p
  · subst e
    rw [hx] at hz
    cases hz
    rw [if_neg (by omega)] at h9
    rw [if_pos (by omega)]
    have e9 : aimS l ⟨x0, x1, x2, x3, (q : Int)⟩ = ⟨x0, x1, x2, x3, (keptN l q : Int)⟩ := by unfold aimS; rw [hj]; simp
    rw [e9]
    obtain ⟨c0, c1, c2, c3, c4⟩ := h9
    exact ⟨cell_aside c0 (by omega), cell_aside c1 (by omega), cell_aside c2 (by omega), cell_aside c3 (by omega), cell_there c4⟩
  · by_cases e2 : j < p
    · rw [if_pos e2] at h9; rw [if_pos (by omega)]; exact h9.store _ _ (by omega)
    · rw [if_neg e2] at h9; rw [if_neg (by omega)]; exact h9.store _ _ (by omega)
theorem AimAt.ends {w0 w : World} {l : List InsD} {n tg tcap og m ocap : Nat} (h : AimAt w0 w l n tg tcap og m ocap m) (hn : l.length = n) (hm : (keptL l n).length = m) (hmc : m ≤ ocap) (hcm : ocap ≤ maxLen) (hlo : w0.heap.size ≤ og) : OwnSteps w w0.heap.size (.slice (some ⟨og, 0, none⟩) m ocap) (trimL l) := by
  refine ownSteps_of h.blk ?_ hmc hcm hlo (fun i x hx => ?_)
  · unfold trimL
    rw [List.length_map, hn]
    exact hm
  · unfold trimL at hx
    rw [List.getElem?_map, hn] at hx
    cases e : (keptL l n)[i]? with
    | none => rw [e] at hx; simp at hx
    | some z =>
      rw [e] at hx
      simp at hx
      subst hx
      have h9 := h.each i z e
      have hi : i < m := by have := (List.getElem?_eq_some_iff.1 e).1; omega
      rw [if_pos hi] at h9
      exact h9
theorem OwnSteps.form {w : World} {lo : Nat} {v : Value} {l : List InsD} (h : OwnSteps w lo v l) {m : Nat} (hm : l.length = m) : ∃ a c, v = .slice a m c := by
  obtain ⟨a, c, rfl, _⟩ := h.row
  exact ⟨a, c, by rw [hm]⟩
theorem OwnInts.formT {w : World} {lo : Nat} {v : Value} {l : List Int} (h : OwnInts w lo v l) {m : Nat} (hm : l.length = m) : ∃ a c, v = .slice a m c := by
  obtain ⟨a, c, rfl, _⟩ := h.row
  exact ⟨a, c, by rw [hm]⟩

set_option maxRecDepth 100000 in
set_option maxHeartbeats 8000000 in
theorem spec_trim (v : Value) (l : List InsD) (w : World) (ha : StepsAt w v l) (ho : OpsIn l) (hs : l.length ≤ 1048576) :
    Calls Tryd.prog 21 #[v] w fun e w' => GivesSteps w (trimOf l) e w' := by
  have HA0 : Hid (StepsAt w v l) := ha
  obtain ⟨a, cap, rfl, hm, hc⟩ := ha
  obtain ⟨n, HN⟩ : ∃ m, Hid (l.length = m) := ⟨_, rfl⟩
  rw [HN.out] at hs hm HA0 ⊢
  have HA : Hid (StepsAt w (.slice a n cap) l) := HA0.out
  clear hc hm HA0
  have HO : Hid (OpsIn l) := ho
  clear ho
  obtain ⟨R, HR⟩ : ∃ R, Hid (machineOkB l = R) := ⟨_, rfl⟩
  obtain ⟨L, HL⟩ : ∃ L, Hid (trimOf l = L) := ⟨_, rfl⟩
  rw [HL.out]
  go_enter Tryd.func21, Tryd.ntmps21
  go_wp2_with fail
  refine (spec_machineOk _ l _ HA.out HO.out).mono ?_
  rw [HR.out]
  rintro e w1 ⟨rfl, b1⟩
  have HA1 : Hid (StepsAt w1 (.slice a n cap) l) := StepsAt.keep HA.out b1
  have HB1 : Hid (Below w.heap.size w w1) := b1
  have hs1 := b1.size
  clear b1
  cases R with
  | false =>
    have e9 : l = L := by rw [← HL.out]; unfold trimOf; rw [HR.out]; rfl
    obtain ⟨v1, w2, hrun, ho1, hb1, g, gcap, rfl⟩ := stepsCopied HA1.out HN.out hs
    have HRUN : Hid (∀ ty, (Builtin.append_ #[27, 27] ty #[.slice (some ⟨w1.heap.size, 0, none⟩) 0 0, .slice a n cap]).run Tryd.prog (w1.alloc (.cells #[] 32)) = .ok (.slice (some ⟨g, 0, none⟩) n gcap) w2) := hrun
    have HO1 : Hid (OwnSteps w2 w1.heap.size (.slice (some ⟨g, 0, none⟩) n gcap) l) := ho1
    have HB2 : Hid (Below w.heap.size w w2) := Bel.after HB1.out hb1
    clear hrun ho1 hb1
    go_wp2_with (at_builtin; refine wpList_appendS _ rfl _ _ 27 27 rfl _ _ _ _ rfl rfl (HRUN.out _) ?_)
    go_ret
    exact ⟨_, rfl, by rw [← e9]; exact HO1.out.low hs1, HB2.out⟩
  | true =>
    have HE : Hid (trimL l = L) := by show _ = _; rw [← HL.out]; unfold trimOf; rw [HR.out]; rfl
    have hpos : 1 ≤ n ∧ n ≤ 900 := by have h := machineOkB_parts HR.out; have := HN.out; omega
    go_wp2_with fail
    obtain ⟨w2, hw2⟩ : ∃ W, (w1.alloc (.cells #[] 3)).alloc (.cells #[] 32) = W := ⟨_, rfl⟩
    have H2 : Hid (TwoAt w w2 l 0 (.slice (some ⟨w1.heap.size, 0, none⟩) 0 0) (.slice (some ⟨w1.heap.size + 1, 0, none⟩) 0 0)) := by
      show TwoAt _ _ _ _ _ _
      rw [← hw2]
      refine ⟨(HB1.out.alloc hs1 _).alloc (by simp; omega) _, ?_, ?_⟩
      · exact ((ownInts_new w1).keep (Bel.alloc _ _)).low hs1
      · refine ownSteps_new ?_ (by omega)
        have h := World.alloc_heap_new (w1.alloc (.cells #[] 3)) (.cells #[] 32)
        rw [World.size_alloc] at h
        exact h
    rw [hw2]
    clear hw2
    go_loopw [4, 5, 6] (fun tv ov i wr => ∃ (k m : Nat) (ta : Option Addr) (tcap : Nat) (oa : Option Addr) (ocap : Nat), k ≤ n ∧ i = .int .i64 k ∧ tv = .slice ta k tcap ∧ ov = .slice oa m ocap ∧ keptN l k = m ∧ TwoAt w wr l k (.slice ta k tcap) (.slice oa m ocap)) (fun _ _ i _ => n - (intOf i).toNat)
    case atStart => exact ⟨0, 0, _, _, _, _, Nat.zero_le _, rfl, rfl, rfl, rfl, H2.out⟩
    case round =>
      obtain ⟨k, m, ta, tcap, oa, ocap, hk, rfl, rfl, rfl, hm, htw⟩ := hrel
      have HTW : Hid (TwoAt w wr l k (.slice ta k tcap) (.slice oa m ocap)) := htw
      have HM : Hid (keptN l k = m) := hm
      clear hm
      have hmk : m ≤ k := by rw [← HM.out]; exact keptN_le l k
      have hsr := htw.bel.size
      by_cases hlt : (k : Int) < (n : Int)
      · obtain ⟨x, HX⟩ : ∃ x, Hid (l[k]? = some x) := ⟨l[k]'(by have := HN.out; omega), List.getElem?_eq_getElem _⟩
        obtain ⟨tv', w3, hrun, ho3, hg3, _⟩ := add_nums w.heap.size (.slice ta k tcap) (.slice (some ⟨wr.heap.size, 0, none⟩) 1 1) (thenTo l k) [(m : Int)] (wr.alloc (.cells #[.int .i64 (m : Int)] 3)) (htw.thn.keep (Bel.alloc _ _)) (by simp; omega) (intsAt_one wr (m : Int)) (by rw [thenTo_len]; simp; omega) (by simp)
        have HRUN : Hid (∀ ty, (Builtin.append_ #[49, 49] ty #[.slice ta k tcap, .slice (some ⟨wr.heap.size, 0, none⟩) 1 1]).run Tryd.prog (wr.alloc (.cells #[.int .i64 (m : Int)] 3)) = .ok tv' w3) := hrun
        have HT3 : Hid (OwnInts w3 w.heap.size tv' (thenTo l (k + 1))) := by
          show OwnInts _ _ _ _
          rw [← thenTo_next, HM.out]
          exact ho3
        have HO3 : Hid (OwnSteps w3 w.heap.size (.slice oa m ocap) (keptL l k)) := OwnSteps.besides (htw.out.keep (Bel.alloc _ _)) (htw.thn.keep (Bel.alloc _ _)) hg3
        have HB3 : Hid (Below w.heap.size w w3) := (htw.bel.alloc hsr _).trans (ownsRow_underS (htw.thn.keep (Bel.alloc _ _)) (by simp; omega) hg3)
        obtain ⟨ta3, tcap3, htv3⟩ := HT3.out.formT (thenTo_len l (k + 1))
        subst htv3
        clear hrun ho3 hg3 htw
        have hcx := StepsAt.keep HA.out HB3.out
        obtain ⟨a0, cap0, e0, _, hc0⟩ := id hcx
        simp at e0
        obtain ⟨b, off, hab, _, hd⟩ := hc0 (by have := HN.out; omega)
        have hx3 := hd k x HX.out
        rw [← e0.1] at hab
        subst hab
        clear hc0 hd e0 hcx
        obtain ⟨x0, x1, x2, x3, x4⟩ := x
        obtain ⟨c0, c1, c2, c3, c4⟩ := hx3
        dsimp only at c0 c1 c2 c3 c4
        by_cases hlast : k + 1 = n
        · have hb2 : ((k : Int) == (n : Int) - 1) = true := by simp; omega
          have hst : staysB l.length k ⟨x0, x1, x2, x3, x4⟩ = true := by unfold staysB; simp [HN.out, hlast]
          have hkl := keptL_yes HX.out hst
          obtain ⟨ov', w5, hrun5, ho5, hg5, _⟩ := add_steps w.heap.size (.slice oa m ocap) (.slice (some ⟨w3.heap.size, 0, none⟩) 1 1) (keptL l k) [⟨x0, x1, x2, x3, x4⟩] (w3.alloc (.cells #[.int .i64 x0, .int .i64 x1, .int .i64 x2, .int .i64 x3, .int .i64 x4] 32)) (HO3.out.keep (Bel.alloc _ _)) (by have := HB3.out.size; simp; omega) (stepsAt_one w3 x0 x1 x2 x3 x4) (by have h9 := HM.out; unfold keptN at h9; rw [h9]; simp; omega) 27
          have HRUN5 : Hid (∀ ty, (Builtin.append_ #[27, 27] ty #[.slice oa m ocap, .slice (some ⟨w3.heap.size, 0, none⟩) 1 1]).run Tryd.prog (w3.alloc (.cells #[.int .i64 x0, .int .i64 x1, .int .i64 x2, .int .i64 x3, .int .i64 x4] 32)) = .ok ov' w5) := fun ty => hrun5
          rw [← hkl] at ho5
          have H5 : Hid (TwoAt w w5 l (k + 1) (.slice ta3 (k + 1) tcap3) ov') := ⟨(HB3.out.alloc HB3.out.size _).trans (ownsRow_underS (HO3.out.keep (Bel.alloc _ _)) (by have := HB3.out.size; simp; omega) hg5), OwnInts.besides (HT3.out.keep (Bel.alloc _ _)) (HO3.out.keep (Bel.alloc _ _)) hg5, ho5⟩
          obtain ⟨oa5, ocap5, hov5⟩ := H5.out.out.form (m := m + 1) (by rw [hkl, List.length_append]; have h9 := HM.out; unfold keptN at h9; rw [h9]; rfl)
          have HM5 : Hid (keptN l (k + 1) = m + 1) := by show _ = _; rw [keptN_yes HX.out hst, HM.out]
          subst hov5
          clear hrun5 ho5 hg5 hkl hst hlast
          go_wp2_with first
            | (at_builtin; refine wpList_appendS _ rfl _ _ 49 49 rfl _ _ _ _ rfl rfl (HRUN.out _) ?_)
            | (at_builtin; refine wpList_appendS _ rfl _ _ 27 27 rfl _ _ _ _ rfl rfl (HRUN5.out _) ?_)
          go_roundw
          case rel => exact ⟨k + 1, m + 1, _, _, _, _, by omega, by go_num, rfl, rfl, HM5.out, H5.out⟩
          case measure => simp [intOf]; omega
        · have hb2 : ((k : Int) == (n : Int) - 1) = false := by simp; omega
          obtain ⟨q, HQ⟩ : ∃ q, Hid (idleB ⟨x0, x1, x2, x3, x4⟩ (k : Int) = q) := ⟨_, rfl⟩
          go_wp2_with (at_builtin; refine wpList_appendS _ rfl _ _ 49 49 rfl _ _ _ _ rfl rfl (HRUN.out _) ?_)
          refine (spec_idle x0 x1 x2 x3 x4 (k : Int) _ (by omega)).mono ?_
          rw [HQ.out]
          rintro e w4 ⟨rfl, b4⟩
          have HT4 : Hid (OwnInts w4 w.heap.size (.slice ta3 (k + 1) tcap3) (thenTo l (k + 1))) := HT3.out.keep b4
          have HO4 : Hid (OwnSteps w4 w.heap.size (.slice oa m ocap) (keptL l k)) := HO3.out.keep b4
          have HB4 : Hid (Below w.heap.size w w4) := Bel.after HB3.out b4
          have d0 := Bel.keeps b4 c0
          have d1 := Bel.keeps b4 c1
          have d2 := Bel.keeps b4 c2
          have d3 := Bel.keeps b4 c3
          have d4 := Bel.keeps b4 c4
          clear b4 c0 c1 c2 c3 c4
          cases q with
          | true =>
            have hst : staysB l.length k ⟨x0, x1, x2, x3, x4⟩ = false := by unfold staysB; rw [HQ.out, HN.out]; simp [hlast]
            have hkl := keptL_no HX.out hst
            have H5 : Hid (TwoAt w w4 l (k + 1) (.slice ta3 (k + 1) tcap3) (.slice oa m ocap)) := ⟨HB4.out, HT4.out, by rw [hkl]; exact HO4.out⟩
            have HM5 : Hid (keptN l (k + 1) = m) := by show _ = _; rw [keptN_no HX.out hst, HM.out]
            clear d0 d1 d2 d3 d4 hkl hst
            go_wp2
            go_roundw
            case rel => exact ⟨k + 1, m, _, _, _, _, by omega, by go_num, rfl, rfl, HM5.out, H5.out⟩
            case measure => simp [intOf]; omega
          | false =>
            have hst : staysB l.length k ⟨x0, x1, x2, x3, x4⟩ = true := by unfold staysB; rw [HQ.out]; simp
            have hkl := keptL_yes HX.out hst
            obtain ⟨ov', w5, hrun5, ho5, hg5, _⟩ := add_steps w.heap.size (.slice oa m ocap) (.slice (some ⟨w4.heap.size, 0, none⟩) 1 1) (keptL l k) [⟨x0, x1, x2, x3, x4⟩] (w4.alloc (.cells #[.int .i64 x0, .int .i64 x1, .int .i64 x2, .int .i64 x3, .int .i64 x4] 32)) (HO4.out.keep (Bel.alloc _ _)) (by have := HB4.out.size; simp; omega) (stepsAt_one w4 x0 x1 x2 x3 x4) (by have h9 := HM.out; unfold keptN at h9; rw [h9]; simp; omega) 27
            have HRUN5 : Hid (∀ ty, (Builtin.append_ #[27, 27] ty #[.slice oa m ocap, .slice (some ⟨w4.heap.size, 0, none⟩) 1 1]).run Tryd.prog (w4.alloc (.cells #[.int .i64 x0, .int .i64 x1, .int .i64 x2, .int .i64 x3, .int .i64 x4] 32)) = .ok ov' w5) := fun ty => hrun5
            rw [← hkl] at ho5
            have H5 : Hid (TwoAt w w5 l (k + 1) (.slice ta3 (k + 1) tcap3) ov') := ⟨(HB4.out.alloc HB4.out.size _).trans (ownsRow_underS (HO4.out.keep (Bel.alloc _ _)) (by have := HB4.out.size; simp; omega) hg5), OwnInts.besides (HT4.out.keep (Bel.alloc _ _)) (HO4.out.keep (Bel.alloc _ _)) hg5, ho5⟩
            obtain ⟨oa5, ocap5, hov5⟩ := H5.out.out.form (m := m + 1) (by rw [hkl, List.length_append]; have h9 := HM.out; unfold keptN at h9; rw [h9]; rfl)
            have HM5 : Hid (keptN l (k + 1) = m + 1) := by show _ = _; rw [keptN_yes HX.out hst, HM.out]
            subst hov5
            clear hrun5 ho5 hg5 hkl hst
            go_wp2_with (at_builtin; refine wpList_appendS _ rfl _ _ 27 27 rfl _ _ _ _ rfl rfl (HRUN5.out _) ?_)
            go_roundw
            case rel => exact ⟨k + 1, m + 1, _, _, _, _, by omega, by go_num, rfl, rfl, HM5.out, H5.out⟩
            case measure => simp [intOf]; omega
      · have hkn : k = n := by omega
        subst hkn
        obtain ⟨tg, htg⟩ : ∃ tg, ta = some ⟨tg, 0, none⟩ := by
          rcases htw.thn.2 with ⟨_, h0⟩ | ⟨g', c', cur, h0, _⟩
          · rw [thenTo_len] at h0; omega
          · simp at h0; exact ⟨g', h0.1⟩
        subst htg
        have hmpos : 0 < m := by
          have h9 := keptN_last (l := l) (k := k - 1) (by have := HN.out; omega) (List.getElem?_eq_getElem (by have := HN.out; omega))
          rw [HN.out, HM.out] at h9
          omega
        have hmK : (keptL l k).length = m := HM.out
        obtain ⟨og, hog⟩ : ∃ og, oa = some ⟨og, 0, none⟩ := by
          rcases htw.out.2 with ⟨_, h0⟩ | ⟨g', c', cur, h0, _⟩
          · omega
          · simp at h0; exact ⟨g', h0.1⟩
        subst hog
        obtain ⟨hblk, holo, _, hocap, hocm, _⟩ := htw.out.blk
        have hne : tg ≠ og := fun e => by
          subst e
          obtain ⟨c1, h1⟩ := htw.thn.heapOf
          obtain ⟨c2, h2, _⟩ := hblk
          rw [h1] at h2
          simp at h2
        have eT : thenTo l k = thenL l := by unfold thenTo thenL; rw [HN.out]
        have HAIM : Hid (AimAt w wr l k tg tcap og m ocap 0) := ⟨htw.bel, by rw [← eT]; exact htw.thn, hblk, fun j x hx => by
          obtain ⟨a9, c9, e9, h9⟩ := htw.out.row
          obtain ⟨g9, e10, _, _, h11, _⟩ := h9 (by omega)
          simp at e9
          rw [e10] at e9
          simp at e9
          rw [if_neg (by omega), e9.1]
          exact h11 j x hx⟩
        have HOLO : Hid (w.heap.size ≤ og) := holo
        clear htw hblk eT HTW
        obtain ⟨wq, hwq⟩ : ∃ x, x = wr := ⟨_, rfl⟩
        subst hwq
        go_wp2_with fail
        go_loopw [7] (fun i ws => ∃ p : Nat, p ≤ m ∧ i = .int .i64 p ∧ AimAt w ws l k tg tcap og m ocap p) (fun i _ => m - (intOf i).toNat)
        case atStart => exact ⟨0, Nat.zero_le _, rfl, HAIM.out⟩
        case round =>
          obtain ⟨p, hp, rfl, haim⟩ := hrel
          have HAM : Hid (AimAt w wr l k tg tcap og m ocap p) := haim
          by_cases hlt3 : (p : Int) < (m : Int)
          · obtain ⟨x, HX⟩ : ∃ x, Hid ((keptL l k)[p]? = some x) := ⟨(keptL l k)[p]'(by omega), List.getElem?_eq_getElem _⟩
            have hcx := haim.each p x HX.out
            rw [if_neg (by omega)] at hcx
            have HJ : Hid (jumpB x = true → 0 ≤ x.n ∧ x.n < (k : Int)) := fun h => by have h9 := jump_place HR.out (keptL_mem (List.mem_of_getElem? HX.out)) h; have := HN.out; omega
            clear haim
            obtain ⟨x0, x1, x2, x3, x4⟩ := x
            obtain ⟨c0, c1, c2, c3, c4⟩ := hcx
            dsimp only at c0 c1 c2 c3 c4 HJ
            by_cases h9 : x0 = 9
            · subst h9
              obtain ⟨q, rfl⟩ : ∃ q : Nat, x4 = (q : Int) := ⟨x4.toNat, by have := HJ.out rfl; omega⟩
              have hqk : q < k := by have := HJ.out rfl; omega
              have hqk2 : (q : Int) < (k : Int) := by omega
              have t0 := HAM.out.thn.cellAt (i := q) hqk
              rw [thenL_at (by have := HN.out; omega)] at t0
              have f4 : wr.frozen? ⟨og, p * 5 + 4, none⟩ = false := (HAM.out.blk.cell (j := p * 5 + 4) (by omega)).2
              have HAJ := HAM.out.jump HOLO.out hne HX.out rfl
              have HNX : Hid (AimAt w (wr.setCell ⟨og, p * 5 + 4, none⟩ (.int .i64 (keptN l q : Int))) l k tg tcap og m ocap (p + 1)) := HAJ
              clear HAJ
              go_wp2
              go_roundw
              case rel => exact ⟨p + 1, by omega, by go_num, HNX.out⟩
              case measure => simp [intOf]; omega
            have e9 : (x0 == 9) = false := by simpa using h9
            by_cases h10 : x0 = 10
            · subst h10
              obtain ⟨q, rfl⟩ : ∃ q : Nat, x4 = (q : Int) := ⟨x4.toNat, by have := HJ.out rfl; omega⟩
              have hqk : q < k := by have := HJ.out rfl; omega
              have hqk2 : (q : Int) < (k : Int) := by omega
              have t0 := HAM.out.thn.cellAt (i := q) hqk
              rw [thenL_at (by have := HN.out; omega)] at t0
              have f4 : wr.frozen? ⟨og, p * 5 + 4, none⟩ = false := (HAM.out.blk.cell (j := p * 5 + 4) (by omega)).2
              have HAJ := HAM.out.jump HOLO.out hne HX.out rfl
              have HNX : Hid (AimAt w (wr.setCell ⟨og, p * 5 + 4, none⟩ (.int .i64 (keptN l q : Int))) l k tg tcap og m ocap (p + 1)) := HAJ
              clear HAJ
              go_wp2
              go_roundw
              case rel => exact ⟨p + 1, by omega, by go_num, HNX.out⟩
              case measure => simp [intOf]; omega
            have e10 : (x0 == 10) = false := by simpa using h10
            have HNX : Hid (AimAt w wr l k tg tcap og m ocap (p + 1)) := HAM.out.plain HX.out (by unfold jumpB; simp [h9, h10])
            clear h9 h10
            go_wp2
            go_roundw
            case rel => exact ⟨p + 1, by omega, by go_num, HNX.out⟩
            case measure => simp [intOf]; omega
          · have hpm : p = m := by omega
            subst hpm
            clear haim
            go_wp2
            go_ret
            refine ⟨_, rfl, ?_, HAM.out.bel⟩
            rw [← HE.out]
            exact HAM.out.ends HN.out hmK hocap hocm HOLO.out

theorem spec_trimmed (v : Value) (l : List InsD) (w : World) (ha : StepsAt w v l) (ho : OpsIn l) (hs : l.length ≤ 1048576) :
    Calls Tryd.prog 16 #[v] w fun e w' => e = .returned (.int .i64 (trimmedOf l)) ∧ Below w.heap.size w w' := by
  have HO : Hid (OpsIn l) := ho
  have HAA : Hid (StepsAt w v l) := ha
  have HSS : Hid (l.length ≤ 1048576) := hs
  have hle := trimOf_len l
  obtain ⟨R, HR⟩ : ∃ R, Hid (machineOkB l = R) := ⟨_, rfl⟩
  obtain ⟨a, cap, rfl, hm, hc⟩ := ha
  obtain ⟨n, HN⟩ : ∃ m, Hid (l.length = m) := ⟨_, rfl⟩
  obtain ⟨m, HM⟩ : ∃ m, Hid ((trimOf l).length = m) := ⟨_, rfl⟩
  have HRR : Hid (trimmedOf l = (n : Int) - (m : Int)) := by show _ = _; unfold trimmedOf; rw [HN.out, HM.out]
  rw [HN.out] at HAA hs hle ⊢
  rw [HM.out] at hle
  rw [HRR.out]
  clear hc hm ho
  go_enter Tryd.func16, Tryd.ntmps16
  go_wp2_with fail
  refine (spec_machineOk _ l _ HAA.out HO.out).mono ?_
  rw [HR.out]
  rintro e w1 ⟨rfl, b1⟩
  have HB1 : Hid (Below w.heap.size w w1) := b1
  have HA1 : Hid (StepsAt w1 (.slice a n cap) l) := StepsAt.keep HAA.out b1
  clear b1
  cases R with
  | false =>
    have e9 : n = m := by rw [← HN.out, ← HM.out]; unfold trimOf; rw [HR.out]; rfl
    have HE0 : Hid ((n : Int) - (m : Int) = 0) := by show _ = _; omega
    clear e9
    go_wp2
    go_ret
    exact ⟨by rw [HE0.out]; rfl, HB1.out⟩
  | true =>
    go_wp2_with fail
    refine (spec_trim _ l _ HA1.out HO.out HSS.out).mono ?_
    intro e w2 hg
    obtain ⟨a1, c1, rfl, b2⟩ := hg.form
    have HB2 : Hid (Below w.heap.size w w2) := Bel.after HB1.out b2
    rw [HM.out]
    clear hg b2
    go_wp2
    go_ret
    exact ⟨rfl, HB2.out⟩
end Go.Proofs.YtgnngibbojjebaaDoor
