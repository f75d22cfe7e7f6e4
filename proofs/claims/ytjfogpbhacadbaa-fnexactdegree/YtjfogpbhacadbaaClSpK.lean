/- Who is in whose way: the model's l12Clashes. -/
import Derived.Test.YtjfogpbhacadbaaClMatK
namespace Go.Proofs.Ytjfogpbhacadbaa
open Go.ChangeShapes Go.WideShapes Go.ChangeAt Go.RowKit Go.Shelf
set_option linter.unusedVariables false

/-- Nothing that was there has turned but the rows. -/
structure RowsOnly (lo V : Nat) (hs : Nat → Nat) (w w' : World) : Prop where
  bel : Below lo w w'
  same : ∀ j, j < w.heap.size → (∀ a, a < V → j ≠ hs a) → w'.heap[j]? = w.heap[j]?
theorem RowsOnly.refl (lo V : Nat) (hs : Nat → Nat) (w : World) : RowsOnly lo V hs w w := ⟨Below.refl _ _, fun _ _ _ => rfl⟩
theorem RowsOnly.trans {lo V : Nat} {hs : Nat → Nat} {a b c : World} (h : RowsOnly lo V hs a b) (k : RowsOnly lo V hs b c) : RowsOnly lo V hs a c :=
  ⟨h.bel.trans k.bel, fun j hj hn => (k.same j (Nat.lt_of_lt_of_le hj h.bel.size) hn).trans (h.same j hj hn)⟩
theorem RowsOnly.of {lo V : Nat} {hs : Nat → Nat} {a b : World} (h : Below a.heap.size a b) (hl : lo ≤ a.heap.size) : RowsOnly lo V hs a b :=
  ⟨h.mono hl, fun j hj _ => h.block j hj⟩
theorem RowsOnly.put {lo V : Nat} {hs : Nat → Nat} (w : World) {a : Nat} (ha : a < V) (hl : lo ≤ hs a) (b : Nat) (v : Value) : RowsOnly lo V hs w (w.setCell ⟨hs a, b, none⟩ v) :=
  ⟨(Below.refl _ _).setCell (p := ⟨hs a, b, none⟩) hl _, fun j _ hn => Below.heap_setCell _ _ _ j (by intro e; exact hn a ha e)⟩
theorem RowsOnly.cell {lo V : Nat} {hs : Nat → Nat} {a b : World} (h : RowsOnly lo V hs a b) {p : Addr} {v : Value} (hp : ∀ i, i < V → p.block ≠ hs i) (hc : a.cell? p = some v) : b.cell? p = some v :=
  (World.cell?_of_block (h.same p.block (World.block_lt_of_cell? a p hc) hp)).trans hc
theorem MatO.upon {w w' : World} {lo g n V : Nat} {ls : Nat → List Int} (h : MatO w lo g n V ls) (hb : ∀ k, lo ≤ k → k < w.heap.size → w'.heap[k]? = w.heap[k]?) : MatO w' lo g n V ls := by
  obtain ⟨cur, hc, hs, hr⟩ := h.box
  refine ⟨h.low, cur, (hb g h.low h.lt).trans hc, hs, fun i hi => ?_⟩
  obtain ⟨g', cap', h1, h2⟩ := hr i hi
  refine ⟨g', cap', h1, h2.sameB (fun k hk => ?_)⟩
  obtain ⟨h3, c, h4⟩ := h2.block hk
  exact hb k h3 (Array.getElem?_eq_some_iff.1 h4).1

set_option maxRecDepth 100000 in
set_option maxHeartbeats 8000000 in
theorem l12Clashes_any (v : Value) (F : FnD) (n V : Nat) (w : World) (hF : FnAt w v F) (hP : PlainV F n V) :
    Calls Try.prog 11 #[v] w fun e w' => GivesW w V (Clsh F) e w' := by
  have HF : Hid (FnAt w v F) := hF
  have HP : Hid (PlainV F n V) := hP
  have HN : Hid (F.blocks.length = n) := hP.len
  obtain ⟨ba, bcap, rfl⟩ := hF.out hP.len hP.vals
  have hn1 := hP.n1
  have hn16 := hP.n16
  have hV8 := hP.v80
  obtain ⟨i0, hi, hz0, hz1, hz2⟩ := info_parts cinfo_row
  have hmx : 2000000 ≤ maxLen := by decide
  clear hF hP
  obtain ⟨wA, hwA⟩ : ∃ wA, w.alloc (.cells #[.slice ba n bcap, .int .i64 V] 29) = wA := ⟨_, rfl⟩
  have BA : Hid (Below w.heap.size w wA) := by rw [← hwA]; exact Bel.alloc _ _
  have hsA : wA.heap.size = w.heap.size + 1 := by rw [← hwA]; simp
  have a0 : wA.cell? ⟨w.heap.size, 0, none⟩ = some (.slice ba n bcap) := by rw [← hwA]; simp [go_sem]
  have a1 : wA.cell? ⟨w.heap.size, 1, none⟩ = some (.int .i64 V) := by rw [← hwA]; simp [go_sem]
  obtain ⟨wB, hwB⟩ : ∃ wB, wA.alloc (.cells #[] 35) = wB := ⟨_, rfl⟩
  have BB : Hid (Below wA.heap.size wA wB) := by rw [← hwB]; exact Bel.alloc _ _
  have hsB : wB.heap.size = w.heap.size + 2 := by rw [← hwB]; simp; omega
  have UB : Hid (HdW wB (w.heap.size + 1) V (.slice (some ⟨w.heap.size + 1, 0, none⟩) 0 0) 0) := by
    have h9 : HdW wB (w.heap.size + 1) V (.slice (some ⟨w.heap.size + 1, 0, none⟩) 0 0) 0 := by
      rw [← hwB, ← hsA]
      exact ⟨[], World.ownsRow_made wA #[] 0 (by omega) (by omega) rfl, List.nodup_nil, fun h hh => by cases hh⟩
    exact h9
  have b0 := Bel.keeps BB.out a0
  have b1 := Bel.keeps BB.out a1
  go_enter Try.func11, Try.ntmps11
  go_wp2_with fail
  go_loopw [3, 4] (fun mv i wr => ∃ (k g cap : Nat), k ≤ V ∧ i = .int .i64 k ∧ mv = .slice (some ⟨g, 0, none⟩) k cap ∧ HdW wr (w.heap.size + 1) V (.slice (some ⟨g, 0, none⟩) k cap) k ∧ Below (w.heap.size + 1) wB wr) (fun _ i _ => V - (intOf i).toNat)
  case atStart => exact ⟨0, w.heap.size + 1, 0, Nat.zero_le _, rfl, rfl, UB.out, Below.refl _ _⟩
  case round =>
    obtain ⟨wq, hwq⟩ : ∃ x, x = wr := ⟨_, rfl⟩
    subst hwq
    obtain ⟨k, g, cap, hk, rfl, rfl, hup, hbq⟩ := hrel
    have UP : Hid (HdW wq (w.heap.size + 1) V (.slice (some ⟨g, 0, none⟩) k cap) k) := hup
    have BQ : Hid (Below (w.heap.size + 1) wB wq) := hbq
    have f0 : wq.cell? ⟨w.heap.size, 0, none⟩ = some (.slice ba n bcap) := (hbq.cell (p := ⟨w.heap.size, 0, none⟩) (by simp)).trans b0
    have f1 : wq.cell? ⟨w.heap.size, 1, none⟩ = some (.int .i64 V) := (hbq.cell (p := ⟨w.heap.size, 1, none⟩) (by simp)).trans b1
    have hsq := hbq.size
    clear hup hbq
    by_cases hlt : (k : Int) < (V : Int)
    · have hmk := make_bools V (by omega) wq
      obtain ⟨wM, hwM⟩ : ∃ wM, wq.alloc (.cells (madeCells #[.bool false] V) 4) = wM := ⟨_, rfl⟩
      rw [hwM] at hmk
      have BM : Hid (Below wq.heap.size wq wM) := by rw [← hwM]; exact Bel.alloc _ _
      have OM : Hid (OwnBools wM (w.heap.size + 1) (.slice (some ⟨wq.heap.size, 0, none⟩) V V) (bitsOf V [])) := by rw [← hwM]; exact ownBools_made V _ (by omega) wq (by omega)
      have hsM : wM.heap.size = wq.heap.size + 1 := by rw [← hwM]; simp
      clear hwM
      obtain ⟨gs, hrow, hnd, hall⟩ := UP.out
      have HROW : Hid (wM.ownsRow (w.heap.size + 1) 35 1 (.slice (some ⟨g, 0, none⟩) k cap) k (gs.map (fun g' => Value.slice (some ⟨g', 0, none⟩) V V))) := ownsRow_laterB hrow BM.out
      have HND : Hid gs.Nodup := hnd
      have HALL : Hid (∀ g' ∈ gs, g' < wq.heap.size ∧ OwnBools wM (w.heap.size + 1) (.slice (some ⟨g', 0, none⟩) V V) (bitsOf V [])) := fun h hh => ⟨(hall h hh).1, (hall h hh).2.keep BM.out⟩
      clear hrow hall hnd
      obtain ⟨hds, HDS⟩ : ∃ z, Hid (gs.map (fun g' => Value.slice (some ⟨g', 0, none⟩) V V) = z) := ⟨_, rfl⟩
      rw [HDS.out] at HROW
      go_wp2_with (at_builtin; refine wpList_append_own _ rfl _ _ 36 rfl (w.heap.size + 1) 35 i0 (.slice none 0 0) 1 24 Try.underlying36 hi hz0 hz1 hz2 rfl (by decide) (.slice (some ⟨g, 0, none⟩) k cap) k hds rfl (World.ownsRow.alloc HROW.out _) ⟨wM.heap.size, 0, none⟩ 1 1 [.slice (some ⟨wq.heap.size, 0, none⟩) V V] (by simp [Act.eval]) rfl (by have := cell_one_new wM (.slice (some ⟨wq.heap.size, 0, none⟩) V V) 35; simpa using this) (by simp [Value.oneCell']) (by omega) (by omega) (by simp; omega) ?_; intro v' wa hown' hgrow _; obtain ⟨g', cap', rfl⟩ := ownsRow_succ hown')
      have UA : Hid (HdW wa (w.heap.size + 1) V (.slice (some ⟨g', 0, none⟩) (k + 1) cap') (k + 1)) := by
        rw [← HDS.out] at hown'
        exact hdW_next (by rw [HDS.out]; exact HROW.out) HND.out HALL.out hsM OM.out hown' hgrow
      have BQA : Hid (Below (w.heap.size + 1) wB wa) := BQ.out.trans ((BM.out.mono (by omega)).trans ((((Below.refl (w.heap.size + 1) wM).alloc (by omega) _).grown hgrow (by simp; omega) (fun j ej => by have := (World.ownsRow.lt HROW.out j ej).1; omega))))
      go_roundw
      case rel => exact ⟨k + 1, g', cap', by omega, by simp, rfl, UA.out, BQA.out⟩
      case measure => simp [intOf]; omega
    · have ekn : V = k := by omega
      subst ekn
      obtain ⟨hs, hM0⟩ := UP.out.mat
      have HM0 : Hid (MatW wq (w.heap.size + 1) g V V hs (fun _ => [])) := hM0
      clear hM0 UP
      have B1Q : Hid (Below w.heap.size w wq) := (Bel.after BA.out BB.out).trans (BQ.out.mono (by omega))
      go_wp2_with fail
      refine (l11In_any _ F n V _ (HF.out.later B1Q.out) HP.out).mono ?_
      rintro e w3 ⟨mg, mc, rfl, hm, b3⟩
      have HM : Hid (MatO w3 wq.heap.size mg n V (liveL F)) := hm
      have B3 : Hid (Below w.heap.size w w3) := Bel.after B1Q.out b3
      have d0 := Bel.keeps b3 f0
      have d1 := Bel.keeps b3 f1
      have HMW : Hid (MatW w3 (w.heap.size + 1) g V V hs (fun _ => [])) := HM0.out.keep b3
      have HF3 : Hid (FnAt w3 (.agg #[.slice ba n bcap, .int .i64 V]) F) := HF.out.later B3.out
      have HHS : Hid (∀ a, a < V → w.heap.size + 1 ≤ hs a ∧ hs a < wq.heap.size) := fun a ha => HM0.out.rowLow ha
      have hs3 := b3.size
      clear hm b3 HM0
      go_wp2_with fail
      go_loopw [6] (fun i wr => ∃ (k : Nat), k ≤ n ∧ i = .int .i64 k ∧ MatW wr (w.heap.size + 1) g V V hs (setL (Way F (UpTo k 0))) ∧ RowsOnly (w.heap.size + 1) V hs w3 wr) (fun i _ => n - (intOf i).toNat)
      case atStart => exact ⟨0, Nat.zero_le _, rfl, HMW.out.congr (fun i _ j _ => by rw [setL_mem]; exact ⟨fun h => (by cases h), fun h => absurd h.1 (way_none _ _)⟩), RowsOnly.refl _ _ _ _⟩
      case round =>
        obtain ⟨wp, hwp⟩ : ∃ x, x = wr := ⟨_, rfl⟩
        subst hwp
        obtain ⟨k, hk, rfl, hmat, hro⟩ := hrel
        have MP : Hid (MatW wp (w.heap.size + 1) g V V hs (setL (Way F (UpTo k 0)))) := hmat
        have RP : Hid (RowsOnly (w.heap.size + 1) V hs w3 wp) := hro
        have g0 : wp.cell? ⟨w.heap.size, 0, none⟩ = some (.slice ba n bcap) := (hro.bel.cell (p := ⟨w.heap.size, 0, none⟩) (by simp)).trans d0
        have g1 : wp.cell? ⟨w.heap.size, 1, none⟩ = some (.int .i64 V) := (hro.bel.cell (p := ⟨w.heap.size, 1, none⟩) (by simp)).trans d1
        clear hmat hro
        by_cases hlt : (k : Int) < (n : Int)
        · have hkn : k < n := by omega
          have hcl : k < F.blocks.length := by rw [HN.out]; exact hkn
          obtain ⟨x, HX⟩ : ∃ x, Hid (F.blocks[k]? = some x) := ⟨F.blocks[k], List.getElem?_eq_getElem hcl⟩
          obtain ⟨bb, off, hba, pv, lv, t0, t1, t2, t3, t4, t5, hpv, hlv⟩ := FnAt.blockC HF.out HN.out hkn HX.out
          subst hba
          have HLV : Hid (ListAt 0 5 InsAt w lv x.list) := hlv
          obtain ⟨la, lcap, rfl, hlm, -⟩ := hlv
          obtain ⟨ln, HLN⟩ : ∃ z, Hid (x.list.length = z) := ⟨_, rfl⟩
          rw [HLN.out] at t1 hlm
          rw [HLN.out] at HLV
          have HT1 : Hid (w.cell? ⟨bb, off + k * 6 + 1, none⟩ = some (.slice la ln lcap)) := t1
          clear t0 t1 t2 t3 t4 t5 hpv hcl
          go_wp2_with fail
          go_loopw [7] (fun i wr => ∃ (j : Nat), j ≤ ln ∧ i = .int .i64 j ∧ MatW wr (w.heap.size + 1) g V V hs (setL (Way F (UpTo k j))) ∧ RowsOnly (w.heap.size + 1) V hs w3 wr) (fun i _ => ln - (intOf i).toNat)
          case atStart => exact ⟨0, Nat.zero_le _, rfl, MP.out, RP.out⟩
          case round =>
            obtain ⟨wx, hwx⟩ : ∃ x, x = wr := ⟨_, rfl⟩
            subst hwx
            obtain ⟨j, hj, rfl, hmat, hro⟩ := hrel
            have MX : Hid (MatW wx (w.heap.size + 1) g V V hs (setL (Way F (UpTo k j)))) := hmat
            have RX : Hid (RowsOnly (w.heap.size + 1) V hs w3 wx) := hro
            have BX : Hid (Below w.heap.size w wx) := B3.out.trans (hro.bel.mono (by omega))
            have h0 : wx.cell? ⟨w.heap.size, 0, none⟩ = some (.slice (some ⟨bb, off, none⟩) n bcap) := (hro.bel.cell (p := ⟨w.heap.size, 0, none⟩) (by simp)).trans d0
            have h1 : wx.cell? ⟨w.heap.size, 1, none⟩ = some (.int .i64 V) := (hro.bel.cell (p := ⟨w.heap.size, 1, none⟩) (by simp)).trans d1
            have h2 := Bel.keeps BX.out HT1.out
            have hsx := hro.bel.size
            clear hmat hro
            by_cases hlj : (j : Int) < (ln : Int)
            · have hjl : j < x.list.length := by have := HLN.out; omega
              obtain ⟨y, HY⟩ : ∃ y, Hid (x.list[j]? = some y) := ⟨x.list[j], List.getElem?_eq_getElem hjl⟩
              obtain ⟨lb, lo2, hla, hin⟩ := placeAt HLV.out HY.out
              subst hla
              obtain ⟨i0, i1, i2, i3, i4⟩ := hin
              replace i0 := Bel.keeps BX.out i0
              replace i1 := Bel.keeps BX.out i1
              replace i2 := Bel.keeps BX.out i2
              replace i3 := Bel.keeps BX.out i3
              replace i4 := Bel.keeps BX.out i4
              obtain ⟨yop, yd, ya, yb, yn⟩ := y
              dsimp only at i0 i1 i2 i3 i4
              have HDF : Hid (insDefV yop yd = -1 ∨ (0 ≤ insDefV yop yd ∧ insDefV yop yd < V)) := HP.out.defs HX.out HY.out
              obtain ⟨dd, HDD⟩ : ∃ z, Hid (insDefV yop yd = z) := ⟨_, rfl⟩
              rw [HDD.out] at HDF
              clear hjl
              go_wp2_with fail
              obtain ⟨wC, hwC⟩ : ∃ wC, wx.alloc (.cells #[.int .i64 yop, .int .i64 yd, .int .i64 ya, .int .i64 yb, .int .i64 yn] 60) = wC := ⟨_, rfl⟩
              have BC : Hid (Below wx.heap.size wx wC) := by rw [← hwC]; exact Bel.alloc _ _
              have x0 : wC.cell? ⟨wx.heap.size, 0, none⟩ = some (.int .i64 yop) := by rw [← hwC]; simp [go_sem]
              have x2 : wC.cell? ⟨wx.heap.size, 2, none⟩ = some (.int .i64 ya) := by rw [← hwC]; simp [go_sem]
              rw [hwC]
              clear hwC
              refine (spec_insDef yop yd ya yb yn _).mono ?_
              rintro e w5 ⟨rfl, b5⟩
              rw [HDD.out]
              have B5 : Hid (Below wx.heap.size wx w5) := Bel.after BC.out b5
              replace x0 := Bel.keeps b5 x0
              replace x2 := Bel.keeps b5 x2
              replace h0 := Bel.keeps B5.out h0
              replace h1 := Bel.keeps B5.out h1
              have MO5 : Hid (MatO w5 wq.heap.size mg n V (liveL F)) := (HM.out.upon (fun k9 h1 h2 => RX.out.same k9 h2 (fun a ha e => by have := (HHS.out a ha).2; omega))).keep B5.out
              have MW5 : Hid (MatW w5 (w.heap.size + 1) g V V hs (setL (Way F (UpTo k j)))) := MX.out.keep B5.out
              have hs5 := B5.out.size
              clear b5 i0 i1 i2 i3 i4 h2
              go_wp2_with fail
              rw [show (j : Int) + 1 = ((j + 1 : Nat) : Int) by omega]
              refine (l11Before_any _ F k n V mg mc (j + 1) (liveL F) w5 (HF.out.later (Bel.after BX.out B5.out)) HN.out HP.out.vals hV8 hkn (HP.out.su k) MO5.out.at x HX.out (HP.out.ends k x HX.out) (HP.out.uses k x HX.out) (by have := HLN.out; omega)).mono ?_
              rintro e w6 ⟨g6, cap6, rfl, ho6, b6⟩
              have B6 : Hid (Below wx.heap.size wx w6) := Bel.after B5.out b6
              obtain ⟨l, HL⟩ : ∃ z, Hid (atS x (outF F (liveL F) k) (j + 1) = z) := ⟨_, rfl⟩
              rw [HL.out] at ho6
              have HLV2 : Hid (∀ z ∈ l, z < (V : Int)) := by
                have h9 := HP.out.atV HX.out (outV (F := F) (liveV HP.out) k) (j + 1)
                rw [HL.out] at h9
                exact h9
              have O6 : Hid (OwnBools w6 w5.heap.size (.slice (some ⟨g6, 0, none⟩) V cap6) (bitsOf V l)) := ho6
              replace x0 := Bel.keeps b6 x0
              replace x2 := Bel.keeps b6 x2
              replace h0 := Bel.keeps b6 h0
              replace h1 := Bel.keeps b6 h1
              have MW6 : Hid (MatW w6 (w.heap.size + 1) g V V hs (setL (Way F (UpTo k j)))) := MW5.out.keep b6
              have hg6 : w5.heap.size ≤ g6 := (ho6.block rfl).1
              have HNW : Hid (∀ b : Nat, wx.heap.size ≤ b → ∀ a, a < V → b ≠ hs a) := fun b hb a ha e => by have := (HHS.out a ha).2; omega
              have HWY : Hid (∀ a c, Way F (UpTo k (j + 1)) a c ↔ Way F (UpTo k j) a c ∨ Meets ⟨yop, yd, ya, yb, yn⟩ l a c) := fun a c => by
                rw [← HL.out]
                exact way_up HX.out HY.out a c
              have R6 : Hid (∀ wr, RowsOnly (w.heap.size + 1) V hs w6 wr → RowsOnly (w.heap.size + 1) V hs w3 wr) := fun wr h => RX.out.trans ((RowsOnly.of B6.out (by omega)).trans h)
              clear ho6 b6 MO5 MW5
              go_wp2_with fail
              go_loopw [11] (fun i wr => ∃ (z : Nat), z ≤ V ∧ i = .int .i64 z ∧ MatW wr (w.heap.size + 1) g V V hs (setL (fun a c => Way F (UpTo k j) a c ∨ Meets ⟨yop, yd, ya, yb, yn⟩ (l.filter (fun q => decide (q < (z : Int)))) a c)) ∧ RowsOnly (w.heap.size + 1) V hs w6 wr) (fun i _ => V - (intOf i).toNat)
              case atStart =>
                refine ⟨0, Nat.zero_le _, rfl, ?_, RowsOnly.refl _ _ _ _⟩
                rw [← setL_congr (S := Way F (UpTo k j)) (fun a c => ⟨.inl, fun h => h.elim id (fun h9 => absurd (h9.mono (m := []) (fun q hq => by
                  obtain ⟨q1, q2⟩ := List.mem_filter.1 hq
                  have := HL.out ▸ (atS_ok x (outF F (liveL F) k) (j + 1)).2 q
                  have := this q1
                  simp at q2
                  omega)) (meets_nil _ _))⟩)]
                exact MW6.out
              case round =>
                obtain ⟨wz, hwz⟩ : ∃ x, x = wr := ⟨_, rfl⟩
                subst hwz
                obtain ⟨z, hz, rfl, hmat, hro⟩ := hrel
                have MZ : Hid (MatW wz (w.heap.size + 1) g V V hs (setL (fun a c => Way F (UpTo k j) a c ∨ Meets ⟨yop, yd, ya, yb, yn⟩ (l.filter (fun q => decide (q < (z : Int)))) a c))) := hmat
                have RZ : Hid (RowsOnly (w.heap.size + 1) V hs w6 wz) := hro
                have c1 : wz.cell? ⟨w.heap.size, 1, none⟩ = some (.int .i64 V) := (hro.bel.cell (p := ⟨w.heap.size, 1, none⟩) (by simp)).trans h1
                have c2 := hro.cell (p := ⟨wx.heap.size, 0, none⟩) (HNW.out _ (Nat.le_refl _)) x0
                have c3 := hro.cell (p := ⟨wx.heap.size, 2, none⟩) (HNW.out _ (Nat.le_refl _)) x2
                clear hmat hro
                by_cases hend : z < V ∧ 0 ≤ dd
                · obtain ⟨hzV, hd0⟩ := hend
                  have hzI : (z : Int) < (V : Int) := by omega
                  have hdV : dd < (V : Int) := by have := HDF.out; omega
                  obtain ⟨_, _, _, _, hcell, _⟩ := O6.out.cells
                  have c4 := RZ.out.cell (p := ⟨g6, z, none⟩) (HNW.out g6 (by omega)) (hcell z hzV)
                  rw [bits_getD _ hzV] at c4
                  obtain ⟨t, HT⟩ : ∃ t, Hid (decide ((z : Int) ∈ l) = t) := ⟨_, rfl⟩
                  rw [HT.out] at c4
                  clear hcell
                  have skip : Hid (¬ HitBy ⟨yop, yd, ya, yb, yn⟩ l dd z → ∃ (z' : Nat), z' ≤ V ∧ Value.int .i64 ((z : Int) + 1) = .int .i64 z' ∧ MatW wz (w.heap.size + 1) g V V hs (setL (fun a c => Way F (UpTo k j) a c ∨ Meets ⟨yop, yd, ya, yb, yn⟩ (l.filter (fun q => decide (q < (z' : Int)))) a c)) ∧ RowsOnly (w.heap.size + 1) V hs w6 wz) := fun hno => ⟨z + 1, by omega, by simp, by
                    have h9 := MZ.out
                    rw [setL_congr (T := fun a c => Way F (UpTo k j) a c ∨ Meets ⟨yop, yd, ya, yb, yn⟩ (l.filter (fun q => decide (q < ((z + 1 : Nat) : Int)))) a c) (fun a c => by
                      have := meets_skip (y := ⟨yop, yd, ya, yb, yn⟩) (l := l) (v := (z : Int)) (by show ¬ HitBy _ _ (insDefV yop yd) _; rw [HDD.out]; exact hno) a c
                      rw [show ((z + 1 : Nat) : Int) = (z : Int) + 1 by omega, this])] at h9
                    exact h9, RZ.out⟩
                  by_cases e1 : (z : Int) = dd
                  · have f1 : ((z : Int) != dd) = false := by simp [e1]
                    have HNO : Hid (¬ HitBy ⟨yop, yd, ya, yb, yn⟩ l dd z) := fun h => h.2.2.2.1 e1
                    clear e1
                    go_wp2_with fail
                    go_roundw
                    case rel => exact skip.out HNO.out
                    case measure => simp [intOf]; omega
                  · have f1 : ((z : Int) != dd) = true := by simp [e1]
                    cases t
                    · have HNO : Hid (¬ HitBy ⟨yop, yd, ya, yb, yn⟩ l dd z) := fun h => of_decide_eq_false HT.out h.2.2.1
                      clear e1
                      go_wp2_with fail
                      go_roundw
                      case rel => exact skip.out HNO.out
                      case measure => simp [intOf]; omega
                    · by_cases e2 : yop = 25 ∧ (z : Int) = ya
                      · have f2 : (yop != 25) = false := by simp [e2.1]
                        have f3 : ((z : Int) != ya) = false := by simp [e2.2]
                        have HNO : Hid (¬ HitBy ⟨yop, yd, ya, yb, yn⟩ l dd z) := fun h => h.2.2.2.2 e2
                        clear e1 e2
                        go_wp2_with fail
                        go_roundw
                        case rel => exact skip.out HNO.out
                        case measure => simp [intOf]; omega
                      · have HHIT : Hid (HitBy ⟨yop, yd, ya, yb, yn⟩ l dd z) := ⟨HDD.out, hd0, of_decide_eq_true HT.out, e1, e2⟩
                        obtain ⟨m, rfl⟩ : ∃ m : Nat, dd = (m : Int) := ⟨dd.toNat, by omega⟩
                        have hmV : m < V := by omega
                        have r1 := MZ.out.head hmV
                        have r2 := MZ.out.head hzV
                        obtain ⟨r3, r4⟩ := MZ.out.bit hmV hzV
                        obtain ⟨r5, r6⟩ := MZ.out.bit hzV hmV
                        have hne : hs m ≠ hs z := fun e => by have := MZ.out.inj m z hmV hzV e; omega
                        have hnm : hs m ≠ g := MZ.out.notRow hmV
                        have W1a : (wz.setCell ⟨hs m, z, none⟩ (.bool true)).cell? ⟨g, z, none⟩ = some (.slice (some ⟨hs z, 0, none⟩) V V) := (World.cell?_setCell_other _ _ _ _ (by simp <;> omega)).trans r2
                        have hit : Hid (∃ (z' : Nat), z' ≤ V ∧ Value.int .i64 ((z : Int) + 1) = .int .i64 z' ∧ MatW ((wz.setCell ⟨hs m, z, none⟩ (.bool true)).setCell ⟨hs z, m, none⟩ (.bool true)) (w.heap.size + 1) g V V hs (setL (fun a c => Way F (UpTo k j) a c ∨ Meets ⟨yop, yd, ya, yb, yn⟩ (l.filter (fun q => decide (q < (z' : Int)))) a c)) ∧ RowsOnly (w.heap.size + 1) V hs w6 ((wz.setCell ⟨hs m, z, none⟩ (.bool true)).setCell ⟨hs z, m, none⟩ (.bool true))) := ⟨z + 1, by omega, by simp, MZ.out.hit hV8 hmV hzV (fun a c => by
                          have := meets_hit HHIT.out a c
                          rw [show ((z + 1 : Nat) : Int) = (z : Int) + 1 by omega, this]
                          constructor
                          · rintro (h | h | h)
                            · exact .inl (.inl h)
                            · exact .inl (.inr h)
                            · exact .inr h
                          · rintro ((h | h) | h)
                            · exact .inl h
                            · exact .inr (.inl h)
                            · exact .inr (.inr h)), RZ.out.trans ((RowsOnly.put _ hmV (HHS.out m hmV).1 _ _).trans (RowsOnly.put _ hzV (HHS.out z hzV).1 _ _))⟩
                        by_cases e3 : yop = 25
                        · have f2 : (yop != 25) = false := by simp [e3]
                          have f3 : ((z : Int) != ya) = true := by simpa using fun h => e2 ⟨e3, h⟩
                          clear e1 e2 e3
                          go_wp2_with fail
                          go_roundw
                          case rel => exact hit.out
                          case measure => simp [intOf]; omega
                        · have f2 : (yop != 25) = true := by simp [e3]
                          clear e1 e2 e3
                          go_wp2_with fail
                          go_roundw
                          case rel => exact hit.out
                          case measure => simp [intOf]; omega
                · have hfin : Hid (∃ j' : Nat, j' ≤ ln ∧ Value.int .i64 ((j : Int) + 1) = .int .i64 j' ∧ MatW wz (w.heap.size + 1) g V V hs (setL (Way F (UpTo k j'))) ∧ RowsOnly (w.heap.size + 1) V hs w3 wz) := ⟨j + 1, by omega, by simp, by
                    have h9 := MZ.out
                    rw [setL_congr (T := Way F (UpTo k (j + 1))) (fun a c => by
                      rw [HWY.out a c]
                      refine ⟨fun h => h.imp id (fun h => h.mono (fun q hq => (List.mem_filter.1 hq).1)), fun h => h.imp id (fun h => ?_)⟩
                      by_cases hd0 : 0 ≤ dd
                      · exact h.mono (fun q hq => List.mem_filter.2 ⟨hq, by have := HLV2.out q hq; simp; omega⟩)
                      · exact absurd h (Meets.none (by show insDefV yop yd < 0; rw [HDD.out]; omega)))] at h9
                    exact h9, R6.out _ RZ.out⟩
                  by_cases hzl : (z : Int) < (V : Int)
                  · have hdd : ¬ (dd ≥ 0) := by omega
                    clear hend
                    go_wp2_with fail
                    go_roundw
                    case rel => exact hfin.out
                    case measure => simp [intOf]; omega
                  · clear hend
                    go_wp2_with fail
                    go_roundw
                    case rel => exact hfin.out
                    case measure => simp [intOf]; omega
            · have ej : ln = j := by omega
              subst ej
              go_wp2_with fail
              go_roundw
              case rel =>
                have h9 := MX.out
                rw [setL_congr (T := Way F (UpTo (k + 1) 0)) (fun a c => by have h8 := way_block HX.out a c; rw [HLN.out] at h8; exact h8)] at h9
                exact ⟨k + 1, by omega, by simp, h9, RX.out⟩
              case measure => simp [intOf]; omega
        · have ekn : n = k := by omega
          subst ekn
          go_wp2_with fail
          go_ret
          refine ⟨g, cap, hs, rfl, ?_, B3.out.trans (RP.out.bel.mono (by omega))⟩
          rw [← setL_congr (way_all HN.out)]
          exact MP.out.lower (by omega)
end Go.Proofs.Ytjfogpbhacadbaa
