/- How many are needed at once: the model's Busy. -/
import Derived.Test.YtldcohhifmpedaaGreatLPlainK
namespace Go.Proofs.YtldcohhifmpedaaGreat
open Go.ChangeShapes Go.WideShapes Go.ChangeAt Go.RowKit Go.Shelf
set_option linter.unusedVariables false

/-- How many are needed ahead of a place; the places of a block. -/
noncomputable def lenAt (F : FnD) (b j : Nat) : Nat := match F.blocks[b]? with
  | some x => (atS x (outF F (liveL F) b) j).length
  | none => 0
def placesN (F : FnD) (b : Nat) : Nat := match F.blocks[b]? with
  | some x => x.list.length
  | none => 0
theorem lenAt_at {F : FnD} {b : Nat} {x : BlockD} (h : F.blocks[b]? = some x) (j : Nat) : lenAt F b j = (atS x (outF F (liveL F) b) j).length := by unfold lenAt; rw [h]
theorem placesN_at {F : FnD} {b : Nat} {x : BlockD} (h : F.blocks[b]? = some x) : placesN F b = x.list.length := by unfold placesN; rw [h]
theorem lenAt_le (F : FnD) (b j : Nat) : lenAt F b j ≤ 80 := by
  unfold lenAt
  split
  · exact atS_len _ _ _
  · omega
/-- The greatest of those that were looked at. -/
def Top (F : FnD) (P : Nat → Nat → Prop) (M : Nat) : Prop := (∀ b j, P b j → lenAt F b j ≤ M) ∧ (M = 0 ∨ ∃ b j, P b j ∧ M = lenAt F b j)
theorem Top.le {F : FnD} {P : Nat → Nat → Prop} {M : Nat} (h : Top F P M) : M ≤ 80 := by
  rcases h.2 with h | ⟨b, j, _, h⟩
  · omega
  · have := lenAt_le F b j
    omega
theorem Top.uniq {F : FnD} {P : Nat → Nat → Prop} {M N : Nat} (h : Top F P M) (k : Top F P N) : M = N := by
  have a : M ≤ N := by
    rcases h.2 with h2 | ⟨b, j, h1, h2⟩
    · omega
    · rw [h2]; exact k.1 b j h1
  have b : N ≤ M := by
    rcases k.2 with h2 | ⟨b, j, h1, h2⟩
    · omega
    · rw [h2]; exact h.1 b j h1
  omega
theorem Top.congr {F : FnD} {P P' : Nat → Nat → Prop} {M : Nat} (h : Top F P M) (e : ∀ b j, P b j ↔ P' b j) : Top F P' M :=
  ⟨fun b j hp => h.1 b j ((e b j).2 hp), h.2.imp id (fun ⟨b, j, h1, h2⟩ => ⟨b, j, (e b j).1 h1, h2⟩)⟩
theorem Top.add {F : FnD} {P P' : Nat → Nat → Prop} {M b0 j0 : Nat} (h : Top F P M) (e : ∀ b j, P' b j ↔ P b j ∨ (b = b0 ∧ j = j0)) : Top F P' (max M (lenAt F b0 j0)) := by
  refine ⟨fun b j hp => ?_, ?_⟩
  · rcases (e b j).1 hp with hp | ⟨rfl, rfl⟩
    · have := h.1 b j hp
      omega
    · omega
  · by_cases hc : M ≤ lenAt F b0 j0
    · exact .inr ⟨b0, j0, (e _ _).2 (.inr ⟨rfl, rfl⟩), by omega⟩
    · rcases h.2 with h2 | ⟨b, j, h1, h2⟩
      · omega
      · exact .inr ⟨b, j, (e _ _).2 (.inl h1), by omega⟩
def ToBlock (F : FnD) (k : Nat) (b j : Nat) : Prop := b < k ∧ j ≤ placesN F b
def ToPlace (F : FnD) (k i : Nat) (b j : Nat) : Prop := ToBlock F k b j ∨ (b = k ∧ j < i)
theorem top_none (F : FnD) : Top F (ToBlock F 0) 0 := ⟨fun b j h => absurd h.1 (by omega), .inl rfl⟩
def BusyIs (F : FnD) (M : Int) : Prop := (¬ FnPlain F ∧ M = -1) ∨ (FnPlain F ∧ ∃ m : Nat, M = (m : Int) ∧ Top F (ToBlock F F.blocks.length) m)
theorem BusyIs.uniq {F : FnD} {M N : Int} (h : BusyIs F M) (k : BusyIs F N) : M = N := by
  rcases h with ⟨h1, h2⟩ | ⟨h1, m, h2, h3⟩ <;> rcases k with ⟨k1, k2⟩ | ⟨k1, l, k2, k3⟩
  · omega
  · exact absurd k1 h1
  · exact absurd h1 k1
  · have := h3.uniq k3
    omega
open Classical in
noncomputable def busyOf (F : FnD) : Int := if h : ∃ M, BusyIs F M then h.choose else 0
theorem busyOf_eq {F : FnD} {M : Int} (h : BusyIs F M) : busyOf F = M := by
  have he : ∃ M, BusyIs F M := ⟨M, h⟩
  unfold busyOf
  rw [dif_pos he]
  exact he.choose_spec.uniq h
def GivesInt (w : World) (x : Int) (e : Ending) (w' : World) : Prop := e = .returned (.int .i64 x) ∧ Below w.heap.size w w'

set_option maxHeartbeats 1000000 in
theorem l1Max_val (x y : Int) (w : World) : Calls Tryz.prog 101 #[.int .i64 x, .int .i64 y] w fun e w' => e = .returned (.int .i64 (max x y)) ∧ w' = w := by
  by_cases h : x > y
  · rw [show max x y = x by omega]
    go_enter Tryz.func101, Tryz.ntmps101
    go_wp2
    go_ret
    exact ⟨rfl, rfl⟩
  · rw [show max x y = y by omega]
    go_enter Tryz.func101, Tryz.ntmps101
    go_wp2
    go_ret
    exact ⟨rfl, rfl⟩

set_option maxRecDepth 100000 in
set_option maxHeartbeats 8000000 in
theorem spec_busy (v : Value) (F : FnD) (w : World) (hF : FnAt w v F) :
    Calls Tryz.prog 44 #[v] w fun e w' => GivesInt w (busyOf F) e w' := by
  have HF : Hid (FnAt w v F) := hF
  obtain ⟨n, HN⟩ : ∃ n, Hid (F.blocks.length = n) := ⟨_, rfl⟩
  obtain ⟨vals, HV⟩ : ∃ x, Hid (F.values = x) := ⟨_, rfl⟩
  obtain ⟨ba, bcap, rfl⟩ := hF.out HN.out HV.out
  have hmost : n ≤ 9223372036854775807 := by rw [← HN.out]; exact hF.most
  clear hF
  obtain ⟨wA, hwA⟩ : ∃ wA, w.alloc (.cells #[.slice ba n bcap, .int .i64 vals] 26) = wA := ⟨_, rfl⟩
  have BA : Hid (Below w.heap.size w wA) := by rw [← hwA]; exact Bel.alloc _ _
  have a0 : wA.cell? ⟨w.heap.size, 0, none⟩ = some (.slice ba n bcap) := by rw [← hwA]; simp [go_sem]
  have a1 : wA.cell? ⟨w.heap.size, 1, none⟩ = some (.int .i64 vals) := by rw [← hwA]; simp [go_sem]
  go_enter Tryz.func44, Tryz.ntmps44
  go_wp2_with fail
  refine (spec_plainOk _ F _ (HF.out.later BA.out)).mono ?_
  rintro e w2 ⟨s, rfl, hs, b2⟩
  have HS : Hid (s = true ↔ FnPlain F) := hs
  have B2 : Hid (Below w.heap.size w w2) := Bel.after BA.out b2
  have c0 := Bel.keeps b2 a0
  have c1 := Bel.keeps b2 a1
  clear hs b2 a0 a1 hwA BA
  cases s
  · have HE : Hid (busyOf F = -1) := busyOf_eq (.inl ⟨fun h => (by have := HS.out.2 h; cases this), rfl⟩)
    go_wp2_with fail
    go_ret
    rw [HE.out]
    exact ⟨rfl, B2.out⟩
  · have hp : FnPlain F := HS.out.1 rfl
    have HP : Hid (FnPlain F) := hp
    obtain ⟨n', V, hv⟩ := plainV_of hp
    have en : n' = n := hv.len.symm.trans HN.out
    subst en
    have HPV : Hid (PlainV F n' V) := hv
    have h1 := hv.n1
    have h16 := hv.n16
    have hV8 := hv.v80
    clear hp hv
    go_wp2_with fail
    refine (l11In_any _ F n' V _ (HF.out.later B2.out) HPV.out).mono ?_
    rintro e w3 ⟨mg, mc, rfl, hm, b3⟩
    have HM : Hid (MatO w3 w2.heap.size mg n' V (liveL F)) := hm
    have B3 : Hid (Below w.heap.size w w3) := Bel.after B2.out b3
    have d0 := Bel.keeps b3 c0
    have d1 := Bel.keeps b3 c1
    have HF3 : Hid (FnAt w3 (.agg #[.slice ba n' bcap, .int .i64 vals]) F) := HF.out.later B3.out
    clear hm b3 c0 c1
    go_wp2_with fail
    go_loopw [4, 5] (fun mv i wr => ∃ (M k : Nat), k ≤ n' ∧ i = .int .i64 k ∧ mv = .int .i64 M ∧ Top F (ToBlock F k) M ∧ Below w3.heap.size w3 wr) (fun _ i _ => n' - (intOf i).toNat)
    case atStart => exact ⟨0, 0, Nat.zero_le _, rfl, rfl, top_none F, Below.refl _ _⟩
    case round =>
      obtain ⟨wq, hwq⟩ : ∃ x, x = wr := ⟨_, rfl⟩
      subst hwq
      obtain ⟨M, k, hk, rfl, rfl, htop, hbq⟩ := hrel
      have HT : Hid (Top F (ToBlock F k) M) := htop
      have BQ : Hid (Below w3.heap.size w3 wq) := hbq
      have f0 := Bel.keeps hbq d0
      have f1 := Bel.keeps hbq d1
      clear htop hbq
      by_cases hlt : (k : Int) < (n' : Int)
      · have hkn : k < n' := by omega
        have hcl : k < F.blocks.length := by rw [HN.out]; exact hkn
        obtain ⟨x, HX⟩ : ∃ x, Hid (F.blocks[k]? = some x) := ⟨F.blocks[k], List.getElem?_eq_getElem hcl⟩
        obtain ⟨bb, off, hba, pv, lv, t0, t1, t2, t3, t4, t5, hpv, hlv⟩ := FnAt.blockC HF3.out HN.out hkn HX.out
        subst hba
        obtain ⟨la, lcap, rfl, hlm, -⟩ := hlv
        obtain ⟨ln, HLN⟩ : ∃ z, Hid (x.list.length = z) := ⟨_, rfl⟩
        rw [HLN.out] at t1 hlm
        have hl24 : ln ≤ 24 := by rw [← HLN.out]; exact (HP.out.1.2.2.2.2 k x HX.out).2.1
        have HT1 : Hid (w3.cell? ⟨bb, off + k * 6 + 1, none⟩ = some (.slice la ln lcap)) := t1
        clear t0 t1 t2 t3 t4 t5 hpv hcl
        go_wp2_with fail
        go_loopw [4, 6] (fun mv i wr => ∃ (M j : Nat), j ≤ ln + 1 ∧ i = .int .i64 j ∧ mv = .int .i64 M ∧ Top F (ToPlace F k j) M ∧ Below w3.heap.size w3 wr) (fun _ i _ => ln + 1 - (intOf i).toNat)
        case atStart => exact ⟨M, 0, Nat.zero_le _, rfl, rfl, HT.out.congr (fun b j => ⟨fun h => .inl h, fun h => h.elim id (fun h => absurd h.2 (by omega))⟩), BQ.out⟩
        case round =>
          obtain ⟨wx, hwx⟩ : ∃ x, x = wr := ⟨_, rfl⟩
          subst hwx
          obtain ⟨M', j, hj, rfl, rfl, htop, hbx⟩ := hrel
          have HT2 : Hid (Top F (ToPlace F k j) M') := htop
          have BX : Hid (Below w3.heap.size w3 wx) := hbx
          have g0 := Bel.keeps hbx d0
          have g1 := Bel.keeps hbx d1
          have g2 := Bel.keeps hbx HT1.out
          clear htop hbx
          by_cases hlj : (j : Int) ≤ (ln : Int)
          · have hjl : j ≤ x.list.length := by have := HLN.out; omega
            go_wp2_with fail
            refine (l11Before_any _ F k n' V mg mc j (liveL F) wx (HF3.out.later BX.out) HN.out HPV.out.vals hV8 hkn (HPV.out.su k) (HM.out.keep BX.out).at x HX.out (HPV.out.ends k x HX.out) (HPV.out.uses k x HX.out) hjl).mono ?_
            rintro e w6 ⟨g6, cap6, rfl, ho6, b6⟩
            have B6 : Hid (Below w3.heap.size w3 w6) := Bel.after BX.out b6
            have O6 : Hid (OwnBools w6 wx.heap.size (.slice (some ⟨g6, 0, none⟩) V cap6) (bitsOf V (atS x (outF F (liveL F) k) j))) := ho6
            clear ho6 b6
            go_wp2_with fail
            refine (l11List_any _ V cap6 _ w6 O6.out.at hV8).mono ?_
            rintro e w7 ⟨r, rfl, hr, b7⟩
            have B7 : Hid (Below w3.heap.size w3 w7) := Bel.after B6.out b7
            rw [upL_eq (V := V) (l := atS x (outF F (liveL F) k) j) (atS_ok _ _ _).1 (atS_ok _ _ _).2 (HPV.out.atV HX.out (outV (F := F) (liveV HPV.out) k) j)] at hr
            obtain ⟨nk, HNK⟩ : ∃ z, Hid (lenAt F k j = z) := ⟨_, rfl⟩
            have hnk80 : nk ≤ 80 := by rw [← HNK.out]; exact lenAt_le F k j
            obtain ⟨na, nc, rfl⟩ : ∃ a c, r = .slice a nk c := by
              have e0 : (atS x (outF F (liveL F) k) j).length = nk := (lenAt_at HX.out j).symm.trans HNK.out
              rcases hr.shape with ⟨e, e2⟩ | ⟨g, cap, e⟩
              · exact ⟨none, 0, by rw [e, ← e0, e2]; rfl⟩
              · exact ⟨_, _, by rw [e, e0]⟩
            clear hr b7
            go_wp2_with fail
            refine (l1Max_val _ _ w7).mono ?_
            rintro e w8 ⟨rfl, rfl⟩
            rw [show max (M' : Int) (nk : Int) = ((max M' nk : Nat) : Int) by omega]
            have HT3 : Hid (Top F (ToPlace F k (j + 1)) (max M' nk)) := by
              rw [← HNK.out]
              exact HT2.out.add (fun b i => ⟨fun h => h.elim (fun h => .inl (.inl h)) (fun h => by
                by_cases e : i = j
                · exact .inr ⟨h.1, e⟩
                · exact .inl (.inr ⟨h.1, by omega⟩)), fun h => h.elim (fun h => h.elim .inl (fun h => .inr ⟨h.1, by omega⟩)) (fun h => .inr ⟨h.1, by omega⟩)⟩)
            go_wp2_with fail
            go_roundw
            case rel => exact ⟨max M' nk, j + 1, by omega, by simp, rfl, HT3.out, B7.out⟩
            case measure => simp [intOf]; omega
          · have ej : ln + 1 = j := by omega
            subst ej
            have HT3 : Hid (Top F (ToBlock F (k + 1)) M') := HT2.out.congr (fun b i => by
              have hpl : placesN F k = ln := (placesN_at HX.out).trans HLN.out
              unfold ToPlace ToBlock
              constructor
              · rintro (h | h)
                · exact ⟨by omega, h.2⟩
                · obtain ⟨rfl, h⟩ := h
                  exact ⟨by omega, by omega⟩
              · intro h
                by_cases e : b = k
                · subst e
                  exact .inr ⟨rfl, by omega⟩
                · exact .inl ⟨by omega, h.2⟩)
            go_wp2_with fail
            go_roundw
            case rel => exact ⟨M', k + 1, by omega, by simp, rfl, HT3.out, BX.out⟩
            case measure => simp [intOf]; omega
      · have ekn : n' = k := by omega
        subst ekn
        have HE : Hid (busyOf F = (M : Int)) := busyOf_eq (.inr ⟨HP.out, M, rfl, by rw [HN.out]; exact HT.out⟩)
        go_wp2_with fail
        go_ret
        rw [HE.out]
        exact ⟨rfl, B3.out.trans (BQ.out.mono B3.out.size)⟩
end Go.Proofs.YtldcohhifmpedaaGreat
