/- The model's LiveIn and LiveOut. -/
import Derived.Test.YtefnlmohminhbaaGreatLFaceK
namespace Go.Proofs.YtefnlmohminhbaaGreat
open Go.ChangeShapes Go.WideShapes Go.ChangeAt Go.RowKit Go.Shelf
set_option linter.unusedVariables false

theorem OwnInts.blockL {V : World} {lo : Nat} {sv : Value} {l : List Int} (h : OwnInts V lo sv l) {k : Nat} (hk : sv.ownBlock = some k) : lo ≤ k ∧ ∃ c, V.heap[k]? = some (.cells c 3 (0, 0)) := by
  rcases h.2 with ⟨h0, _⟩ | ⟨g9, c9, cur, hv, h2, h3, _⟩
  · rw [h0] at hk; simp [Value.ownBlock] at hk
  · rw [hv] at hk
    simp [Value.ownBlock] at hk
    subst hk
    exact ⟨h2, cur, h3⟩
theorem OwnInts.grownRow {W W' : World} {lo g : Nat} {sv : Value} {l : List Int} (h : OwnInts W lo sv l) (hg : W.grownBy W' (some g)) {cur : Array Value} {z : Nat × Nat} (hb : W.heap[g]? = some (.cells cur 30 z)) : OwnInts W' lo sv l := h.sameB (fun k hk => hg.block k (by obtain ⟨_, c, h9⟩ := h.blockL hk; exact (Array.getElem?_eq_some_iff.1 h9).1) (fun e => by
  cases e
  obtain ⟨_, c, h9⟩ := h.blockL hk
  rw [hb] at h9
  simp at h9))
/-- The lists while they are gathered. -/
def LsUp (w : World) (lo : Nat) (mv : Value) (k : Nat) (ls : Nat → List Int) : Prop := ∃ hs : List Value, w.ownsRow lo 30 1 mv k hs ∧ hs.length = k ∧ (∀ i, i < k → OwnInts w lo (hs.getD i (.slice none 0 0)) (ls i)) ∧ ∀ i j, i < k → j < k → i ≠ j → Apart (hs.getD i (.slice none 0 0)) (hs.getD j (.slice none 0 0))
theorem lsUp_next {wq wM wa : World} {lo g g' k cap cap' : Nat} {ls : Nat → List Int} {hs : List Value} {o : Obj} (hrow : wM.ownsRow lo 30 1 (.slice (some ⟨g, 0, none⟩) k cap) k hs) (hl : hs.length = k) (hall : ∀ i, i < k → OwnInts wq lo (hs.getD i (.slice none 0 0)) (ls i)) (hap : ∀ i j, i < k → j < k → i ≠ j → Apart (hs.getD i (.slice none 0 0)) (hs.getD j (.slice none 0 0)))
    {v : Value} (hb : Below wq.heap.size wq wM) (hlo : lo ≤ wq.heap.size) (hnew : OwnInts wM wq.heap.size v (ls k))
    (hown : wa.ownsRow lo 30 1 (.slice (some ⟨g', 0, none⟩) (k + 1) cap') (k + 1) (hs ++ [v])) (hg : (wM.alloc o).grownBy wa (Value.slice (some ⟨g, 0, none⟩) k cap).ownBlock) : LsUp wa lo (.slice (some ⟨g', 0, none⟩) (k + 1) cap') (k + 1) ls := by
  obtain ⟨cur, hcur⟩ : ∃ cur, wM.heap[g]? = some (.cells cur 30 (0, 0)) := by
    rcases hrow.2 with ⟨h0, _⟩ | ⟨g9, c9, cur, hv, _, h9, _⟩
    · cases h0
    · cases hv; exact ⟨cur, h9⟩
  have hcur2 : (wM.alloc o).heap[g]? = some (.cells cur 30 (0, 0)) := (Below.heap_alloc wM o g (Array.getElem?_eq_some_iff.1 hcur).1).trans hcur
  have hd1 : ∀ i, i < k → (hs ++ [v]).getD i (.slice none 0 0) = hs.getD i (.slice none 0 0) := fun i hi => by
    simp [List.getD, List.getElem?_append_left (by omega : i < hs.length)]
  have hd2 : (hs ++ [v]).getD k (.slice none 0 0) = v := by
    subst hl
    simp [List.getD]
  refine ⟨_, hown, by simp [hl], fun i hi => ?_, fun i j hi hj hne => ?_⟩
  · by_cases e : i = k
    · subst e
      rw [hd2]
      exact (((hnew.low hlo).keep (Bel.alloc wM o))).grownRow hg hcur2
    · rw [hd1 i (by omega)]
      exact (((hall i (by omega)).keep hb).keep (Bel.alloc wM o)).grownRow hg hcur2
  · by_cases e : i = k
    · subst e
      rw [hd2, hd1 j (by omega)]
      intro b h1 h2
      have := (hnew.blockL h1).1
      have := ((hall j (by omega)).lt b h2).2
      omega
    · by_cases e2 : j = k
      · subst e2
        rw [hd2, hd1 i (by omega)]
        intro b h1 h2
        have := (hnew.blockL h2).1
        have := ((hall i (by omega)).lt b h1).2
        omega
      · rw [hd1 i (by omega), hd1 j (by omega)]
        exact hap i j (by omega) (by omega) hne
theorem LsUp.lists {w : World} {lo g n cap : Nat} {ls : Nat → List Int} (h : LsUp w lo (.slice (some ⟨g, 0, none⟩) n cap) n ls) : OwnLists w lo (.slice (some ⟨g, 0, none⟩) n cap) ((List.range n).map ls) := by
  obtain ⟨hs, ⟨hl, ⟨h0, _⟩ | ⟨g', cap', cur, hv, hlo, hg, h1, h2, h3, h4⟩⟩, hk, hr, hap⟩ := h
  · cases h0
  · cases hv
    have hgd : ∀ i, i < n → cur.getD i (.slice none 0 0) = hs.getD i (.slice none 0 0) := fun i hi => by
      have hil : i < hs.length := by omega
      have e2 := congrArg (fun m => m[i]?) h4
      rw [List.getElem?_take, if_pos (by omega), List.getElem?_eq_getElem hil] at e2
      have e3 : cur[i]? = some hs[i] := by simpa using e2
      rw [Array.getD_eq_getD_getElem?, e3]
      simp [List.getD, List.getElem?_eq_getElem hil]
    refine ⟨g, cap, cur, by simp, ⟨hg, by simp; omega, hlo, fun i hi => ?_, fun i j hi hj hne => ?_⟩⟩
    · have hi' : i < n := by simpa using hi
      rw [hgd i hi']
      have e : ((List.range n).map ls).getD i [] = ls i := by simp [List.getD, hi']
      rw [e]
      exact hr i hi'
    · have hi' : i < n := by simpa using hi
      have hj' : j < n := by simpa using hj
      rw [hgd i hi', hgd j hj']
      exact hap i j hi' hj' hne
theorem cinfo_list : (Tryz.prog.info? 30).map (fun i => (i.zero, i.size, i.bytes)) = some (some (.slice none 0 0), 1, 24) := by kernel_rfl
theorem ownInts_form {w : World} {lo : Nat} {v : Value} {l : List Int} (h : OwnInts w lo v l) : ∃ a m c, v = .slice a m c := by
  rcases h.2 with ⟨h0, _⟩ | ⟨g9, c9, cur, hv, _⟩
  · exact ⟨_, _, _, h0⟩
  · exact ⟨_, _, _, hv⟩
theorem MatO.grownL {wM wa : World} {lo lo' g n V k cap g1 : Nat} {ls : Nat → List Int} {hs : List Value} {o : Obj} (h : MatO wM lo g n V ls) (hg : (wM.alloc o).grownBy wa (Value.slice (some ⟨g1, 0, none⟩) k cap).ownBlock) (hrow : wM.ownsRow lo' 30 1 (.slice (some ⟨g1, 0, none⟩) k cap) k hs) : MatO wa lo g n V ls := by
  obtain ⟨cur, hcur⟩ : ∃ cur, wM.heap[g1]? = some (.cells cur 30 (0, 0)) := by
    rcases hrow.2 with ⟨h0, _⟩ | ⟨g9, c9, cur, hv, _, h9, _⟩
    · cases h0
    · cases hv; exact ⟨cur, h9⟩
  have hsame : ∀ b, b < wM.heap.size → b ≠ g1 → wa.heap[b]? = wM.heap[b]? := fun b hb hne => (hg.block b (by simp; omega) (by simpa [Value.ownBlock] using hne)).trans (Below.heap_alloc wM o b hb)
  obtain ⟨hlow, c2, q1, q2, q3⟩ := h
  refine ⟨hlow, c2, (hsame g (Array.getElem?_eq_some_iff.1 q1).1 (fun e => by subst e; rw [hcur] at q1; simp at q1)).trans q1, q2, fun i hi => ?_⟩
  obtain ⟨g', cap', r1, r2⟩ := q3 i hi
  refine ⟨g', cap', r1, r2.sameB (fun b hb => ?_)⟩
  obtain ⟨_, c3, r3⟩ := r2.block hb
  exact hsame b (Array.getElem?_eq_some_iff.1 r3).1 (fun e => by subst e; rw [hcur] at r3; simp at r3)

set_option maxRecDepth 100000 in
set_option maxHeartbeats 8000000 in
theorem spec_liveIn (v : Value) (F : FnD) (w : World) (hF : FnAt w v F) :
    Calls Tryz.prog 13 #[v] w fun e w' => GivesLists w (liveInOf F) e w' := by
  have HF : Hid (FnAt w v F) := hF
  obtain ⟨n, HN⟩ : ∃ n, Hid (F.blocks.length = n) := ⟨_, rfl⟩
  obtain ⟨vals, HV⟩ : ∃ x, Hid (F.values = x) := ⟨_, rfl⟩
  obtain ⟨ba, bcap, rfl⟩ := hF.out HN.out HV.out
  obtain ⟨i0, hi, hz0, hz1, hz2⟩ := info_parts cinfo_list
  have hmx : 2000000 ≤ maxLen := by decide
  clear hF
  obtain ⟨wA, hwA⟩ : ∃ wA, w.alloc (.cells #[.slice ba n bcap, .int .i64 vals] 26) = wA := ⟨_, rfl⟩
  have BA : Hid (Below w.heap.size w wA) := by rw [← hwA]; exact Bel.alloc _ _
  have hsA : wA.heap.size = w.heap.size + 1 := by rw [← hwA]; simp
  have a0 : wA.cell? ⟨w.heap.size, 0, none⟩ = some (.slice ba n bcap) := by rw [← hwA]; simp [go_sem]
  have a1 : wA.cell? ⟨w.heap.size, 1, none⟩ = some (.int .i64 vals) := by rw [← hwA]; simp [go_sem]
  obtain ⟨wB, hwB⟩ : ∃ wB, wA.alloc (.cells #[] 30) = wB := ⟨_, rfl⟩
  have BB : Hid (Below wA.heap.size wA wB) := by rw [← hwB]; exact Bel.alloc _ _
  have hsB : wB.heap.size = w.heap.size + 2 := by rw [← hwB]; simp; omega
  have OB : Hid (OwnLists wB w.heap.size (.slice (some ⟨w.heap.size + 1, 0, none⟩) 0 0) []) := by
    rw [← hwB, ← hsA]
    exact ownLists_new rfl (by omega)
  have RB : Hid (wB.ownsRow (w.heap.size + 1) 30 1 (.slice (some ⟨w.heap.size + 1, 0, none⟩) 0 0) 0 []) := by
    have h9 : wB.ownsRow (w.heap.size + 1) 30 1 (.slice (some ⟨w.heap.size + 1, 0, none⟩) 0 0) 0 [] := by
      rw [← hwB, ← hsA]
      exact World.ownsRow_made wA #[] 0 (by omega) (by omega) rfl
    exact h9
  have b0 := Bel.keeps BB.out a0
  have b1 := Bel.keeps BB.out a1
  go_enter Tryz.func13, Tryz.ntmps13
  go_wp2_with fail
  refine (spec_plainOk _ F _ (HF.out.later (Bel.after BA.out BB.out))).mono ?_
  rintro e w2 ⟨s, rfl, hs, b2⟩
  have HS : Hid (s = true ↔ FnPlain F) := hs
  have B2 : Hid (Below wB.heap.size wB w2) := b2
  have hs2 : w.heap.size + 2 ≤ w2.heap.size := by have := b2.size; omega
  have c0 := Bel.keeps b2 b0
  have c1 := Bel.keeps b2 b1
  have hRow2 : w2.ownsRow (w.heap.size + 1) 30 1 (.slice (some ⟨w.heap.size + 1, 0, none⟩) 0 0) 0 [] := ownsRow_laterB RB.out b2
  have R2 : Hid (w2.ownsRow (w.heap.size + 1) 30 1 (.slice (some ⟨w.heap.size + 1, 0, none⟩) 0 0) 0 []) := hRow2
  clear hs b2 hRow2 a0 a1 b0 b1
  cases s
  · have HE : Hid (liveInOf F = []) := liveInOf_no (fun h => by have := HS.out.2 h; cases this)
    go_wp2_with fail
    go_ret
    rw [HE.out]
    exact ⟨_, rfl, OB.out.keep B2.out, Bel.after (Bel.after BA.out BB.out) B2.out⟩
  · have hp : FnPlain F := HS.out.1 rfl
    have HP : Hid (FnPlain F) := hp
    obtain ⟨n', V, hv⟩ := plainV_of hp
    have en : n' = n := hv.len.symm.trans HN.out
    subst en
    have HPV : Hid (PlainV F n' V) := hv
    have h1 := hv.n1
    have h16 := hv.n16
    have hV8 := hv.v80
    clear hp hv
    have hF2 : FnAt w2 (.agg #[.slice ba n' bcap, .int .i64 vals]) F := HF.out.later (Bel.after (Bel.after BA.out BB.out) B2.out)
    have HF2 : Hid (FnAt w2 (.agg #[.slice ba n' bcap, .int .i64 vals]) F) := hF2
    clear hF2
    go_wp2_with fail
    refine (l11In_any _ F n' V _ HF2.out HPV.out).mono ?_
    rintro e w3 ⟨mg, mc, rfl, hm, b3⟩
    have HM : Hid (MatO w3 w2.heap.size mg n' V (liveL F)) := hm
    have B3 : Hid (Below w2.heap.size w2 w3) := b3
    have hs3 : w.heap.size + 2 ≤ w3.heap.size := by have := b3.size; omega
    have hmg : w.heap.size + 2 ≤ mg := by have := hm.low; omega
    have d0 := Bel.keeps b3 c0
    have d1 := Bel.keeps b3 c1
    have HROW3 : Hid (w3.ownsRow (w.heap.size + 1) 30 1 (.slice (some ⟨w.heap.size + 1, 0, none⟩) 0 0) 0 []) := ownsRow_laterB R2.out b3
    have HF3 : Hid (FnAt w3 (.agg #[.slice ba n' bcap, .int .i64 vals]) F) := HF2.out.later b3
    clear hm b3 c0 c1
    go_wp2_with fail
    go_loopw [3, 5] (fun mv i wr => ∃ (k g cap : Nat), k ≤ n' ∧ i = .int .i64 k ∧ mv = .slice (some ⟨g, 0, none⟩) k cap ∧ LsUp wr (w.heap.size + 1) (.slice (some ⟨g, 0, none⟩) k cap) k (liveL F) ∧ Below (w.heap.size + 1) w3 wr ∧ MatO wr w2.heap.size mg n' V (liveL F)) (fun _ i _ => n' - (intOf i).toNat)
    case atStart => exact ⟨0, w.heap.size + 1, 0, Nat.zero_le _, rfl, rfl, ⟨[], HROW3.out, rfl, fun i hi => absurd hi (by omega), fun i j hi => absurd hi (by omega)⟩, Below.refl _ _, HM.out⟩
    case round =>
      obtain ⟨wq, hwq⟩ : ∃ x, x = wr := ⟨_, rfl⟩
      subst hwq
      obtain ⟨k, g, cap, hk, rfl, rfl, hup, hbq, hmq⟩ := hrel
      have UP : Hid (LsUp wq (w.heap.size + 1) (.slice (some ⟨g, 0, none⟩) k cap) k (liveL F)) := hup
      have BQ : Hid (Below (w.heap.size + 1) w3 wq) := hbq
      have MQ : Hid (MatO wq w2.heap.size mg n' V (liveL F)) := hmq
      have f0 : wq.cell? ⟨w.heap.size, 0, none⟩ = some (.slice ba n' bcap) := (hbq.cell (p := ⟨w.heap.size, 0, none⟩) (by simp)).trans d0
      have f1 : wq.cell? ⟨w.heap.size, 1, none⟩ = some (.int .i64 vals) := (hbq.cell (p := ⟨w.heap.size, 1, none⟩) (by simp)).trans d1
      have hsq := hbq.size
      clear hup hbq hmq
      by_cases hlt : (k : Int) < (n' : Int)
      · have hkn : k < n' := by omega
        obtain ⟨ua, uc, q1, q2⟩ := MQ.out.at k hkn
        have HQ : Hid (BoolsAt wq (.slice ua V uc) (bitsOf V (liveL F k))) := q2
        clear q2
        go_wp2_with fail
        refine (l11List_any ua V uc _ wq HQ.out hV8).mono ?_
        rintro e wM ⟨r, rfl, hr, hbM⟩
        obtain ⟨ra, rl, rc, rfl⟩ := ownInts_form hr
        rw [upL_eq (liveL_asc F k) (fun z hz => ((liveL_mem F k z).1 hz).2) (liveV HPV.out k)] at hr
        have OM : Hid (OwnInts wM wq.heap.size (.slice ra rl rc) (liveL F k)) := hr
        have BM : Hid (Below wq.heap.size wq wM) := hbM
        clear hr hbM
        obtain ⟨hs, hrow, hl, hall, hap⟩ := UP.out
        have HROW : Hid (wM.ownsRow (w.heap.size + 1) 30 1 (.slice (some ⟨g, 0, none⟩) k cap) k hs) := ownsRow_laterB hrow BM.out
        have HALL : Hid (∀ i, i < k → OwnInts wq (w.heap.size + 1) (hs.getD i (.slice none 0 0)) ((liveL F) i)) := hall
        have HAP : Hid (∀ i j, i < k → j < k → i ≠ j → Apart (hs.getD i (.slice none 0 0)) (hs.getD j (.slice none 0 0))) := hap
        have HHL : Hid (hs.length = k) := hl
        have hsM := BM.out.size
        clear hrow hall hap hl
        go_wp2_with (at_builtin; refine wpList_append_own _ rfl _ _ 28 rfl (w.heap.size + 1) 30 i0 (.slice none 0 0) 1 24 Tryz.underlying28 hi hz0 hz1 hz2 rfl (by decide) (.slice (some ⟨g, 0, none⟩) k cap) k hs rfl (World.ownsRow.alloc HROW.out _) ⟨wM.heap.size, 0, none⟩ 1 1 [.slice ra rl rc] (by simp [Act.eval]) rfl (by have := cell_one_new wM (.slice ra rl rc) 30; simpa using this) (by simp [Value.oneCell']) (by omega) (by omega) (by simp; omega) ?_; intro v' wa hown' hgrow _; obtain ⟨g', cap', rfl⟩ := ownsRow_succ hown')
        have UA : Hid (LsUp wa (w.heap.size + 1) (.slice (some ⟨g', 0, none⟩) (k + 1) cap') (k + 1) (liveL F)) := lsUp_next HROW.out HHL.out HALL.out HAP.out BM.out (by omega) OM.out hown' hgrow
        have BWA : Hid (Below (w.heap.size + 1) wM wa) := (((Below.refl (w.heap.size + 1) wM).alloc (by omega) _).grown hgrow (by simp; omega) (fun j ej => by have := (World.ownsRow.lt HROW.out j ej).1; omega))
        have MA : Hid (MatO wa w2.heap.size mg n' V (liveL F)) := (MQ.out.keep BM.out).grownL hgrow HROW.out
        have BQA : Hid (Below (w.heap.size + 1) w3 wa) := BQ.out.trans ((BM.out.mono (by omega)).trans BWA.out)
        go_roundw
        case rel => exact ⟨k + 1, g', cap', by omega, by simp, rfl, UA.out, BQA.out, MA.out⟩
        case measure => simp [intOf]; omega
      · have ekn : n' = k := by omega
        subst ekn
        go_wp2_with fail
        go_ret
        rw [liveInOf_yes HP.out, HN.out]
        obtain ⟨g9, cap9, us9, e9, r9⟩ := UP.out.lists
        exact ⟨_, rfl, ⟨g9, cap9, us9, e9, r9.lower (by omega)⟩, (Bel.after (Bel.after (Bel.after BA.out BB.out) B2.out) B3.out).trans (BQ.out.mono (by omega))⟩

set_option maxRecDepth 100000 in
set_option maxHeartbeats 8000000 in
theorem spec_liveOut (v : Value) (F : FnD) (w : World) (hF : FnAt w v F) :
    Calls Tryz.prog 35 #[v] w fun e w' => GivesLists w (liveOutOf F) e w' := by
  have HF : Hid (FnAt w v F) := hF
  obtain ⟨n, HN⟩ : ∃ n, Hid (F.blocks.length = n) := ⟨_, rfl⟩
  obtain ⟨vals, HV⟩ : ∃ x, Hid (F.values = x) := ⟨_, rfl⟩
  obtain ⟨ba, bcap, rfl⟩ := hF.out HN.out HV.out
  obtain ⟨i0, hi, hz0, hz1, hz2⟩ := info_parts cinfo_list
  have hmx : 2000000 ≤ maxLen := by decide
  clear hF
  obtain ⟨wA, hwA⟩ : ∃ wA, w.alloc (.cells #[.slice ba n bcap, .int .i64 vals] 26) = wA := ⟨_, rfl⟩
  have BA : Hid (Below w.heap.size w wA) := by rw [← hwA]; exact Bel.alloc _ _
  have hsA : wA.heap.size = w.heap.size + 1 := by rw [← hwA]; simp
  have a0 : wA.cell? ⟨w.heap.size, 0, none⟩ = some (.slice ba n bcap) := by rw [← hwA]; simp [go_sem]
  have a1 : wA.cell? ⟨w.heap.size, 1, none⟩ = some (.int .i64 vals) := by rw [← hwA]; simp [go_sem]
  obtain ⟨wB, hwB⟩ : ∃ wB, wA.alloc (.cells #[] 30) = wB := ⟨_, rfl⟩
  have BB : Hid (Below wA.heap.size wA wB) := by rw [← hwB]; exact Bel.alloc _ _
  have hsB : wB.heap.size = w.heap.size + 2 := by rw [← hwB]; simp; omega
  have OB : Hid (OwnLists wB w.heap.size (.slice (some ⟨w.heap.size + 1, 0, none⟩) 0 0) []) := by
    rw [← hwB, ← hsA]
    exact ownLists_new rfl (by omega)
  have RB : Hid (wB.ownsRow (w.heap.size + 1) 30 1 (.slice (some ⟨w.heap.size + 1, 0, none⟩) 0 0) 0 []) := by
    have h9 : wB.ownsRow (w.heap.size + 1) 30 1 (.slice (some ⟨w.heap.size + 1, 0, none⟩) 0 0) 0 [] := by
      rw [← hwB, ← hsA]
      exact World.ownsRow_made wA #[] 0 (by omega) (by omega) rfl
    exact h9
  have b0 := Bel.keeps BB.out a0
  have b1 := Bel.keeps BB.out a1
  go_enter Tryz.func35, Tryz.ntmps35
  go_wp2_with fail
  refine (spec_plainOk _ F _ (HF.out.later (Bel.after BA.out BB.out))).mono ?_
  rintro e w2 ⟨s, rfl, hs, b2⟩
  have HS : Hid (s = true ↔ FnPlain F) := hs
  have B2 : Hid (Below wB.heap.size wB w2) := b2
  have hs2 : w.heap.size + 2 ≤ w2.heap.size := by have := b2.size; omega
  have c0 := Bel.keeps b2 b0
  have c1 := Bel.keeps b2 b1
  have hRow2 : w2.ownsRow (w.heap.size + 1) 30 1 (.slice (some ⟨w.heap.size + 1, 0, none⟩) 0 0) 0 [] := ownsRow_laterB RB.out b2
  have R2 : Hid (w2.ownsRow (w.heap.size + 1) 30 1 (.slice (some ⟨w.heap.size + 1, 0, none⟩) 0 0) 0 []) := hRow2
  clear hs b2 hRow2 a0 a1 b0 b1
  cases s
  · have HE : Hid (liveOutOf F = []) := liveOutOf_no (fun h => by have := HS.out.2 h; cases this)
    go_wp2_with fail
    go_ret
    rw [HE.out]
    exact ⟨_, rfl, OB.out.keep B2.out, Bel.after (Bel.after BA.out BB.out) B2.out⟩
  · have hp : FnPlain F := HS.out.1 rfl
    have HP : Hid (FnPlain F) := hp
    obtain ⟨n', V, hv⟩ := plainV_of hp
    have en : n' = n := hv.len.symm.trans HN.out
    subst en
    have HPV : Hid (PlainV F n' V) := hv
    have h1 := hv.n1
    have h16 := hv.n16
    have hV8 := hv.v80
    clear hp hv
    have hF2 : FnAt w2 (.agg #[.slice ba n' bcap, .int .i64 vals]) F := HF.out.later (Bel.after (Bel.after BA.out BB.out) B2.out)
    have HF2 : Hid (FnAt w2 (.agg #[.slice ba n' bcap, .int .i64 vals]) F) := hF2
    clear hF2
    go_wp2_with fail
    refine (l11In_any _ F n' V _ HF2.out HPV.out).mono ?_
    rintro e w3 ⟨mg, mc, rfl, hm, b3⟩
    have HM : Hid (MatO w3 w2.heap.size mg n' V (liveL F)) := hm
    have B3 : Hid (Below w2.heap.size w2 w3) := b3
    have hs3 : w.heap.size + 2 ≤ w3.heap.size := by have := b3.size; omega
    have hmg : w.heap.size + 2 ≤ mg := by have := hm.low; omega
    have d0 := Bel.keeps b3 c0
    have d1 := Bel.keeps b3 c1
    have HROW3 : Hid (w3.ownsRow (w.heap.size + 1) 30 1 (.slice (some ⟨w.heap.size + 1, 0, none⟩) 0 0) 0 []) := ownsRow_laterB R2.out b3
    have HF3 : Hid (FnAt w3 (.agg #[.slice ba n' bcap, .int .i64 vals]) F) := HF2.out.later b3
    clear hm b3 c0 c1
    go_wp2_with fail
    go_loopw [3, 5] (fun mv i wr => ∃ (k g cap : Nat), k ≤ n' ∧ i = .int .i64 k ∧ mv = .slice (some ⟨g, 0, none⟩) k cap ∧ LsUp wr (w.heap.size + 1) (.slice (some ⟨g, 0, none⟩) k cap) k (outF F (liveL F)) ∧ Below (w.heap.size + 1) w3 wr ∧ MatO wr w2.heap.size mg n' V (liveL F)) (fun _ i _ => n' - (intOf i).toNat)
    case atStart => exact ⟨0, w.heap.size + 1, 0, Nat.zero_le _, rfl, rfl, ⟨[], HROW3.out, rfl, fun i hi => absurd hi (by omega), fun i j hi => absurd hi (by omega)⟩, Below.refl _ _, HM.out⟩
    case round =>
      obtain ⟨wq, hwq⟩ : ∃ x, x = wr := ⟨_, rfl⟩
      subst hwq
      obtain ⟨k, g, cap, hk, rfl, rfl, hup, hbq, hmq⟩ := hrel
      have UP : Hid (LsUp wq (w.heap.size + 1) (.slice (some ⟨g, 0, none⟩) k cap) k (outF F (liveL F))) := hup
      have BQ : Hid (Below (w.heap.size + 1) w3 wq) := hbq
      have MQ : Hid (MatO wq w2.heap.size mg n' V (liveL F)) := hmq
      have f0 : wq.cell? ⟨w.heap.size, 0, none⟩ = some (.slice ba n' bcap) := (hbq.cell (p := ⟨w.heap.size, 0, none⟩) (by simp)).trans d0
      have f1 : wq.cell? ⟨w.heap.size, 1, none⟩ = some (.int .i64 vals) := (hbq.cell (p := ⟨w.heap.size, 1, none⟩) (by simp)).trans d1
      have hsq := hbq.size
      clear hup hbq hmq
      by_cases hlt : (k : Int) < (n' : Int)
      · have hkn : k < n' := by omega
        have HFQ : Hid (FnAt wq (.agg #[.slice ba n' bcap, .int .i64 vals]) F) := HF.out.later ((Bel.after (Bel.after (Bel.after BA.out BB.out) B2.out) B3.out).trans (BQ.out.mono (by omega)))
        go_wp2_with fail
        refine (l11Out_any _ F k n' V mg mc _ wq HFQ.out HN.out HPV.out.vals hV8 hkn (HPV.out.su k) MQ.out.at).mono ?_
        rintro e wN ⟨gN, cN, rfl, hoN, hbN⟩
        have ON : Hid (OwnBools wN wq.heap.size (.slice (some ⟨gN, 0, none⟩) V cN) (bitsOf V (outF F (liveL F) k))) := hoN
        have BN : Hid (Below wq.heap.size wq wN) := hbN
        clear hoN hbN
        go_wp2_with fail
        refine (l11List_any _ V cN _ wN ON.out.at hV8).mono ?_
        rintro e wM ⟨r, rfl, hr, hbM⟩
        obtain ⟨ra, rl, rc, rfl⟩ := ownInts_form hr
        rw [upL_eq (V := V) (l := outF F (liveL F) k) (norm_asc _) (norm_in _) (outV (F := F) (liveV HPV.out) k)] at hr
        have OM : Hid (OwnInts wM wq.heap.size (.slice ra rl rc) (outF F (liveL F) k)) := hr.low BN.out.size
        have BM : Hid (Below wq.heap.size wq wM) := Bel.after BN.out hbM
        clear hr hbM
        obtain ⟨hs, hrow, hl, hall, hap⟩ := UP.out
        have HROW : Hid (wM.ownsRow (w.heap.size + 1) 30 1 (.slice (some ⟨g, 0, none⟩) k cap) k hs) := ownsRow_laterB hrow BM.out
        have HALL : Hid (∀ i, i < k → OwnInts wq (w.heap.size + 1) (hs.getD i (.slice none 0 0)) ((outF F (liveL F)) i)) := hall
        have HAP : Hid (∀ i j, i < k → j < k → i ≠ j → Apart (hs.getD i (.slice none 0 0)) (hs.getD j (.slice none 0 0))) := hap
        have HHL : Hid (hs.length = k) := hl
        have hsM := BM.out.size
        clear hrow hall hap hl
        go_wp2_with (at_builtin; refine wpList_append_own _ rfl _ _ 28 rfl (w.heap.size + 1) 30 i0 (.slice none 0 0) 1 24 Tryz.underlying28 hi hz0 hz1 hz2 rfl (by decide) (.slice (some ⟨g, 0, none⟩) k cap) k hs rfl (World.ownsRow.alloc HROW.out _) ⟨wM.heap.size, 0, none⟩ 1 1 [.slice ra rl rc] (by simp [Act.eval]) rfl (by have := cell_one_new wM (.slice ra rl rc) 30; simpa using this) (by simp [Value.oneCell']) (by omega) (by omega) (by simp; omega) ?_; intro v' wa hown' hgrow _; obtain ⟨g', cap', rfl⟩ := ownsRow_succ hown')
        have UA : Hid (LsUp wa (w.heap.size + 1) (.slice (some ⟨g', 0, none⟩) (k + 1) cap') (k + 1) (outF F (liveL F))) := lsUp_next HROW.out HHL.out HALL.out HAP.out BM.out (by omega) OM.out hown' hgrow
        have BWA : Hid (Below (w.heap.size + 1) wM wa) := (((Below.refl (w.heap.size + 1) wM).alloc (by omega) _).grown hgrow (by simp; omega) (fun j ej => by have := (World.ownsRow.lt HROW.out j ej).1; omega))
        have MA : Hid (MatO wa w2.heap.size mg n' V (liveL F)) := (MQ.out.keep BM.out).grownL hgrow HROW.out
        have BQA : Hid (Below (w.heap.size + 1) w3 wa) := BQ.out.trans ((BM.out.mono (by omega)).trans BWA.out)
        go_roundw
        case rel => exact ⟨k + 1, g', cap', by omega, by simp, rfl, UA.out, BQA.out, MA.out⟩
        case measure => simp [intOf]; omega
      · have ekn : n' = k := by omega
        subst ekn
        go_wp2_with fail
        go_ret
        rw [liveOutOf_yes HP.out, HN.out]
        obtain ⟨g9, cap9, us9, e9, r9⟩ := UP.out.lists
        exact ⟨_, rfl, ⟨g9, cap9, us9, e9, r9.lower (by omega)⟩, (Bel.after (Bel.after (Bel.after BA.out BB.out) B2.out) B3.out).trans (BQ.out.mono (by omega))⟩
end Go.Proofs.YtefnlmohminhbaaGreat
