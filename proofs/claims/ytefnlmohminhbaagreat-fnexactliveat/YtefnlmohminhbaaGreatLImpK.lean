/- The program's LiveIn and LiveOut. -/
import Derived.Test.YtefnlmohminhbaaGreatLFaceK
namespace Go.Proofs.YtefnlmohminhbaaGreat
open Go.ChangeShapes Go.WideShapes Go.ChangeAt Go.RowKit Go.Shelf
set_option linter.unusedVariables false

/-- Sets in a row, of which each has its list. -/
structure SetRow (w : World) (lo g n : Nat) (us : Array Value) (ls : Nat → List Int) : Prop where
  box : w.heap[g]? = some (.cells us 82 (0, 0))
  size : us.size = n
  row : ∀ i, i < n → OwnInts w lo (us.getD i (.slice none 0 0)) (ls i)
  apart : ∀ i j, i < n → j < n → i ≠ j → Apart (us.getD i (.slice none 0 0)) (us.getD j (.slice none 0 0))
theorem NeedsAt.setsI {w : World} {lo gI gO n : Nat} {us vs : Array Value} {ins outs : Nat → List Int} (h : NeedsAt w lo gI gO n us vs ins outs) : SetRow w lo gI n us ins :=
  ⟨h.boxI, h.sizeI, h.rowI, fun i j hi hj hne k hk => h.apart true true i j hi hj (by simpa using hne) k hk⟩
theorem NeedsAt.setsO {w : World} {lo gI gO n : Nat} {us vs : Array Value} {ins outs : Nat → List Int} (h : NeedsAt w lo gI gO n us vs ins outs) : SetRow w lo gO n vs outs :=
  ⟨h.boxO, h.sizeO, h.rowO, fun i j hi hj hne k hk => h.apart false false i j hi hj (by simpa using hne) k hk⟩
theorem SetRow.cell {w : World} {lo g n : Nat} {us : Array Value} {ls : Nat → List Int} (h : SetRow w lo g n us ls) {i : Nat} (hi : i < n) : w.cell? ⟨g, i, none⟩ = some (us.getD i (.slice none 0 0)) := by
  have : i < us.size := by rw [h.size]; exact hi
  simp [World.cell?, h.box, this]
theorem OwnInts.form {w : World} {lo : Nat} {v : Value} {l : List Int} (h : OwnInts w lo v l) : ∃ a m c, v = .slice a m c := by
  rcases h.2 with ⟨h0, _⟩ | ⟨g9, c9, cur, hv, _⟩
  · exact ⟨_, _, _, h0⟩
  · exact ⟨_, _, _, hv⟩
/-- The headers up to k are copied. -/
def HdsAt (w : World) (g n : Nat) (us : Array Value) (k : Nat) : Prop := ∃ vs : Array Value, w.heap[g]? = some (.cells vs 30 (0, 0)) ∧ vs.size = n ∧ ∀ i, i < k → vs.getD i (.slice none 0 0) = us.getD i (.slice none 0 0)
theorem HdsAt.cell {w : World} {g n k : Nat} {us : Array Value} (h : HdsAt w g n us k) {i : Nat} (hi : i < n) : (∃ u, w.cell? ⟨g, i, none⟩ = some u) ∧ w.frozen? ⟨g, i, none⟩ = false := by
  obtain ⟨vs, h1, h2, _⟩ := h
  have : i < vs.size := by omega
  exact ⟨⟨vs[i], by simp [World.cell?, h1, this]⟩, by simp [World.frozen?, h1]⟩
theorem HdsAt.lt {w : World} {g n k : Nat} {us : Array Value} (h : HdsAt w g n us k) : g < w.heap.size := by
  obtain ⟨vs, h1, _⟩ := h
  exact (Array.getElem?_eq_some_iff.1 h1).1
theorem HdsAt.keep {w w' : World} {g n k : Nat} {us : Array Value} (h : HdsAt w g n us k) (hb : Below w.heap.size w w') : HdsAt w' g n us k := by
  obtain ⟨vs, h1, h2, h3⟩ := h
  exact ⟨vs, (hb.block g (Array.getElem?_eq_some_iff.1 h1).1).trans h1, h2, h3⟩
theorem HdsAt.put {w : World} {g n k : Nat} {us : Array Value} (h : HdsAt w g n us k) (hk : k < n) {v : Value} (hv : us.getD k (.slice none 0 0) = v) : HdsAt (w.setCell ⟨g, k, none⟩ v) g n us (k + 1) := by
  obtain ⟨vs, h1, h2, h3⟩ := h
  refine ⟨vs.setIfInBounds k v, ?_, by simpa using h2, fun i hi => ?_⟩
  · obtain ⟨hlt, hk⟩ := Array.getElem?_eq_some_iff.1 h1
    show (w.heap.modify g _)[g]? = _
    rw [Array.getElem?_eq_getElem (by rw [Array.size_modify]; exact hlt), Array.getElem_modify_self, hk]
    rfl
  · have e := @getD_put2 vs k i v (by omega)
    unfold nilV at e
    rw [e]
    by_cases e2 : i = k
    · subst e2; rw [if_pos rfl, hv]
    · rw [if_neg e2]; exact h3 i (by omega)
theorem HdsAt.rows {w0 w : World} {lo g gX n : Nat} {us : Array Value} {ls : Nat → List Int} (h : HdsAt w g n us n) (hs : SetRow w0 lo gX n us ls) (hb : Below w0.heap.size w0 w) (hl : lo ≤ g) : ∃ vs, OwnRows w lo g n vs ls := by
  obtain ⟨vs, h1, h2, h3⟩ := h
  refine ⟨vs, h1, by omega, hl, fun i hi => ?_, fun i j hi hj hne => ?_⟩
  · rw [h3 i hi]; exact (hs.row i hi).keep hb
  · rw [h3 i hi, h3 j hj]; exact hs.apart i j hi hj hne
theorem run_needs0 (u v : Value) (w : World) : (Instr.field 68 (.agg #[u, v]) 0).run Tryz.prog w = .ok u w := by kernel_rfl
theorem run_needs1 (u v : Value) (w : World) : (Instr.field 68 (.agg #[u, v]) 1).run Tryz.prog w = .ok v w := by kernel_rfl
def GivesHds (w : World) (lo n : Nat) (ls : Nat → List Int) (e : Ending) (w' : World) : Prop := ∃ g vs, e = .returned (.slice (some ⟨g, 0, none⟩) n n) ∧ OwnRows w' lo g n vs ls ∧ Below w.heap.size w w'

set_option maxRecDepth 100000 in
set_option maxHeartbeats 4000000 in
theorem listsOf_any (gX lo n : Nat) (us : Array Value) (ls : Nat → List Int) (w : World) (hs : SetRow w lo gX n us ls) (hlo : lo ≤ w.heap.size) (hn : n ≤ 16) :
    Calls Tryz.prog 41 #[.slice (some ⟨gX, 0, none⟩) n n] w fun e w' => GivesHds w lo n ls e w' := by
  have HS : Hid (SetRow w lo gX n us ls) := hs
  have hgX : gX < w.heap.size := (Array.getElem?_eq_some_iff.1 hs.box).1
  clear hs
  have hmr := make_rows n (by omega) w
  obtain ⟨wA, hwA⟩ : ∃ wA, w.alloc (.cells (madeCells #[.slice none 0 0] n) 30) = wA := ⟨_, rfl⟩
  rw [hwA] at hmr
  have BA : Hid (Below w.heap.size w wA) := by rw [← hwA]; exact Bel.alloc _ _
  have DA : Hid (HdsAt wA w.heap.size n us 0) := by
    have h9 := (ownRows_new (w := w) (n := n) rfl (Nat.le_refl _)).box
    rw [hwA] at h9
    exact ⟨_, h9, made_size n, fun i hi => absurd hi (by omega)⟩
  clear hwA
  go_enter Tryz.func41, Tryz.ntmps41
  go_wp2_with fail
  go_loopw [11] (fun i wr => ∃ (k : Nat), k ≤ n ∧ i = .int .i64 k ∧ HdsAt wr w.heap.size n us k ∧ Below w.heap.size w wr) (fun i _ => n - (intOf i).toNat)
  case atStart => exact ⟨0, Nat.zero_le _, rfl, DA.out, BA.out⟩
  case round =>
    obtain ⟨wq, hwq⟩ : ∃ x, x = wr := ⟨_, rfl⟩
    subst hwq
    obtain ⟨k, hk, rfl, hd, hb⟩ := hrel
    have HD : Hid (HdsAt wq w.heap.size n us k) := hd
    have HB : Hid (Below w.heap.size w wq) := hb
    have hlq := hd.lt
    clear hd hb
    by_cases hlt : (k : Int) < (n : Int)
    · have hkn : k < n := by omega
      obtain ⟨ua, ul, uc, hu⟩ := (HS.out.row k hkn).form
      have HU : Hid (us.getD k (.slice none 0 0) = .slice ua ul uc) := hu
      clear hu
      have q0 : wq.cell? ⟨gX, k, none⟩ = some (.slice ua ul uc) := by rw [← HU.out]; exact Bel.keeps HB.out (HS.out.cell hkn)
      obtain ⟨wC, hwC⟩ : ∃ wC, wq.alloc (.cells #[.slice ua ul uc] 82) = wC := ⟨_, rfl⟩
      have DC : Hid (HdsAt wC w.heap.size n us k) := by rw [← hwC]; exact HD.out.keep (Bel.alloc _ _)
      have BC : Hid (Below w.heap.size w wC) := by rw [← hwC]; exact Bel.after HB.out (Bel.alloc _ _)
      obtain ⟨⟨uo, q1⟩, q2⟩ := DC.out.cell hkn
      have q3 : wC.cell? ⟨wq.heap.size, 0, none⟩ = some (.slice ua ul uc) := by rw [← hwC]; simp [go_sem]
      go_wp2_with fail
      go_roundw
      case rel => exact ⟨k + 1, by omega, by simp, DC.out.put hkn HU.out, BC.out.setCell (p := ⟨w.heap.size, k, none⟩) (Nat.le_refl _) _⟩
      case measure => simp [intOf]; omega
    · have ekn : n = k := by omega
      subst ekn
      go_wp2_with fail
      go_ret
      obtain ⟨vs, hr⟩ := HD.out.rows HS.out HB.out hlo
      exact ⟨w.heap.size, vs, rfl, hr, HB.out⟩

set_option maxRecDepth 100000 in
set_option maxHeartbeats 4000000 in
theorem impl_liveIn (v : Value) (F : FnD) (w : World) (hF : FnAt w v F) :
    Calls Tryz.prog 11 #[v] w fun e w' => GivesLists w (liveInOf F) e w' := by
  have HF : Hid (FnAt w v F) := hF
  obtain ⟨n, HN⟩ : ∃ n, Hid (F.blocks.length = n) := ⟨_, rfl⟩
  obtain ⟨vals, HV⟩ : ∃ x, Hid (F.values = x) := ⟨_, rfl⟩
  obtain ⟨ba, bcap, rfl⟩ := hF.out HN.out HV.out
  clear hF
  go_enter Tryz.func11, Tryz.ntmps11
  go_wp2_with fail
  obtain ⟨wA, hwA⟩ : ∃ wA, w.alloc (.cells #[.slice ba n bcap, .int .i64 vals] 26) = wA := ⟨_, rfl⟩
  have BA : Hid (Below w.heap.size w wA) := by rw [← hwA]; exact Bel.alloc _ _
  have a0 : wA.cell? ⟨w.heap.size, 0, none⟩ = some (.slice ba n bcap) := by rw [← hwA]; simp [go_sem]
  have a1 : wA.cell? ⟨w.heap.size, 1, none⟩ = some (.int .i64 vals) := by rw [← hwA]; simp [go_sem]
  rw [hwA]
  clear hwA
  refine (impl_plainOk _ F _ (HF.out.later BA.out)).mono ?_
  rintro e w2 ⟨s, rfl, hs, b2⟩
  have HS : Hid (s = true ↔ FnPlain F) := hs
  have B2 : Hid (Below w.heap.size w w2) := Bel.after BA.out b2
  have c0 := Bel.keeps b2 a0
  have c1 := Bel.keeps b2 a1
  clear hs b2 a0 a1
  cases s
  · have HE : Hid (liveInOf F = []) := liveInOf_no (fun h => by have := HS.out.2 h; cases this)
    go_wp2_with fail
    go_ret
    rw [HE.out]
    exact ⟨_, rfl, ownLists_new rfl B2.out.size, B2.out.trans (Bel.alloc' _ _ B2.out.size)⟩
  · have hp : FnPlain F := HS.out.1 rfl
    have HP : Hid (FnPlain F) := hp
    obtain ⟨n', V', hv⟩ := plainV_of hp
    have en : n' = n := hv.len.symm.trans HN.out
    subst en
    have HPV : Hid (PlainV F n' V') := hv
    have h1 := hv.n1
    have h16 := hv.n16
    clear hp hv
    go_wp2_with fail
    refine (needsOf_any _ F _ (HF.out.later B2.out) n' HN.out h1 h16 HPV.out.takes HPV.out.su).mono ?_
    rintro e w3 ⟨gI, gO, us, vs, rfl, hne, b3⟩
    have HNE : Hid (NeedsAt w3 w2.heap.size gI gO n' us vs (liveL F) (outF F (liveL F))) := hne
    have B3 : Hid (Below w2.heap.size w2 w3) := b3
    clear hne b3
    have hf0 := run_needs0 (.slice (some ⟨gI, 0, none⟩) n' n') (.slice (some ⟨gO, 0, none⟩) n' n') w3
    have hf1 := run_needs1 (.slice (some ⟨gI, 0, none⟩) n' n') (.slice (some ⟨gO, 0, none⟩) n' n') w3
    go_wp2_with fail
    refine (listsOf_any _ w2.heap.size n' _ _ w3 HNE.out.setsI B3.out.size h16).mono ?_
    rintro e w4 ⟨g, xs, rfl, hr, b4⟩
    have HR : Hid (OwnRows w4 w2.heap.size g n' xs _) := hr
    have B4 : Hid (Below w3.heap.size w3 w4) := b4
    clear hr b4
    go_wp2_with fail
    go_ret
    rw [liveInOf_yes HP.out, HN.out]
    exact ⟨_, rfl, ownLists_rows (HR.out.lower B2.out.size), Bel.after (Bel.after B2.out B3.out) B4.out⟩

set_option maxRecDepth 100000 in
set_option maxHeartbeats 4000000 in
theorem impl_liveOut (v : Value) (F : FnD) (w : World) (hF : FnAt w v F) :
    Calls Tryz.prog 12 #[v] w fun e w' => GivesLists w (liveOutOf F) e w' := by
  have HF : Hid (FnAt w v F) := hF
  obtain ⟨n, HN⟩ : ∃ n, Hid (F.blocks.length = n) := ⟨_, rfl⟩
  obtain ⟨vals, HV⟩ : ∃ x, Hid (F.values = x) := ⟨_, rfl⟩
  obtain ⟨ba, bcap, rfl⟩ := hF.out HN.out HV.out
  clear hF
  go_enter Tryz.func12, Tryz.ntmps12
  go_wp2_with fail
  obtain ⟨wA, hwA⟩ : ∃ wA, w.alloc (.cells #[.slice ba n bcap, .int .i64 vals] 26) = wA := ⟨_, rfl⟩
  have BA : Hid (Below w.heap.size w wA) := by rw [← hwA]; exact Bel.alloc _ _
  have a0 : wA.cell? ⟨w.heap.size, 0, none⟩ = some (.slice ba n bcap) := by rw [← hwA]; simp [go_sem]
  have a1 : wA.cell? ⟨w.heap.size, 1, none⟩ = some (.int .i64 vals) := by rw [← hwA]; simp [go_sem]
  rw [hwA]
  clear hwA
  refine (impl_plainOk _ F _ (HF.out.later BA.out)).mono ?_
  rintro e w2 ⟨s, rfl, hs, b2⟩
  have HS : Hid (s = true ↔ FnPlain F) := hs
  have B2 : Hid (Below w.heap.size w w2) := Bel.after BA.out b2
  have c0 := Bel.keeps b2 a0
  have c1 := Bel.keeps b2 a1
  clear hs b2 a0 a1
  cases s
  · have HE : Hid (liveOutOf F = []) := liveOutOf_no (fun h => by have := HS.out.2 h; cases this)
    go_wp2_with fail
    go_ret
    rw [HE.out]
    exact ⟨_, rfl, ownLists_new rfl B2.out.size, B2.out.trans (Bel.alloc' _ _ B2.out.size)⟩
  · have hp : FnPlain F := HS.out.1 rfl
    have HP : Hid (FnPlain F) := hp
    obtain ⟨n', V', hv⟩ := plainV_of hp
    have en : n' = n := hv.len.symm.trans HN.out
    subst en
    have HPV : Hid (PlainV F n' V') := hv
    have h1 := hv.n1
    have h16 := hv.n16
    clear hp hv
    go_wp2_with fail
    refine (needsOf_any _ F _ (HF.out.later B2.out) n' HN.out h1 h16 HPV.out.takes HPV.out.su).mono ?_
    rintro e w3 ⟨gI, gO, us, vs, rfl, hne, b3⟩
    have HNE : Hid (NeedsAt w3 w2.heap.size gI gO n' us vs (liveL F) (outF F (liveL F))) := hne
    have B3 : Hid (Below w2.heap.size w2 w3) := b3
    clear hne b3
    have hf0 := run_needs0 (.slice (some ⟨gI, 0, none⟩) n' n') (.slice (some ⟨gO, 0, none⟩) n' n') w3
    have hf1 := run_needs1 (.slice (some ⟨gI, 0, none⟩) n' n') (.slice (some ⟨gO, 0, none⟩) n' n') w3
    go_wp2_with fail
    refine (listsOf_any _ w2.heap.size n' _ _ w3 HNE.out.setsO B3.out.size h16).mono ?_
    rintro e w4 ⟨g, xs, rfl, hr, b4⟩
    have HR : Hid (OwnRows w4 w2.heap.size g n' xs _) := hr
    have B4 : Hid (Below w3.heap.size w3 w4) := b4
    clear hr b4
    go_wp2_with fail
    go_ret
    rw [liveOutOf_yes HP.out, HN.out]
    exact ⟨_, rfl, ownLists_rows (HR.out.lower B2.out.size), Bel.after (Bel.after B2.out B3.out) B4.out⟩
end Go.Proofs.YtefnlmohminhbaaGreat
