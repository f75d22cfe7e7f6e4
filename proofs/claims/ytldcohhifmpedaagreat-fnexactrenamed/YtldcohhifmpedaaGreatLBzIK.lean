/- How many are needed at once: the program's Busy. -/
import Derived.Test.YtldcohhifmpedaaGreatLBzSK
namespace Go.Proofs.YtldcohhifmpedaaGreat
open Go.ChangeShapes Go.WideShapes Go.ChangeAt Go.RowKit Go.Shelf
set_option linter.unusedVariables false
attribute [local go_sem] Oper.semAt_some

/-- The marks that ranges over a function leave behind. -/
def marksOf (Ds : List Nat) : List Deferred := Ds.map (fun D => { target := .collected D, args := #[] })
structure MarksAt (lo : Nat) (w : World) (Ds : List Nat) : Prop where
  nd : Ds.Nodup
  each : ∀ D ∈ Ds, lo ≤ D ∧ w.heap[D]? = some (.deferred (some []))
theorem MarksAt.same {lo : Nat} {w w' : World} {Ds : List Nat} (h : MarksAt lo w Ds) (hf : ∀ D ∈ Ds, w'.heap[D]? = w.heap[D]?) : MarksAt lo w' Ds :=
  ⟨h.nd, fun D hD => ⟨(h.each D hD).1, (hf D hD).trans (h.each D hD).2⟩⟩
theorem MarksAt.lt {lo : Nat} {w : World} {Ds : List Nat} (h : MarksAt lo w Ds) {D : Nat} (hD : D ∈ Ds) : D < w.heap.size := (Array.getElem?_eq_some_iff.1 (h.each D hD).2).1
/-- At the return they are taken, one by one. -/
theorem leaves_marks {F : Fence} {n : Nat} {P : Program} {fn : Func} {tmps : Array Value} {R : Ending → World → Prop} {lo : Nat} : ∀ (Ds : List Nat) (w : World), MarksAt lo w Ds →
    (∀ w', Below lo w w' → (∀ k, k < lo → w'.heap[k]? = w.heap[k]?) → LeavesIn F n P fn tmps R [] .returning w') → lo ≤ w.heap.size → LeavesInM F n P fn tmps R (marksOf Ds) .returning w
  | [], w, _, h, hl => h w (Below.refl _ _) (fun _ _ => rfl)
  | D :: Ds, w, hm, h, hl => by
    have hD := hm.each D (by simp)
    have hput : ∀ k, k ≠ D → (w.putObj D (.deferred none)).heap[k]? = w.heap[k]? := fun k hk => World.putObj_heap_other (by omega)
    have hbel : Below lo w (w.putObj D (.deferred none)) := ⟨rfl, rfl, rfl, by simp [World.putObj], fun k hk => hput k (by have := hD.1; omega)⟩
    refine ⟨by simp, .inl ⟨_, _, rfl, run_takeDeferred hD.2, ?_⟩⟩
    refine leaves_marks Ds _ ⟨(List.nodup_cons.1 hm.nd).2, fun E hE => ⟨(hm.each E (by simp [hE])).1, ?_⟩⟩ (fun w' hb hk => h w' (hbel.trans hb) (fun k hk2 => (hk k hk2).trans (hput k (by omega)))) ?_
    · rw [hput E (fun e => (List.nodup_cons.1 hm.nd).1 (e ▸ hE))]
      exact (hm.each E (by simp [hE])).2
    · have := hbel.size
      omega
/-- The greatest so far lies in its cell; all else is as it was. -/
structure BzI (w w4 : World) (X lo : Nat) (Ds : List Nat) (M : Nat) (U : World) : Prop where
  box : U.heap[X]? = some (.cells #[.int .i64 M] 3 (0, 0))
  same : ∀ k, k < w4.heap.size → k ≠ X → U.heap[k]? = w4.heap[k]?
  bel : Below w.heap.size w U
  size : w4.heap.size ≤ U.heap.size
  marks : MarksAt w4.heap.size U Ds
  room : lo ≤ U.heap.size
theorem BzI.below {w w4 U U' : World} {X lo M B : Nat} {Ds : List Nat} (h : BzI w w4 X lo Ds M U) (hb : Below B U U') (hB : w4.heap.size ≤ B) (hX : X < w4.heap.size) (hw : w.heap.size ≤ w4.heap.size) (hD : ∀ D ∈ Ds, D < B) : BzI w w4 X lo Ds M U' :=
  ⟨(hb.block _ (by omega)).trans h.box, fun k hk hne => (hb.block k (by omega)).trans (h.same k hk hne), h.bel.trans (hb.mono (by omega)), Nat.le_trans h.size hb.size, h.marks.same (fun D hm => hb.block D (hD D hm)), Nat.le_trans h.room hb.size⟩
theorem BzI.put {w w4 U : World} {X lo M : Nat} {Ds : List Nat} (h : BzI w w4 X lo Ds M U) (hX : X < w4.heap.size) (hw : w.heap.size ≤ X) (M' : Nat) : BzI w w4 X lo Ds M' (U.setCell ⟨X, 0, none⟩ (.int .i64 M')) := by
  refine ⟨?_, fun k hk hne => (Below.heap_setCell _ _ _ k hne).trans (h.same k hk hne), h.bel.setCell (p := ⟨X, 0, none⟩) hw _, by simpa using h.size, h.marks.same (fun D hm => Below.heap_setCell _ _ _ D (by have := (h.marks.each D hm).1; show D ≠ X; omega)), by simpa using h.room⟩
  obtain ⟨hlt, hk⟩ := Array.getElem?_eq_some_iff.1 h.box
  show (U.heap.modify X _)[X]? = _
  rw [Array.getElem?_eq_getElem (by rw [Array.size_modify]; exact hlt), Array.getElem_modify_self, hk]
  rfl
theorem cell_bx {w : World} {x : Nat} {a : Value} {t : TypeId} (h : w.heap[x]? = some (.cells #[a] t (0, 0))) : w.cell? ⟨x, 0, none⟩ = some a ∧ w.frozen? ⟨x, 0, none⟩ = false := ⟨by simp [World.cell?, h], by simp [World.frozen?, h]⟩
theorem ownInts_slice {w : World} {lo : Nat} {v : Value} {l : List Int} (h : OwnInts w lo v l) : ∃ a m c, v = .slice a m c := by
  rcases h.2 with ⟨h0, _⟩ | ⟨g9, c9, cur, hv, _⟩
  · exact ⟨_, _, _, h0⟩
  · exact ⟨_, _, _, hv⟩
def upMax (M : Nat) (l : List (Int × Value)) : Nat := (l.map (fun y => lenV y.2)).foldl max M
theorem upMax_next (M : Nat) (l : List (Int × Value)) (y : Int × Value) : upMax M (l ++ [y]) = max (upMax M l) (lenV y.2) := by simp [upMax]
theorem top_down {F : FnD} {k M : Nat} {x : BlockD} (hx : F.blocks[k]? = some x) (h : Top F (ToBlock F k) M) : ∀ c, c ≤ x.list.length + 1 → Top F (fun b j => ToBlock F k b j ∨ (b = k ∧ x.list.length < j + c ∧ j ≤ x.list.length)) (((lensDown x (outF F (liveL F) k) c).map (fun p => p.2)).foldl max M)
  | 0, _ => h.congr (fun b j => ⟨.inl, fun h => h.elim id (fun h => absurd h.2 (by omega))⟩)
  | c + 1, hc => by
    rw [lensDown_next, List.map_append, List.foldl_append]
    simp only [List.map_cons, List.map_nil, List.foldl_cons, List.foldl_nil]
    rw [← lenAt_at hx]
    refine (top_down hx h c (by omega)).add (fun b j => ⟨?_, ?_⟩)
    · rintro (h1 | ⟨h1, h2, h3⟩)
      · exact .inl (.inl h1)
      · by_cases e : j = x.list.length - c
        · exact .inr ⟨h1, e⟩
        · exact .inl (.inr ⟨h1, by omega, h3⟩)
    · rintro ((h1 | ⟨h1, h2, h3⟩) | ⟨h1, h2⟩)
      · exact .inl h1
      · exact .inr ⟨h1, by omega, h3⟩
      · exact .inr ⟨h1, by omega, by omega⟩
theorem top_block {F : FnD} {k M : Nat} {x : BlockD} (hx : F.blocks[k]? = some x) (h : Top F (ToBlock F k) M) {ys : List (Int × Value)} (hy : ys.map (fun y => (y.1, lenV y.2)) = lensDown x (outF F (liveL F) k) (x.list.length + 1)) : Top F (ToBlock F (k + 1)) (upMax M ys) := by
  have e : upMax M ys = ((lensDown x (outF F (liveL F) k) (x.list.length + 1)).map (fun p => p.2)).foldl max M := by
    rw [← hy, List.map_map]
    rfl
  rw [e]
  refine (top_down hx h _ (Nat.le_refl _)).congr (fun b j => ?_)
  have hpl := placesN_at hx
  unfold ToBlock
  constructor
  · rintro (h1 | ⟨rfl, h2, h3⟩)
    · exact ⟨by omega, h1.2⟩
    · exact ⟨by omega, by omega⟩
  · intro h1
    by_cases e : b = k
    · subst e
      exact .inr ⟨rfl, by omega, by omega⟩
    · exact .inl ⟨by omega, h1.2⟩

set_option maxRecDepth 100000 in
set_option maxHeartbeats 16000000 in
theorem impl_busy (v : Value) (F : FnD) (w : World) (hF : FnAt w v F) :
    Calls Tryz.prog 39 #[v] w fun e w' => GivesInt w (busyOf F) e w' := by
  have HF : Hid (FnAt w v F) := hF
  obtain ⟨n, HN⟩ : ∃ n, Hid (F.blocks.length = n) := ⟨_, rfl⟩
  obtain ⟨vals, HV⟩ : ∃ x, Hid (F.values = x) := ⟨_, rfl⟩
  obtain ⟨ba, bcap, rfl⟩ := hF.out HN.out HV.out
  have hmost : n ≤ 9223372036854775807 := by rw [← HN.out]; exact hF.most
  clear hF
  obtain ⟨wA, hwA⟩ : ∃ wA, w.alloc (.cells #[.slice ba n bcap, .int .i64 vals] 26) = wA := ⟨_, rfl⟩
  have BA : Hid (Below w.heap.size w wA) := by rw [← hwA]; exact Bel.alloc _ _
  have hsA : wA.heap.size = w.heap.size + 1 := by rw [← hwA]; simp
  have a0 : wA.cell? ⟨w.heap.size, 0, none⟩ = some (.slice ba n bcap) := by rw [← hwA]; simp [go_sem]
  have a1 : wA.cell? ⟨w.heap.size, 1, none⟩ = some (.int .i64 vals) := by rw [← hwA]; simp [go_sem]
  refine (callsIn_wide (n := 6)).1 ?_
  refine callsIn_of_wp_marks Tryz.func39 rfl trivial ?_ rfl
  simp only [Tryz.ntmps39, List.size_toArray, List.length_cons, List.length_nil, Nat.reduceAdd, Nat.reduceSub, Array.replicate_succ, Array.replicate_zero, List.push_toArray, List.append_toArray, List.nil_append, List.cons_append]
  gi_wp2_with fail
  try rw [hwA]
  refine ⟨trivial, (callsIn_wide.2 (impl_plainOk _ F _ (HF.out.later BA.out))).mono ?_⟩
  rintro e w2 ⟨s, rfl, hs, b2⟩
  have HS : Hid (s = true ↔ FnPlain F) := hs
  have B2 : Hid (Below w.heap.size w w2) := Bel.after BA.out b2
  have c0 := Bel.keeps b2 a0
  have c1 := Bel.keeps b2 a1
  have hs2 : w.heap.size + 1 ≤ w2.heap.size := by have := b2.size; omega
  clear hs b2 a0 a1 hwA BA hsA
  cases s
  · have HE : Hid (busyOf F = -1) := busyOf_eq (.inl ⟨fun h => (by have := HS.out.2 h; cases this), rfl⟩)
    gi_wp2
    refine ⟨_, results_tmp rfl _ _ _, ?_, B2.out⟩
    rw [HE.out]
    rfl
  · have hp : FnPlain F := HS.out.1 rfl
    have HP : Hid (FnPlain F) := hp
    obtain ⟨n', V, hv⟩ := plainV_of hp
    have en : n' = n := hv.len.symm.trans HN.out
    subst en
    have HPV : Hid (PlainV F n' V) := hv
    have h1 := hv.n1
    have h16 := hv.n16
    clear hp hv
    have e0 := Bel.keeps (Bel.alloc w2 (.cells #[.int .i64 0] 3)) c0
    have e1 := Bel.keeps (Bel.alloc w2 (.cells #[.int .i64 0] 3)) c1
    gi_wp2_with fail
    obtain ⟨wB, hwB⟩ : ∃ wB, w2.alloc (.cells #[.int .i64 0] 3) = wB := ⟨_, rfl⟩
    have BB : Hid (Below w2.heap.size w2 wB) := by rw [← hwB]; exact Bel.alloc _ _
    have hsB : wB.heap.size = w2.heap.size + 1 := by rw [← hwB]; simp
    have XB : Hid (wB.heap[w2.heap.size]? = some (.cells #[.int .i64 0] 3 (0, 0))) := by rw [← hwB]; exact World.alloc_heap_new w2 _
    rw [hwB] at e0 e1
    rw [hwB]
    refine ⟨trivial, (callsIn_wide.2 (needsOf_any _ F wB (HF.out.later (Bel.after B2.out BB.out)) n' HN.out h1 h16 HPV.out.takes HPV.out.su)).mono ?_⟩
    rintro e w3 ⟨gI, gO, us, vs, rfl, hne, b3⟩
    have B3 : Hid (Below w.heap.size w w3) := Bel.after (Bel.after B2.out BB.out) b3
    have HNE3 : Hid (NeedsAt w3 wB.heap.size gI gO n' us vs (liveL F) (outF F (liveL F))) := hne
    have X3 : Hid (w3.heap[w2.heap.size]? = some (.cells #[.int .i64 0] 3 (0, 0))) := (b3.block _ (by omega)).trans XB.out
    have hs3 : wB.heap.size ≤ w3.heap.size := b3.size
    replace e0 := Bel.keeps b3 e0
    replace e1 := Bel.keeps b3 e1
    have f0 := Bel.keeps (Bel.alloc w3 (.cells #[.slice (some ⟨gI, 0, none⟩) n' n', .slice (some ⟨gO, 0, none⟩) n' n'] 113)) e0
    have f1 := Bel.keeps (Bel.alloc w3 (.cells #[.slice (some ⟨gI, 0, none⟩) n' n', .slice (some ⟨gO, 0, none⟩) n' n'] 113)) e1
    clear hwB
    gi_wp2_with fail
    obtain ⟨w4, hw4⟩ : ∃ w4, w3.alloc (.cells #[.slice (some ⟨gI, 0, none⟩) n' n', .slice (some ⟨gO, 0, none⟩) n' n'] 113) = w4 := ⟨_, rfl⟩
    have B34 : Hid (Below w3.heap.size w3 w4) := by rw [← hw4]; exact Bel.alloc _ _
    have hs4 : w4.heap.size = w3.heap.size + 1 := by rw [← hw4]; simp
    have N4 : Hid (w4.heap[w3.heap.size]? = some (.cells #[.slice (some ⟨gI, 0, none⟩) n' n', .slice (some ⟨gO, 0, none⟩) n' n'] 113 (0, 0))) := by rw [← hw4]; exact World.alloc_heap_new w3 _
    have B4 : Hid (Below w.heap.size w w4) := Bel.after B3.out B34.out
    have HNE : Hid (NeedsAt w4 wB.heap.size gI gO n' us vs (liveL F) (outF F (liveL F))) := HNE3.out.keep B34.out
    have X4 : Hid (w4.heap[w2.heap.size]? = some (.cells #[.int .i64 0] 3 (0, 0))) := (B34.out.block _ (by omega)).trans X3.out
    rw [hw4] at f0 f1
    have hX4 : w2.heap.size < w4.heap.size := by omega
    have hw24 : w.heap.size ≤ w2.heap.size := by omega
    clear hne b3 c0 c1 e0 e1 HNE3 X3 XB
    rw [hw4]
    clear hw4
    refine wpIn_loop (fun a W => ∃ (k M : Nat) (Ds : List Nat) (x5 x6 x18 x19 x20 x21 x22 x23 x24 x25 x26 x27 x28 x36 : Value), k ≤ n' ∧ a = { tmps := #[.agg #[.slice ba n' bcap, .int .i64 vals], .pointer (some ⟨w.heap.size, 0, none⟩), .int .i64 0, .pointer (some ⟨w2.heap.size, 0, none⟩), .pointer (some ⟨w3.heap.size, 0, none⟩), x5, x6, undef, undef, .agg #[.slice ba n' bcap, .int .i64 vals], .bool true, .bool false, .agg #[.slice ba n' bcap, .int .i64 vals], .agg #[.slice (some ⟨gI, 0, none⟩) n' n', .slice (some ⟨gO, 0, none⟩) n' n'], .pointer (some ⟨w.heap.size, 0, none⟩), .slice ba n' bcap, .int .i64 n', .int .i64 k, x18, x19, x20, x21, x22, x23, x24, x25, x26, x27, x28, undef, undef, undef, undef, undef, undef, undef, x36, undef], defers := marksOf Ds } ∧ BzI w w4 w2.heap.size 0 Ds M W ∧ Top F (ToBlock F k) M) (fun a _ => n' - (intOf (a.eval (.tmp 17))).toNat) ?_ ?_
    · exact ⟨0, 0, [], undef, undef, undef, undef, undef, undef, undef, undef, undef, undef, undef, undef, undef, undef, Nat.zero_le _, rfl, ⟨X4.out, fun _ _ _ => rfl, B4.out, Nat.le_refl _, ⟨List.nodup_nil, by simp⟩, Nat.zero_le _⟩, top_none F⟩
    rintro a W ⟨k, M, Ds, x5, x6, x18, x19, x20, x21, x22, x23, x24, x25, x26, x27, x28, x36, hk, rfl, hI, hT⟩
    have HI : Hid (BzI w w4 w2.heap.size 0 Ds M W) := hI
    have HT : Hid (Top F (ToBlock F k) M) := hT
    obtain ⟨y0, y1⟩ := cell_bx hI.box
    have g0 : W.cell? ⟨w.heap.size, 0, none⟩ = some (.slice ba n' bcap) := (World.cell?_of_block (w := w4) (a := ⟨w.heap.size, 0, none⟩) (hI.same w.heap.size (by omega) (by omega))).trans f0
    have hsW := hI.size
    clear hI hT
    by_cases hlt : (k : Int) < (n' : Int)
    · have hkn : k < n' := by omega
      have hcl : k < F.blocks.length := by rw [HN.out]; exact hkn
      obtain ⟨x, HX⟩ : ∃ x, Hid (F.blocks[k]? = some x) := ⟨F.blocks[k], List.getElem?_eq_getElem hcl⟩
      obtain ⟨bb, off, hba, pv, lv, t0, t1, t2, t3, t4, t5, hpv, hlv⟩ := FnAt.blockC HF.out HN.out hkn HX.out
      subst hba
      have HLV : Hid (ListAt 0 5 InsAt w lv x.list) := hlv
      obtain ⟨la, lcap, rfl, hlm, -⟩ := hlv
      obtain ⟨pa, pcap, rfl, hpm, -⟩ := hpv
      obtain ⟨ln, HLN⟩ : ∃ z, Hid (x.list.length = z) := ⟨_, rfl⟩
      obtain ⟨pn, HPN⟩ : ∃ z, Hid (x.phis.length = z) := ⟨_, rfl⟩
      rw [HLN.out] at t1 hlm
      rw [HPN.out] at t0 hpm
      replace t0 := Bel.keeps HI.out.bel t0
      replace t1 := Bel.keeps HI.out.bel t1
      replace t2 := Bel.keeps HI.out.bel t2
      replace t3 := Bel.keeps HI.out.bel t3
      replace t4 := Bel.keeps HI.out.bel t4
      replace t5 := Bel.keeps HI.out.bel t5
      clear hcl hlm hpm
      obtain ⟨W2, hW2⟩ : ∃ W2, W.alloc (.cells #[.slice pa pn pcap, .slice la ln lcap, .int .i64 x.term.k, .int .i64 x.term.a, .int .i64 x.term.t, .int .i64 x.term.e] 56) = W2 := ⟨_, rfl⟩
      have BW2 : Hid (Below W.heap.size W W2) := by rw [← hW2]; exact Bel.alloc _ _
      have hsW2 : W2.heap.size = W.heap.size + 1 := by rw [← hW2]; simp
      have KB : Hid (W2.heap[W.heap.size]? = some (.cells #[.slice pa pn pcap, .slice la ln lcap, .int .i64 x.term.k, .int .i64 x.term.a, .int .i64 x.term.t, .int .i64 x.term.e] 56 (0, 0))) := by rw [← hW2]; exact World.alloc_heap_new W _
      have I2 : Hid (BzI w w4 w2.heap.size 0 Ds M W2) := HI.out.below BW2.out hsW hX4 (by omega) (fun D hD => HI.out.marks.lt hD)
      obtain ⟨oa, ok, oc, hoc⟩ := ownInts_slice (HNE.out.rowO k hkn)
      have hgO := HNE.out.ltO
      have hlO := HNE.out.lowO
      have q6 : W2.cell? ⟨w3.heap.size, 1, none⟩ = some (.slice (some ⟨gO, 0, none⟩) n' n') := (World.cell?_of_block (w := w4) (a := ⟨w3.heap.size, 1, none⟩) (I2.out.same w3.heap.size (by omega) (by omega))).trans ((cell_of_box N4.out 1).trans rfl)
      have q7 : W2.cell? ⟨gO, k, none⟩ = some (.slice oa ok oc) := (World.cell?_of_block (w := w4) (a := ⟨gO, k, none⟩) (I2.out.same gO (by omega) (by omega))).trans (by
        have := (HNE.out.setO hkn).cell
        rw [hoc] at this
        exact this)
      have d0 : W2.cell? ⟨W.heap.size, 0, none⟩ = some (.slice pa pn pcap) := (cell_of_box KB.out 0).trans rfl
      have d1 : W2.cell? ⟨W.heap.size, 1, none⟩ = some (.slice la ln lcap) := (cell_of_box KB.out 1).trans rfl
      have d2 : W2.cell? ⟨W.heap.size, 2, none⟩ = some (.int .i64 x.term.k) := (cell_of_box KB.out 2).trans rfl
      have d3 : W2.cell? ⟨W.heap.size, 3, none⟩ = some (.int .i64 x.term.a) := (cell_of_box KB.out 3).trans rfl
      have d4 : W2.cell? ⟨W.heap.size, 4, none⟩ = some (.int .i64 x.term.t) := (cell_of_box KB.out 4).trans rfl
      have d5 : W2.cell? ⟨W.heap.size, 5, none⟩ = some (.int .i64 x.term.e) := (cell_of_box KB.out 5).trans rfl
      gi_wp2_with fail
      try rw [hW2]
      clear hW2
      refine region_wideH (S := fun W' => W'.cell? ⟨W.heap.size, 0, none⟩ = some (.slice pa pn pcap) ∧ W'.cell? ⟨W.heap.size, 1, none⟩ = some (.slice la ln lcap) ∧ W'.cell? ⟨W.heap.size, 2, none⟩ = some (.int .i64 x.term.k) ∧ W'.cell? ⟨W.heap.size, 3, none⟩ = some (.int .i64 x.term.a) ∧ W'.cell? ⟨W.heap.size, 4, none⟩ = some (.int .i64 x.term.t) ∧ W'.cell? ⟨W.heap.size, 5, none⟩ = some (.int .i64 x.term.e) ∧ W'.cell? ⟨w3.heap.size, 1, none⟩ = some (.slice (some ⟨gO, 0, none⟩) n' n') ∧ W'.cell? ⟨gO, k, none⟩ = some (.slice oa ok oc)) (by kernel_rfl) ⟨d0, d1, d2, d3, d4, d5, q6, q7⟩ (fun hHeld => ?_)
      refine wpAnyH_take (i := 0) (oi := { dst := some 22, op := Go.Op.load 56 (Go.Operand.tmp 6), type := 56, pos := "l11_live.go:48", after := #[], guard := none }) (v := ?_) rfl (by kernel_rfl) (by kernel_rfl) (by kernel_rfl) (fun _ _ _ h => h) (Or.inl ⟨by rfl, ?_⟩) (by assumption) ?_
      rotate_left
      · intro w hSw
        (try dsimp only at hSw)
        go_simp
        (try with_reducible rfl)
      try simp only [Act.put, List.setIfInBounds_toArray, List.set_cons_zero, List.set_cons_succ]
      refine wpAnyH_take (i := 1) (oi := { dst := some 23, op := Go.Op.fieldAddr 113 (Go.Operand.tmp 4) 1, type := 0, pos := "l11_live.go:48", after := #[], guard := none }) (v := ?_) rfl (by kernel_rfl) (by kernel_rfl) (by kernel_rfl) (fun _ _ _ h => h) (Or.inl ⟨by rfl, ?_⟩) (by assumption) ?_
      rotate_left
      · intro w hSw
        (try dsimp only at hSw)
        go_simp
        (try with_reducible rfl)
      try simp only [Act.put, List.setIfInBounds_toArray, List.set_cons_zero, List.set_cons_succ]
      refine wpAnyH_take (i := 2) (oi := { dst := some 24, op := Go.Op.load 111 (Go.Operand.tmp 23), type := 111, pos := "l11_live.go:48", after := #[{ on := 1, ground := Go.Ground.data }], guard := none }) (v := ?_) rfl (by kernel_rfl) (by kernel_rfl) (by kernel_rfl) (fun _ _ _ h => h) (Or.inl ⟨by rfl, ?_⟩) (by assumption) ?_
      rotate_left
      · intro w hSw
        (try dsimp only at hSw)
        go_simp
        (try with_reducible rfl)
      try simp only [Act.put, List.setIfInBounds_toArray, List.set_cons_zero, List.set_cons_succ]
      refine wpAnyH_take (i := 3) (oi := { dst := some 25, op := Go.Op.move (Go.Operand.tmp 5), type := 3, pos := "l11_live.go:48", after := #[], guard := none }) (v := ?_) rfl (by kernel_rfl) (by kernel_rfl) (by kernel_rfl) (fun _ _ _ h => h) (Or.inl ⟨by rfl, ?_⟩) (by assumption) ?_
      rotate_left
      · intro w hSw
        (try dsimp only at hSw)
        go_simp
        (try with_reducible rfl)
      try simp only [Act.put, List.setIfInBounds_toArray, List.set_cons_zero, List.set_cons_succ]
      refine wpAnyH_take (i := 4) (oi := { dst := some 26, op := Go.Op.indexAddr 111 (Go.Operand.tmp 24) (Go.Operand.tmp 25), type := 0, pos := "l11_live.go:48", after := #[{ on := 2, ground := Go.Ground.data }, { on := 3, ground := Go.Ground.data }], guard := none }) (v := ?_) rfl (by kernel_rfl) (by kernel_rfl) (by kernel_rfl) (fun _ _ _ h => h) (Or.inl ⟨by rfl, ?_⟩) (by assumption) ?_
      rotate_left
      · intro w hSw
        (try dsimp only at hSw)
        go_simp
        (try with_reducible rfl)
      try simp only [Act.put, List.setIfInBounds_toArray, List.set_cons_zero, List.set_cons_succ]
      refine wpAnyH_take (i := 5) (oi := { dst := some 27, op := Go.Op.load 124 (Go.Operand.tmp 26), type := 124, pos := "l11_live.go:48", after := #[{ on := 4, ground := Go.Ground.data }], guard := none }) (v := ?_) rfl (by kernel_rfl) (by kernel_rfl) (by kernel_rfl) (fun _ _ _ h => h) (Or.inl ⟨by rfl, ?_⟩) (by assumption) ?_
      rotate_left
      · intro w hSw
        (try dsimp only at hSw)
        go_simp
        (try with_reducible rfl)
      try simp only [Act.put, List.setIfInBounds_toArray, List.set_cons_zero, List.set_cons_succ]
      refine ckAnyH_oneK (i := 6) (o := { dst := some 28, op := Go.Op.call { callee := Go.Callee.value (Go.Operand.func 94), args := #[Go.Operand.tmp 22, Go.Operand.tmp 27], argTypes := #[56, 124] }, type := 121, pos := "l11_live.go:48", after := #[{ on := 0, ground := Go.Ground.data }, { on := 5, ground := Go.Ground.data }], guard := none }) rfl rfl (by kernel_rfl) (fun K9 hK9 => ?_)
      refine wp_call_of (f := 94) (args := #[.agg #[.slice pa pn pcap, .slice la ln lcap, .int .i64 x.term.k, .int .i64 x.term.a, .int .i64 x.term.t, .int .i64 x.term.e], .agg #[.slice oa ok oc]]) (runCallL rfl (by kernel_rfl) (by kernel_rfl) (enters_of Tryz.func94 (by kernel_rfl) rfl) _) (backward_any pa la oa pn pcap ln lcap ok oc x.term.k x.term.a x.term.t x.term.e W2.drew) ?_
      rintro e W3 ⟨rfl, hW3⟩
      have B23 : Below W2.heap.size W2 W3 := by rw [hW3]; exact ((Below.refl _ W2).drew).trans (((Below.refl W2.heap.size W2.drew).alloc (Nat.le_refl _) _).alloc (by simp) _)
      refine ⟨_, rfl, hK9 _ _ ⟨⟨Bel.keeps B23 d0, Bel.keeps B23 d1, Bel.keeps B23 d2, Bel.keeps B23 d3, Bel.keeps B23 d4, Bel.keeps B23 d5, Bel.keeps B23 q6, Bel.keeps B23 q7⟩, ?_⟩⟩
      refine wpAnyH_done (by kernel_rfl) ?_ _
      simp only [onlyNormal, Exit.then, Act.put, List.setIfInBounds_toArray, List.set_cons_succ, List.set_cons_zero]
      go_at_K
      gi_wp2
      have hbx0 : W3.heap[W2.heap.size]? = some (.cells #[.slice pa pn pcap, .slice la ln lcap, .int .i64 x.term.k, .int .i64 x.term.a, .int .i64 x.term.t, .int .i64 x.term.e] 56 (0, 0)) := by
        rw [hW3, Below.heap_alloc _ _ _ (by simp)]; exact World.alloc_heap_new W2.drew _
      have hbx1 : W3.heap[W2.heap.size + 1]? = some (.cells #[.slice oa ok oc] 124 (0, 0)) := by
        rw [hW3]
        have := World.alloc_heap_new (W2.drew.alloc (.cells #[.slice pa pn pcap, .slice la ln lcap, .int .i64 x.term.k, .int .i64 x.term.a, .int .i64 x.term.t, .int .i64 x.term.e] 56)) (.cells #[.slice oa ok oc] 124)
        rwa [World.size_alloc] at this
      have hsW3 : W3.heap.size = W2.heap.size + 2 := by rw [hW3]; simp
      have hI3 : BzI w w4 w2.heap.size 0 Ds M W3 := I2.out.below B23 (by omega) hX4 (by omega) (fun D hD => I2.out.marks.lt hD)
      have I3 : Hid (BzI w w4 w2.heap.size W3.heap.size Ds M W3) := ⟨hI3.box, hI3.same, hI3.bel, hI3.size, hI3.marks, Nat.le_refl _⟩
      obtain ⟨no, HNO⟩ : ∃ z, Hid (outF F (liveL F) k = z) := ⟨_, rfl⟩
      have hnoa : Asc no ∧ In80 no := by rw [← HNO.out]; exact ⟨norm_asc _, norm_in _⟩
      have hnot : 0 < ln → ∀ c2 off2, la = some ⟨c2, off2, none⟩ → c2 ≠ w2.heap.size := fun hp c2 off2 e e2 => by
        have hl : 0 < x.list.length := by have := HLN.out; omega
        have HL3 := HLV.out
        rw [HLN.out] at HL3
        obtain ⟨c', off', e', hi⟩ := placeAt HL3 (List.getElem?_eq_getElem hl)
        rw [e] at e'
        cases e'
        have h9 := World.block_lt_of_cell? w _ hi.1
        simp at h9
        omega
      have hseq : SeqSt Fence.wide 5 Tryz.prog 137 #[.pointer (some ⟨W2.heap.size + 1, 0, none⟩), .pointer (some ⟨W2.heap.size, 0, none⟩)] bEnc (bDt x no W3.heap.size) (bS x no W3.heap.size) w2.heap.size (ln + 1) W3 := by
        have hrow : OwnInts W3 wB.heap.size (.slice oa ok oc) no := by
          have h9 := HNE.out.rowO k hkn
          rw [HNO.out, hoc] at h9
          exact h9.sameB (fun b hb => hI3.same b (h9.lt b hb).2 (by have := (h9.lt b hb).1; omega))
        have hL2 := places_keep HLV.out (Keeps.of_below hI3.bel 0)
        rw [HLN.out] at hL2
        exact backw_seq 5 (by omega) w2.heap.size x no hnoa.1 hnoa.2 (HPV.out.takes k x HX.out) (W2.heap.size + 1) W2.heap.size (.slice oa ok oc) la ln lcap HLN.out W3 ((cell_of_box hbx1 0).trans rfl) hrow.at ((cell_of_box hbx0 1).trans rfl) ((cell_of_box hbx0 2).trans rfl) ((cell_of_box hbx0 3).trans rfl) ((cell_of_box hbx0 4).trans rfl) ((cell_of_box hbx0 5).trans rfl) hL2 (by omega) hnot
      clear hW3 hbx0 hbx1 B23 hHeld hK9 hI3 d0 d1 d2 d3 d4 d5 q6 q7 t0 t1 t2 t3 t4 t5
      have hgV : w2.heap.size < W3.heap.size := by omega
      have hDB : Hid (∀ D ∈ Ds, D < W3.heap.size) := fun D hD => I3.out.marks.lt hD
      have hBB : w4.heap.size ≤ W3.heap.size := by omega
      clear hsW2 hsW3
      refine wpIn_rangeFunc_st (α := Int × Value) rfl (by omega) (gf := 137) (lb := #[.pointer (some ⟨W2.heap.size + 1, 0, none⟩), .pointer (some ⟨W2.heap.size, 0, none⟩)]) rfl trivial (enters_of Tryz.func137 (by kernel_rfl) rfl)
        hseq (Below.refl _ _) hgV (fun _ => rfl)
        (fun pre U => BzI w w4 w2.heap.size W3.heap.size Ds (upMax M pre) U)
        (fun _ _ _ => False)
        (fun pre y a' U => BzI w w4 w2.heap.size W3.heap.size Ds (upMax M pre) U ∧ ∃ Bx sa sn sc, y.2 = .slice sa sn sc ∧ U.heap[Bx]? = some (.cells #[.slice sa sn sc] 124 (0, 0)) ∧ a' = { tmps := #[.agg #[.slice (some ⟨bb, off, none⟩) n' bcap, .int .i64 vals], .pointer (some ⟨w.heap.size, 0, none⟩), .int .i64 0, .pointer (some ⟨w2.heap.size, 0, none⟩), .pointer (some ⟨w3.heap.size, 0, none⟩), .int .i64 k, .pointer (some ⟨W.heap.size, 0, none⟩), undef, .pointer (some ⟨Bx, 0, none⟩), .agg #[.slice (some ⟨bb, off, none⟩) n' bcap, .int .i64 vals], .bool true, .bool false, .agg #[.slice (some ⟨bb, off, none⟩) n' bcap, .int .i64 vals], .agg #[.slice (some ⟨gI, 0, none⟩) n' n', .slice (some ⟨gO, 0, none⟩) n' n'], .pointer (some ⟨w.heap.size, 0, none⟩), .slice (some ⟨bb, off, none⟩) n' bcap, .int .i64 n', .int .i64 k, .bool true, .int .i64 k, .pointer (some ⟨bb, off + k * 6, none⟩), .agg #[.slice pa pn pcap, .slice la ln lcap, .int .i64 x.term.k, .int .i64 x.term.a, .int .i64 x.term.t, .int .i64 x.term.e], .agg #[.slice pa pn pcap, .slice la ln lcap, .int .i64 x.term.k, .int .i64 x.term.a, .int .i64 x.term.t, .int .i64 x.term.e], .pointer (some ⟨w3.heap.size, 1, none⟩), .slice (some ⟨gO, 0, none⟩) n' n', .int .i64 k, .pointer (some ⟨gO, k, none⟩), .agg #[.slice oa ok oc], .func (.func 137) #[] #[.pointer (some ⟨W2.heap.size + 1, 0, none⟩), .pointer (some ⟨W2.heap.size, 0, none⟩)], .int .i64 y.1, .agg #[y.2], undef, undef, undef, undef, undef, x36, undef], defers := [] })
        (fun s X Y h hbl => h.below hbl hBB hX4 (by omega) hDB.out)
        (fun c => ownFrom_pure _ _)
        (fun pre y a' _ A B row h hg hr => ⟨h.1.below (below_grown hg h.1.room (fun r e => (hr r e).1)) hBB hX4 (by omega) hDB.out, h.2.elim fun Bx h2 => ⟨Bx, h2.elim fun sa h3 => ⟨sa, h3.elim fun sn h4 => ⟨sn, h4.elim fun sc h5 => ⟨sc, h5.1, box_grownN h5.2.1 hg (fun r e => (hr r e).2), h5.2.2⟩⟩⟩⟩⟩)
        (fun ys U U' row h hg hr => ⟨h.1, h.2.elim fun y hy => ⟨y, hy.1, hy.2.grownN hg (fun r e => (hr r e).2)⟩⟩)
        I3.out ?assign ?body ?done ?stop
      case assign =>
        rintro l2 pre ⟨yi, yv⟩ U K hi hdt hK
        have HIU : Hid (BzI w w4 w2.heap.size W3.heap.size Ds (upMax M pre) U) := hi
        obtain ⟨sa, sn, sc, rfl⟩ : ∃ a m c, yv = .slice a m c := by obtain ⟨j, _, _, h3⟩ := hdt; exact ownInts_slice h3
        dsimp only [bEnc]
        clear hi hdt hseq
        gi_wp2
        exact hK _ _ ⟨HIU.out.below (Bel.alloc' _ _ HIU.out.room) hBB hX4 (by omega) hDB.out, U.heap.size, sa, sn, sc, rfl, World.alloc_heap_new U _, rfl⟩ (KeepsX.below (Bel.alloc _ _))
      case body =>
        rintro l2 pre ⟨yi, yv⟩ a' U ⟨hi, Bx, sa, sn, sc, hyv, hbox, rfl⟩ _
        dsimp only at hyv
        subst hyv
        have HIU : Hid (BzI w w4 w2.heap.size W3.heap.size Ds (upMax M pre) U) := hi
        obtain ⟨z0, z1⟩ := cell_bx hi.box
        have z2 := (cell_bx hbox).1
        obtain ⟨mm, HMM⟩ : ∃ m, Hid (upMax M pre = m) := ⟨_, rfl⟩
        rw [HMM.out] at z0
        clear hi hbox hseq
        have HEN : Hid (upMax M (pre ++ [(yi, .slice sa sn sc)]) = max mm sn) := (upMax_next _ _ _).trans (by rw [HMM.out]; rfl)
        gi_wp2
        refine ⟨KeepsX.setCell _ _, ?_⟩
        show BzI _ _ _ _ _ _ _
        rw [HEN.out, show max (mm : Int) (sn : Int) = ((max mm sn : Nat) : Int) by omega]
        exact HIU.out.put hX4 hw24 _
      case done =>
        rintro D ys U hD ⟨hS1, _⟩ hi hK
        have HT2 : Hid (Top F (ToBlock F (k + 1)) (upMax M ys)) := top_block HX.out HT.out (by rw [HNO.out]; exact hS1)
        have HIU : Hid (BzI w w4 w2.heap.size 0 (D :: Ds) (upMax M ys) U) := ⟨hi.box, hi.same, hi.bel, hi.size, ⟨List.nodup_cons.2 ⟨fun hm => by have := hDB.out D hm; omega, hi.marks.nd⟩, fun E hE => by
          rcases List.mem_cons.1 hE with rfl | hE
          · exact ⟨by omega, hK⟩
          · exact hi.marks.each E hE⟩, Nat.zero_le _⟩
        clear hi hK hS1 hseq
        gi_wp2
        refine ⟨⟨k + 1, upMax M ys, D :: Ds, _, _, _, _, _, _, _, _, _, _, _, _, _, _, by omega, rfl, HIU.out, HT2.out⟩, ?_⟩
        simp [intOf, Act.eval]
        omega
      case stop =>
        rintro D cc pre U _ h _
        exact h.elim
    · have ekn : n' = k := by omega
      subst ekn
      have HE : Hid (busyOf F = (M : Int)) := busyOf_eq (.inr ⟨HP.out, M, rfl, by rw [HN.out]; exact HT.out⟩)
      gi_wp2
      refine leaves_marks (lo := w4.heap.size) Ds _ HI.out.marks (fun w' hb hk2 => ?_) hsW
      refine ⟨_, results_tmp rfl _ _ _, ?_, HI.out.bel.trans (hb.mono (by omega))⟩
      rw [HE.out]
      rfl
end Go.Proofs.YtldcohhifmpedaaGreat
