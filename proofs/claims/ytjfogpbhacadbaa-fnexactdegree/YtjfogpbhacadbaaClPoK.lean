/- The pairs that clash: the program's pairsOf. -/
import Derived.Test.YtjfogpbhacadbaaClMapK
import Derived.Test.YtjfogpbhacadbaaClDefK
import Derived.Test.YtjfogpbhacadbaaLBzIK
namespace Go.Proofs.Ytjfogpbhacadbaa
open Go.ChangeShapes Go.WideShapes Go.ChangeAt Go.RowKit Go.Shelf
set_option linter.unusedVariables false
attribute [local go_sem] Oper.semAt_some

/-- The pairs so far lie in their map; all else is as it was. -/
structure CzI (w w4 : World) (mb lo N : Nat) (Ds : List Nat) (S : Int → Int → Prop) (U : World) : Prop where
  map : MapP U mb N S
  same : ∀ k, k < w4.heap.size → k ≠ mb → U.heap[k]? = w4.heap[k]?
  bel : Below w.heap.size w U
  size : w4.heap.size ≤ U.heap.size
  marks : MarksAt w4.heap.size U Ds
  room : lo ≤ U.heap.size
theorem CzI.below {w w4 U U' : World} {mb lo N B : Nat} {Ds : List Nat} {S : Int → Int → Prop} (h : CzI w w4 mb lo N Ds S U) (hb : Below B U U') (hB : w4.heap.size ≤ B) (hX : mb < w4.heap.size) (hw : w.heap.size ≤ w4.heap.size) (hD : ∀ D ∈ Ds, D < B) : CzI w w4 mb lo N Ds S U' :=
  ⟨h.map.same (hb.block _ (by omega)), fun k hk hne => (hb.block k (by omega)).trans (h.same k hk hne), h.bel.trans (hb.mono (by omega)), Nat.le_trans h.size hb.size, h.marks.same (fun D hm => hb.block D (hD D hm)), Nat.le_trans h.room hb.size⟩
theorem CzI.grown {w w4 U U' : World} {mb lo N M : Nat} {Ds : List Nat} {S T : Int → Int → Prop} (h : CzI w w4 mb lo N Ds S U) (hg : U.grownBy U' (some mb)) (hm : MapP U' mb M T) (hX : mb < w4.heap.size) (hw : w.heap.size ≤ mb) : CzI w w4 mb lo M Ds T U' :=
  ⟨hm, fun k hk hne => (hg.block k (by have := h.size; omega) (by simpa using hne)).trans (h.same k hk hne), h.bel.trans ⟨hg.os, hg.tape, hg.output, hg.size, fun k hk => hg.block k (by have := h.size; omega) (by simp; omega)⟩, Nat.le_trans h.size hg.size, h.marks.same (fun D hD => hg.block D (h.marks.lt hD) (by have := (h.marks.each D hD).1; simp; omega)), Nat.le_trans h.room hg.size⟩
theorem CzI.mono {w w4 U : World} {mb lo lo' N M : Nat} {Ds : List Nat} {S T : Int → Int → Prop} (h : CzI w w4 mb lo N Ds S U) (hN : N ≤ M) (hS : ∀ a b, S a b ↔ T a b) (hl : lo' ≤ U.heap.size) : CzI w w4 mb lo' M Ds T U :=
  ⟨h.map.mono hN hS, h.same, h.bel, h.size, h.marks, hl⟩
/-- The set that a round is handed. -/
def SetAt (x : BlockD) (no : List Int) (lo : Nat) (y : Int × Value) (Bx : Nat) (U : World) : Prop := ∃ sa sn sc j, y.2 = .slice sa sn sc ∧ y.1 = ((j : Nat) : Int) ∧ j ≤ x.list.length ∧ OwnInts U lo (.slice sa sn sc) (atS x no j) ∧ U.heap[Bx]? = some (.cells #[.slice sa sn sc] 74 (0, 0))
theorem SetAt.grown {x : BlockD} {no : List Int} {lo : Nat} {y : Int × Value} {Bx : Nat} {U U' : World} {row : Option Nat} (h : SetAt x no lo y Bx U) (hg : U.grownBy U' row) (hr : ∀ r, row = some r → ∃ o : Obj, U.heap[r]? = some o ∧ o.isCells = false) : SetAt x no lo y Bx U' := by
  obtain ⟨sa, sn, sc, j, h1, h2, h3, h4, h5⟩ := h
  exact ⟨sa, sn, sc, j, h1, h2, h3, h4.grownN hg hr, box_grownN h5 hg hr⟩
/-- The places whose turn has been. -/
def Seen (k : Nat) (pre : List (Int × Value)) (b j : Nat) : Prop := b < k ∨ (b = k ∧ ∃ y ∈ pre, y.1 = (j : Int) + 1)
theorem seen_nil (F : FnD) (k : Nat) (a c : Int) : Way F (UpTo k 0) a c ↔ Way F (Seen k []) a c := Way.congr (fun b j _ => by unfold UpTo Seen; simp) a c
theorem seen_zero (F : FnD) (k : Nat) (pre : List (Int × Value)) {y : Int × Value} (hy : y.1 = 0) (a c : Int) : Way F (Seen k pre) a c ↔ Way F (Seen k (pre ++ [y])) a c := Way.congr (fun b j _ => by
  unfold Seen
  constructor
  · rintro (h | ⟨h, z, h1, h2⟩)
    · exact .inl h
    · exact .inr ⟨h, z, by simp [h1], h2⟩
  · rintro (h | ⟨h, z, h1, h2⟩)
    · exact .inl h
    · rcases List.mem_append.1 h1 with h1 | h1
      · exact .inr ⟨h, z, h1, h2⟩
      · simp at h1
        subst h1
        omega) a c
theorem seen_next {F : FnD} {k : Nat} (pre : List (Int × Value)) {y : Int × Value} {i : Nat} (hy : y.1 = (i : Int) + 1) {x : BlockD} {p : InsD} (hx : F.blocks[k]? = some x) (hp : x.list[i]? = some p) (a c : Int) : Way F (Seen k (pre ++ [y])) a c ↔ Way F (Seen k pre) a c ∨ Meets p (atS x (outF F (liveL F) k) (i + 1)) a c :=
  way_add hx hp (fun b j => by
    unfold Seen
    constructor
    · rintro (h | ⟨h, z, h1, h2⟩)
      · exact .inl (.inl h)
      · rcases List.mem_append.1 h1 with h1 | h1
        · exact .inl (.inr ⟨h, z, h1, h2⟩)
        · simp at h1
          subst h1
          exact .inr ⟨h, by omega⟩
    · rintro ((h | ⟨h, z, h1, h2⟩) | ⟨h, h1⟩)
      · exact .inl h
      · exact .inr ⟨h, z, by simp [h1], h2⟩
      · exact .inr ⟨h, y, by simp, by omega⟩) a c
theorem seen_has {x : BlockD} {o : List Int} {ys : List (Int × Value)} (h : ys.map (fun y => (y.1, lenV y.2)) = lensDown x o (x.list.length + 1)) {j : Nat} (hj : j ≤ x.list.length) : ∃ y ∈ ys, y.1 = (j : Int) := by
  have h1 : ((j : Int), (atS x o j).length) ∈ lensDown x o (x.list.length + 1) := by
    unfold lensDown
    rw [List.mem_map]
    refine ⟨x.list.length - j, by simp; omega, ?_⟩
    rw [show x.list.length - (x.list.length - j) = j by omega]
  rw [← h, List.mem_map] at h1
  obtain ⟨y, hy, e⟩ := h1
  exact ⟨y, hy, congrArg Prod.fst e⟩
theorem seen_all {F : FnD} {k : Nat} {x : BlockD} (hx : F.blocks[k]? = some x) {o : List Int} {ys : List (Int × Value)} (h : ys.map (fun y => (y.1, lenV y.2)) = lensDown x o (x.list.length + 1)) (a c : Int) : Way F (Seen k ys) a c ↔ Way F (UpTo (k + 1) 0) a c := Way.congr (fun b j hj => by
  unfold Seen UpTo
  constructor
  · rintro (h | ⟨h, _⟩)
    · exact .inl (by omega)
    · exact .inl (by omega)
  · rintro (h1 | ⟨h1, h2⟩)
    · by_cases e : b = k
      · subst e
        have := place_lt hx hj
        obtain ⟨y, hy, e2⟩ := seen_has h (j := j + 1) (by omega)
        exact .inr ⟨rfl, y, hy, by omega⟩
      · exact .inl (by omega)
    · omega) a c
theorem lens_len {x : BlockD} {o : List Int} {ys : List (Int × Value)} (h : ys.map (fun y => (y.1, lenV y.2)) = lensDown x o (x.list.length + 1)) : ys.length = x.list.length + 1 := by
  have := congrArg List.length h
  simpa [lensDown] using this
theorem KeepsX.grownM {x B : Nat} {X Y : World} (h : X.grownBy Y (some x)) : KeepsX x B X Y := ⟨h.size, fun i o h1 h2 _ => (h.block i (Array.getElem?_eq_some_iff.1 h1).1 (by simpa using h2)).trans h1⟩
theorem runCallC3 {P : Program} {o : Oper} {a : Act} {f : FuncId} {x y z : Operand} {ts : Array TypeId} (ho : o.op = Op.call { callee := Callee.value (Operand.func f), args := #[x, y, z], argTypes := ts }) {u v r : Value} (hx : a.eval x = u) (hy : a.eval y = v) (hz : a.eval z = r) (he : ∀ args w, (callFunc f args).run P w = .ok (.enter f args) w) (w : World) : (execOp a.eval o).run P w = .ok (.enter f #[u, v, r]) w := by
  simp [execOp, ho, resolve, invoke, Act.eval, go_sem, he]
  simp [Act.eval] at hx hy hz
  simp [hx, hy, hz]
def GivesMap (w : World) (S : Int → Int → Prop) (e : Ending) (w' : World) : Prop := ∃ mb N, e = .returned (.map (some mb)) ∧ MapP w' mb N S ∧ Below w.heap.size w w'

set_option maxRecDepth 100000 in
set_option maxHeartbeats 16000000 in
theorem pairsOf_any (v : Value) (F : FnD) (n V : Nat) (w : World) (hF : FnAt w v F) (hP : PlainV F n V) (h24 : ∀ (k : Nat) (x : BlockD), F.blocks[k]? = some x → x.list.length ≤ 24) :
    Calls Try.prog 16 #[v] w fun e w' => GivesMap w (Clsh F) e w' := by
  have HF : Hid (FnAt w v F) := hF
  have HPV : Hid (PlainV F n V) := hP
  have HN : Hid (F.blocks.length = n) := hP.len
  have H24 : Hid (∀ (k : Nat) (x : BlockD), F.blocks[k]? = some x → x.list.length ≤ 24) := h24
  obtain ⟨ba, bcap, rfl⟩ := hF.out hP.len hP.vals
  have h1 := hP.n1
  have h16 := hP.n16
  have hV8 := hP.v80
  clear hF hP h24
  obtain ⟨wA, hwA⟩ : ∃ wA, w.alloc (.cells #[.slice ba n bcap, .int .i64 V] 29) = wA := ⟨_, rfl⟩
  have BA : Hid (Below w.heap.size w wA) := by rw [← hwA]; exact Bel.alloc _ _
  have hsA : wA.heap.size = w.heap.size + 1 := by rw [← hwA]; simp
  have a0 : wA.cell? ⟨w.heap.size, 0, none⟩ = some (.slice ba n bcap) := by rw [← hwA]; simp [go_sem]
  have a1 : wA.cell? ⟨w.heap.size, 1, none⟩ = some (.int .i64 V) := by rw [← hwA]; simp [go_sem]
  obtain ⟨wM, hwM⟩ : ∃ wM, wA.alloc (.map #[] 0) = wM := ⟨_, rfl⟩
  have BM : Hid (Below wA.heap.size wA wM) := by rw [← hwM]; exact Bel.alloc _ _
  have hsM : wM.heap.size = w.heap.size + 1 + 1 := by rw [← hwM]; simp; omega
  have MM : Hid (MapP wM (w.heap.size + 1) 0 (fun _ _ => False)) := by rw [← hwM, ← hsA]; exact mapP_new wA
  obtain ⟨wB, hwB⟩ : ∃ wB, wM.alloc (.cells #[.map (some (w.heap.size + 1))] 42) = wB := ⟨_, rfl⟩
  have BB : Hid (Below wM.heap.size wM wB) := by rw [← hwB]; exact Bel.alloc _ _
  have hsB : wB.heap.size = w.heap.size + 1 + 1 + 1 := by rw [← hwB]; simp; omega
  have XB : Hid (wB.heap[w.heap.size + 1 + 1]? = some (.cells #[.map (some (w.heap.size + 1))] 42 (0, 0))) := by rw [← hwB, ← hsM]; exact World.alloc_heap_new wM _
  have MB : Hid (MapP wB (w.heap.size + 1) 0 (fun _ _ => False)) := MM.out.keep BB.out
  have BWB : Hid (Below w.heap.size w wB) := Bel.after (Bel.after BA.out BM.out) BB.out
  have e0 := Bel.keeps BB.out (Bel.keeps BM.out a0)
  have e1 := Bel.keeps BB.out (Bel.keeps BM.out a1)
  clear a0 a1
  refine (callsIn_wide (n := 6)).1 ?_
  refine callsIn_of_wp_marks Try.func16 rfl trivial ?_ rfl
  simp only [Try.ntmps16, List.size_toArray, List.length_cons, List.length_nil, Nat.reduceAdd, Nat.reduceSub, Array.replicate_succ, Array.replicate_zero, List.push_toArray, List.append_toArray, List.nil_append, List.cons_append]
  have hmm := @run_makeMap Try.prog
  gi_wp2_with fail
  clear hmm
  refine ⟨trivial, (callsIn_wide.2 (needsOf_any _ F wB (HF.out.later BWB.out) n HN.out h1 h16 HPV.out.takes HPV.out.su)).mono ?_⟩
  rintro e w3 ⟨gI, gO, us, vs, rfl, hne, b3⟩
  have B3 : Hid (Below w.heap.size w w3) := Bel.after BWB.out b3
  have HNE3 : Hid (NeedsAt w3 wB.heap.size gI gO n us vs (liveL F) (outF F (liveL F))) := hne
  have X3 : Hid (w3.heap[w.heap.size + 1 + 1]? = some (.cells #[.map (some (w.heap.size + 1))] 42 (0, 0))) := (b3.block _ (by omega)).trans XB.out
  have M3 : Hid (MapP w3 (w.heap.size + 1) 0 (fun _ _ => False)) := MB.out.keep b3
  have hs3 : wB.heap.size ≤ w3.heap.size := b3.size
  replace e0 := Bel.keeps b3 e0
  replace e1 := Bel.keeps b3 e1
  have f0 := Bel.keeps (Bel.alloc w3 (.cells #[.slice (some ⟨gI, 0, none⟩) n n, .slice (some ⟨gO, 0, none⟩) n n] 67)) e0
  have f1 := Bel.keeps (Bel.alloc w3 (.cells #[.slice (some ⟨gI, 0, none⟩) n n, .slice (some ⟨gO, 0, none⟩) n n] 67)) e1
  clear hwA hwM hwB
  gi_wp2_with fail
  obtain ⟨w4, hw4⟩ : ∃ w4, w3.alloc (.cells #[.slice (some ⟨gI, 0, none⟩) n n, .slice (some ⟨gO, 0, none⟩) n n] 67) = w4 := ⟨_, rfl⟩
  have B34 : Hid (Below w3.heap.size w3 w4) := by rw [← hw4]; exact Bel.alloc _ _
  have hs4 : w4.heap.size = w3.heap.size + 1 := by rw [← hw4]; simp
  have N4 : Hid (w4.heap[w3.heap.size]? = some (.cells #[.slice (some ⟨gI, 0, none⟩) n n, .slice (some ⟨gO, 0, none⟩) n n] 67 (0, 0))) := by rw [← hw4]; exact World.alloc_heap_new w3 _
  have B4 : Hid (Below w.heap.size w w4) := Bel.after B3.out B34.out
  have HNE : Hid (NeedsAt w4 wB.heap.size gI gO n us vs (liveL F) (outF F (liveL F))) := HNE3.out.keep B34.out
  have X4' : Hid (w4.heap[w.heap.size + 1 + 1]? = some (.cells #[.map (some (w.heap.size + 1))] 42 (0, 0))) := (B34.out.block _ (by omega)).trans X3.out
  have M4' : Hid (MapP w4 (w.heap.size + 1) 0 (fun _ _ => False)) := M3.out.keep B34.out
  rw [hw4] at f0 f1
  clear hne b3 e0 e1 HNE3 X3 XB M3 MB MM
  rw [hw4]
  clear hw4
  obtain ⟨X, hX⟩ : ∃ z, w.heap.size + 1 + 1 = z := ⟨_, rfl⟩
  rw [hX] at X4' ⊢
  obtain ⟨mb, hmb⟩ : ∃ z, w.heap.size + 1 = z := ⟨_, rfl⟩
  rw [hmb] at X4' M4' ⊢
  have X4 : Hid (w4.heap[X]? = some (.cells #[.map (some mb)] 42 (0, 0))) := X4'.out
  have M4 : Hid (MapP w4 mb 0 (fun _ _ => False)) := M4'.out
  have hwm : w.heap.size < mb := by omega
  have hmX : mb < X := by omega
  have hXB : X < wB.heap.size := by omega
  have hX4 : X < w4.heap.size := by omega
  have hm4 : mb < w4.heap.size := by omega
  clear hX hmb X4' M4' hsB hsM hsA
  refine wpIn_loop (fun a W => ∃ (k : Nat) (Ds : List Nat) (x5 x6 x16 x17 x18 x19 x20 x21 x22 x23 x24 x25 x26 x40 : Value), k ≤ n ∧ a = { tmps := #[.agg #[.slice ba n bcap, .int .i64 V], .pointer (some ⟨w.heap.size, 0, none⟩), .map none, .pointer (some ⟨X, 0, none⟩), .pointer (some ⟨w3.heap.size, 0, none⟩), x5, x6, undef, undef, .map (some mb), .agg #[.slice ba n bcap, .int .i64 V], .agg #[.slice (some ⟨gI, 0, none⟩) n n, .slice (some ⟨gO, 0, none⟩) n n], .pointer (some ⟨w.heap.size, 0, none⟩), .slice ba n bcap, .int .i64 n, .int .i64 k, x16, x17, x18, x19, x20, x21, x22, x23, x24, x25, x26, undef, undef, undef, undef, undef, undef, undef, undef, undef, undef, undef, undef, undef, x40, undef], defers := marksOf Ds } ∧ CzI w w4 mb 0 (2000 * k) Ds (Way F (UpTo k 0)) W) (fun a _ => n - (intOf (a.eval (.tmp 15))).toNat) ?_ ?_
  · exact ⟨0, [], undef, undef, undef, undef, undef, undef, undef, undef, undef, undef, undef, undef, undef, undef, Nat.zero_le _, rfl, ⟨M4.out.mono (Nat.zero_le _) (fun a b => ⟨False.elim, fun h => way_none _ _ h⟩), fun _ _ _ => rfl, B4.out, Nat.le_refl _, ⟨List.nodup_nil, by simp⟩, Nat.zero_le _⟩⟩
  rintro a W ⟨k, Ds, x5, x6, x16, x17, x18, x19, x20, x21, x22, x23, x24, x25, x26, x40, hk, rfl, hI⟩
  have HI : Hid (CzI w w4 mb 0 (2000 * k) Ds (Way F (UpTo k 0)) W) := hI
  have g0 : W.cell? ⟨w.heap.size, 0, none⟩ = some (.slice ba n bcap) := (World.cell?_of_block (w := w4) (a := ⟨w.heap.size, 0, none⟩) (hI.same w.heap.size (by omega) (by omega))).trans f0
  have gx : W.cell? ⟨X, 0, none⟩ = some (.map (some mb)) := (World.cell?_of_block (w := w4) (a := ⟨X, 0, none⟩) (hI.same X (by omega) (by omega))).trans (cell_bx X4.out).1
  have hsW := hI.size
  clear hI
  by_cases hlt : (k : Int) < (n : Int)
  · have hkn : k < n := by omega
    have hcl : k < F.blocks.length := by rw [HN.out]; exact hkn
    obtain ⟨x, HX⟩ : ∃ x, Hid (F.blocks[k]? = some x) := ⟨F.blocks[k], List.getElem?_eq_getElem hcl⟩
    obtain ⟨bb, off, hba, pv, lv, t0, t1, t2, t3, t4, t5, hpv, hlv⟩ := FnAt.blockC HF.out HN.out hkn HX.out
    subst hba
    have HLV : Hid (ListAt 0 5 InsAt w lv x.list) := hlv
    obtain ⟨la, lcap, rfl, hlm, -⟩ := hlv
    obtain ⟨pa, pcap, rfl, hpm, -⟩ := hpv
    obtain ⟨ln, HLN⟩ : ∃ z, Hid (x.list.length = z) := ⟨_, rfl⟩
    obtain ⟨pn, HPN⟩ : ∃ z, Hid (x.phis.length = z) := ⟨_, rfl⟩
    have hl24 : ln ≤ 24 := by rw [← HLN.out]; exact H24.out k x HX.out
    rw [HLN.out] at t1 hlm
    rw [HPN.out] at t0 hpm
    replace t0 := Bel.keeps HI.out.bel t0
    replace t1 := Bel.keeps HI.out.bel t1
    replace t2 := Bel.keeps HI.out.bel t2
    replace t3 := Bel.keeps HI.out.bel t3
    replace t4 := Bel.keeps HI.out.bel t4
    replace t5 := Bel.keeps HI.out.bel t5
    clear hcl hlm hpm
    obtain ⟨W2, hW2⟩ : ∃ W2, W.alloc (.cells #[.slice pa pn pcap, .slice la ln lcap, .int .i64 x.term.k, .int .i64 x.term.a, .int .i64 x.term.t, .int .i64 x.term.e] 58) = W2 := ⟨_, rfl⟩
    have BW2 : Hid (Below W.heap.size W W2) := by rw [← hW2]; exact Bel.alloc _ _
    have hsW2 : W2.heap.size = W.heap.size + 1 := by rw [← hW2]; simp
    have KB : Hid (W2.heap[W.heap.size]? = some (.cells #[.slice pa pn pcap, .slice la ln lcap, .int .i64 x.term.k, .int .i64 x.term.a, .int .i64 x.term.t, .int .i64 x.term.e] 58 (0, 0))) := by rw [← hW2]; exact World.alloc_heap_new W _
    have I2 : Hid (CzI w w4 mb 0 (2000 * k) Ds (Way F (UpTo k 0)) W2) := HI.out.below BW2.out hsW hm4 (by omega) (fun D hD => HI.out.marks.lt hD)
    obtain ⟨oa, ok, oc, hoc⟩ := ownInts_slice (HNE.out.rowO k hkn)
    have hgO := HNE.out.ltO
    have hlO := HNE.out.lowO
    have q6 : W2.cell? ⟨w3.heap.size, 1, none⟩ = some (.slice (some ⟨gO, 0, none⟩) n n) := (World.cell?_of_block (w := w4) (a := ⟨w3.heap.size, 1, none⟩) (I2.out.same w3.heap.size (by omega) (by omega))).trans ((cell_of_box N4.out 1).trans rfl)
    have q7 : W2.cell? ⟨gO, k, none⟩ = some (.slice oa ok oc) := (World.cell?_of_block (w := w4) (a := ⟨gO, k, none⟩) (I2.out.same gO (by omega) (by omega))).trans (by
      have := (HNE.out.setO hkn).cell
      rw [hoc] at this
      exact this)
    have d0 : W2.cell? ⟨W.heap.size, 0, none⟩ = some (.slice pa pn pcap) := (cell_of_box KB.out 0).trans rfl
    have d1 : W2.cell? ⟨W.heap.size, 1, none⟩ = some (.slice la ln lcap) := (cell_of_box KB.out 1).trans rfl
    have d2 : W2.cell? ⟨W.heap.size, 2, none⟩ = some (.int .i64 x.term.k) := (cell_of_box KB.out 2).trans rfl
    have d3 : W2.cell? ⟨W.heap.size, 3, none⟩ = some (.int .i64 x.term.a) := (cell_of_box KB.out 3).trans rfl
    have d4 : W2.cell? ⟨W.heap.size, 4, none⟩ = some (.int .i64 x.term.t) := (cell_of_box KB.out 4).trans rfl
    have d5 : W2.cell? ⟨W.heap.size, 5, none⟩ = some (.int .i64 x.term.e) := (cell_of_box KB.out 5).trans rfl
    gi_wp2_with fail
    try rw [hW2]
    clear hW2
    refine region_wideH (S := fun W' => W'.cell? ⟨W.heap.size, 0, none⟩ = some (.slice pa pn pcap) ∧ W'.cell? ⟨W.heap.size, 1, none⟩ = some (.slice la ln lcap) ∧ W'.cell? ⟨W.heap.size, 2, none⟩ = some (.int .i64 x.term.k) ∧ W'.cell? ⟨W.heap.size, 3, none⟩ = some (.int .i64 x.term.a) ∧ W'.cell? ⟨W.heap.size, 4, none⟩ = some (.int .i64 x.term.t) ∧ W'.cell? ⟨W.heap.size, 5, none⟩ = some (.int .i64 x.term.e) ∧ W'.cell? ⟨w3.heap.size, 1, none⟩ = some (.slice (some ⟨gO, 0, none⟩) n n) ∧ W'.cell? ⟨gO, k, none⟩ = some (.slice oa ok oc)) (by kernel_rfl) ⟨d0, d1, d2, d3, d4, d5, q6, q7⟩ (fun hHeld => ?_)
    refine wpAnyH_take (i := 0) (oi := { dst := some 20, op := Go.Op.load 58 (Go.Operand.tmp 6), type := 58, pos := "l12_clash.go:38", after := #[], guard := none }) (v := ?_) rfl (by kernel_rfl) (by kernel_rfl) (by kernel_rfl) (fun _ _ _ h => h) (Or.inl ⟨by rfl, ?_⟩) (by assumption) ?_
    rotate_left
    · intro w hSw
      (try dsimp only at hSw)
      go_simp
      (try with_reducible rfl)
    try simp only [Act.put, List.setIfInBounds_toArray, List.set_cons_zero, List.set_cons_succ]
    refine wpAnyH_take (i := 1) (oi := { dst := some 21, op := Go.Op.fieldAddr 67 (Go.Operand.tmp 4) 1, type := 0, pos := "l12_clash.go:38", after := #[], guard := none }) (v := ?_) rfl (by kernel_rfl) (by kernel_rfl) (by kernel_rfl) (fun _ _ _ h => h) (Or.inl ⟨by rfl, ?_⟩) (by assumption) ?_
    rotate_left
    · intro w hSw
      (try dsimp only at hSw)
      go_simp
      (try with_reducible rfl)
    try simp only [Act.put, List.setIfInBounds_toArray, List.set_cons_zero, List.set_cons_succ]
    refine wpAnyH_take (i := 2) (oi := { dst := some 22, op := Go.Op.load 65 (Go.Operand.tmp 21), type := 65, pos := "l12_clash.go:38", after := #[{ on := 1, ground := Go.Ground.data }], guard := none }) (v := ?_) rfl (by kernel_rfl) (by kernel_rfl) (by kernel_rfl) (fun _ _ _ h => h) (Or.inl ⟨by rfl, ?_⟩) (by assumption) ?_
    rotate_left
    · intro w hSw
      (try dsimp only at hSw)
      go_simp
      (try with_reducible rfl)
    try simp only [Act.put, List.setIfInBounds_toArray, List.set_cons_zero, List.set_cons_succ]
    refine wpAnyH_take (i := 3) (oi := { dst := some 23, op := Go.Op.move (Go.Operand.tmp 5), type := 3, pos := "l12_clash.go:38", after := #[], guard := none }) (v := ?_) rfl (by kernel_rfl) (by kernel_rfl) (by kernel_rfl) (fun _ _ _ h => h) (Or.inl ⟨by rfl, ?_⟩) (by assumption) ?_
    rotate_left
    · intro w hSw
      (try dsimp only at hSw)
      go_simp
      (try with_reducible rfl)
    try simp only [Act.put, List.setIfInBounds_toArray, List.set_cons_zero, List.set_cons_succ]
    refine wpAnyH_take (i := 4) (oi := { dst := some 24, op := Go.Op.indexAddr 65 (Go.Operand.tmp 22) (Go.Operand.tmp 23), type := 0, pos := "l12_clash.go:38", after := #[{ on := 2, ground := Go.Ground.data }, { on := 3, ground := Go.Ground.data }], guard := none }) (v := ?_) rfl (by kernel_rfl) (by kernel_rfl) (by kernel_rfl) (fun _ _ _ h => h) (Or.inl ⟨by rfl, ?_⟩) (by assumption) ?_
    rotate_left
    · intro w hSw
      (try dsimp only at hSw)
      go_simp
      (try with_reducible rfl)
    try simp only [Act.put, List.setIfInBounds_toArray, List.set_cons_zero, List.set_cons_succ]
    refine wpAnyH_take (i := 5) (oi := { dst := some 25, op := Go.Op.load 74 (Go.Operand.tmp 24), type := 74, pos := "l12_clash.go:38", after := #[{ on := 4, ground := Go.Ground.data }], guard := none }) (v := ?_) rfl (by kernel_rfl) (by kernel_rfl) (by kernel_rfl) (fun _ _ _ h => h) (Or.inl ⟨by rfl, ?_⟩) (by assumption) ?_
    rotate_left
    · intro w hSw
      (try dsimp only at hSw)
      go_simp
      (try with_reducible rfl)
    try simp only [Act.put, List.setIfInBounds_toArray, List.set_cons_zero, List.set_cons_succ]
    refine ckAnyH_oneK (i := 6) (o := { dst := some 26, op := Go.Op.call { callee := Go.Callee.value (Go.Operand.func 28), args := #[Go.Operand.tmp 20, Go.Operand.tmp 25], argTypes := #[58, 74] }, type := 70, pos := "l12_clash.go:38", after := #[{ on := 0, ground := Go.Ground.data }, { on := 5, ground := Go.Ground.data }], guard := none }) rfl rfl (by kernel_rfl) (fun K9 hK9 => ?_)
    refine wp_call_of (f := 28) (args := #[.agg #[.slice pa pn pcap, .slice la ln lcap, .int .i64 x.term.k, .int .i64 x.term.a, .int .i64 x.term.t, .int .i64 x.term.e], .agg #[.slice oa ok oc]]) (runCallL rfl (by kernel_rfl) (by kernel_rfl) (enters_of Try.func28 (by kernel_rfl) rfl) _) (backward_any pa la oa pn pcap ln lcap ok oc x.term.k x.term.a x.term.t x.term.e W2.drew) ?_
    rintro e W3 ⟨rfl, hW3⟩
    have B23 : Below W2.heap.size W2 W3 := by rw [hW3]; exact ((Below.refl _ W2).drew).trans (((Below.refl W2.heap.size W2.drew).alloc (Nat.le_refl _) _).alloc (by simp) _)
    refine ⟨_, rfl, hK9 _ _ ⟨⟨Bel.keeps B23 d0, Bel.keeps B23 d1, Bel.keeps B23 d2, Bel.keeps B23 d3, Bel.keeps B23 d4, Bel.keeps B23 d5, Bel.keeps B23 q6, Bel.keeps B23 q7⟩, ?_⟩⟩
    refine wpAnyH_done (by kernel_rfl) ?_ _
    simp only [onlyNormal, Exit.then, Act.put, List.setIfInBounds_toArray, List.set_cons_succ, List.set_cons_zero]
    go_at_K
    gi_wp2
    have hbx0 : W3.heap[W2.heap.size]? = some (.cells #[.slice pa pn pcap, .slice la ln lcap, .int .i64 x.term.k, .int .i64 x.term.a, .int .i64 x.term.t, .int .i64 x.term.e] 58 (0, 0)) := by
      rw [hW3, Below.heap_alloc _ _ _ (by simp)]; exact World.alloc_heap_new W2.drew _
    have hbx1 : W3.heap[W2.heap.size + 1]? = some (.cells #[.slice oa ok oc] 74 (0, 0)) := by
      rw [hW3]
      have := World.alloc_heap_new (W2.drew.alloc (.cells #[.slice pa pn pcap, .slice la ln lcap, .int .i64 x.term.k, .int .i64 x.term.a, .int .i64 x.term.t, .int .i64 x.term.e] 58)) (.cells #[.slice oa ok oc] 74)
      rwa [World.size_alloc] at this
    have hsW3 : W3.heap.size = W2.heap.size + 2 := by rw [hW3]; simp
    have hI3 : CzI w w4 mb 0 (2000 * k) Ds (Way F (UpTo k 0)) W3 := I2.out.below B23 (by omega) hm4 (by omega) (fun D hD => I2.out.marks.lt hD)
    have I3 : Hid (CzI w w4 mb W3.heap.size (2000 * k) Ds (Way F (Seen k [])) W3) := hI3.mono (Nat.le_refl _) (seen_nil F k) (Nat.le_refl _)
    have KB3 : Hid (W3.heap[W.heap.size]? = some (.cells #[.slice pa pn pcap, .slice la ln lcap, .int .i64 x.term.k, .int .i64 x.term.a, .int .i64 x.term.t, .int .i64 x.term.e] 58 (0, 0))) := (B23.block _ (by omega)).trans KB.out
    obtain ⟨no, HNO⟩ : ∃ z, Hid (outF F (liveL F) k = z) := ⟨_, rfl⟩
    have hnoa : Asc no ∧ In80 no := by rw [← HNO.out]; exact ⟨norm_asc _, norm_in _⟩
    have hnot : 0 < ln → ∀ c2 off2, la = some ⟨c2, off2, none⟩ → c2 ≠ mb := fun hp c2 off2 e e2 => by
      have hl : 0 < x.list.length := by have := HLN.out; omega
      have HL3 := HLV.out
      rw [HLN.out] at HL3
      obtain ⟨c', off', e', hi⟩ := placeAt HL3 (List.getElem?_eq_getElem hl)
      rw [e] at e'
      cases e'
      have h9 := World.block_lt_of_cell? w _ hi.1
      simp at h9
      omega
    have hseq : SeqSt Fence.wide 5 Try.prog 43 #[.pointer (some ⟨W2.heap.size + 1, 0, none⟩), .pointer (some ⟨W2.heap.size, 0, none⟩)] bEnc (bDt x no W3.heap.size) (bS x no W3.heap.size) mb (ln + 1) W3 := by
      have hrow : OwnInts W3 wB.heap.size (.slice oa ok oc) no := by
        have h9 := HNE.out.rowO k hkn
        rw [HNO.out, hoc] at h9
        exact h9.sameB (fun b hb => hI3.same b (h9.lt b hb).2 (by have := (h9.lt b hb).1; omega))
      have hL2 := places_keep HLV.out (Keeps.of_below hI3.bel 0)
      rw [HLN.out] at hL2
      exact backw_seq 5 (by omega) mb x no hnoa.1 hnoa.2 (HPV.out.takes k x HX.out) (W2.heap.size + 1) W2.heap.size (.slice oa ok oc) la ln lcap HLN.out W3 ((cell_of_box hbx1 0).trans rfl) hrow.at ((cell_of_box hbx0 1).trans rfl) ((cell_of_box hbx0 2).trans rfl) ((cell_of_box hbx0 3).trans rfl) ((cell_of_box hbx0 4).trans rfl) ((cell_of_box hbx0 5).trans rfl) hL2 (by omega) hnot
    clear hW3 hbx0 hbx1 B23 hHeld hK9 hI3 d0 d1 d2 d3 d4 d5 q6 q7 t0 t1 t2 t3 t4 t5
    have hgV : mb < W3.heap.size := by omega
    have hDB : Hid (∀ D ∈ Ds, D < W3.heap.size) := fun D hD => I3.out.marks.lt hD
    have hBB : w4.heap.size ≤ W3.heap.size := by omega
    have hWW : W.heap.size < W3.heap.size := by omega
    clear hsW2 hsW3
    refine wpIn_rangeFunc_st (α := Int × Value) rfl (by omega) (gf := 43) (lb := #[.pointer (some ⟨W2.heap.size + 1, 0, none⟩), .pointer (some ⟨W2.heap.size, 0, none⟩)]) rfl trivial (enters_of Try.func43 (by kernel_rfl) rfl)
      hseq (Below.refl _ _) hgV (fun _ => rfl)
      (fun pre U => CzI w w4 mb W3.heap.size (2000 * k + 80 * pre.length) Ds (Way F (Seen k pre)) U ∧ U.heap[W.heap.size]? = some (.cells #[.slice pa pn pcap, .slice la ln lcap, .int .i64 x.term.k, .int .i64 x.term.a, .int .i64 x.term.t, .int .i64 x.term.e] 58 (0, 0)))
      (fun _ _ _ => False)
      (fun pre y a' U => (CzI w w4 mb W3.heap.size (2000 * k + 80 * pre.length) Ds (Way F (Seen k pre)) U ∧ U.heap[W.heap.size]? = some (.cells #[.slice pa pn pcap, .slice la ln lcap, .int .i64 x.term.k, .int .i64 x.term.a, .int .i64 x.term.t, .int .i64 x.term.e] 58 (0, 0))) ∧ ∃ Bx, SetAt x no W3.heap.size y Bx U ∧ a' = { tmps := #[.agg #[.slice (some ⟨bb, off, none⟩) n bcap, .int .i64 V], .pointer (some ⟨w.heap.size, 0, none⟩), .map none, .pointer (some ⟨X, 0, none⟩), .pointer (some ⟨w3.heap.size, 0, none⟩), .int .i64 k, .pointer (some ⟨W.heap.size, 0, none⟩), .int .i64 y.1, .pointer (some ⟨Bx, 0, none⟩), .map (some mb), .agg #[.slice (some ⟨bb, off, none⟩) n bcap, .int .i64 V], .agg #[.slice (some ⟨gI, 0, none⟩) n n, .slice (some ⟨gO, 0, none⟩) n n], .pointer (some ⟨w.heap.size, 0, none⟩), .slice (some ⟨bb, off, none⟩) n bcap, .int .i64 n, .int .i64 k, .bool true, .int .i64 k, .pointer (some ⟨bb, off + k * 6, none⟩), .agg #[.slice pa pn pcap, .slice la ln lcap, .int .i64 x.term.k, .int .i64 x.term.a, .int .i64 x.term.t, .int .i64 x.term.e], .agg #[.slice pa pn pcap, .slice la ln lcap, .int .i64 x.term.k, .int .i64 x.term.a, .int .i64 x.term.t, .int .i64 x.term.e], .pointer (some ⟨w3.heap.size, 1, none⟩), .slice (some ⟨gO, 0, none⟩) n n, .int .i64 k, .pointer (some ⟨gO, k, none⟩), .agg #[.slice oa ok oc], .func (.func 43) #[] #[.pointer (some ⟨W2.heap.size + 1, 0, none⟩), .pointer (some ⟨W2.heap.size, 0, none⟩)], .int .i64 y.1, .agg #[y.2], undef, undef, undef, undef, undef, undef, undef, undef, undef, undef, undef, x40, undef], defers := [] })
      (fun s X Y h hbl => ⟨h.1.below hbl hBB hm4 (by omega) hDB.out, (hbl.block _ hWW).trans h.2⟩)
      (fun c => ownFrom_pure _ _)
      (fun pre y a' _ A B row h hg hr => ⟨⟨h.1.1.below (below_grown hg h.1.1.room (fun r e => (hr r e).1)) hBB hm4 (by omega) hDB.out, box_grownN h.1.2 hg (fun r e => (hr r e).2)⟩, h.2.elim fun Bx h2 => ⟨Bx, h2.1.grown hg (fun r e => (hr r e).2), h2.2⟩⟩)
      (fun ys U U' row h hg hr => ⟨h.1, h.2.elim fun y hy => ⟨y, hy.1, hy.2.grownN hg (fun r e => (hr r e).2)⟩⟩)
      ⟨I3.out.mono (by simp) (fun _ _ => Iff.rfl) (Nat.le_refl _), KB3.out⟩ ?assign ?body ?done ?stop
    case assign =>
      rintro l2 pre ⟨yi, yv⟩ U K hi hdt hK
      have HIU : Hid (CzI w w4 mb W3.heap.size (2000 * k + 80 * pre.length) Ds (Way F (Seen k pre)) U ∧ U.heap[W.heap.size]? = some (.cells #[.slice pa pn pcap, .slice la ln lcap, .int .i64 x.term.k, .int .i64 x.term.a, .int .i64 x.term.t, .int .i64 x.term.e] 58 (0, 0))) := hi
      obtain ⟨j, hj, hyj, hown⟩ := hdt
      obtain ⟨sa, sn, sc, rfl⟩ : ∃ a m c, yv = .slice a m c := ownInts_slice hown
      have HOW : Hid (OwnInts U W3.heap.size (.slice sa sn sc) (atS x no j)) := hown
      have HYJ : Hid (yi = (j : Int) ∧ j ≤ x.list.length) := ⟨hyj, hj⟩
      dsimp only [bEnc]
      clear hi hown hyj hj hseq
      gi_wp2
      exact hK _ _ ⟨⟨HIU.out.1.below (Bel.alloc' _ _ HIU.out.1.room) hBB hm4 (by omega) hDB.out, ((Bel.alloc U _).block _ (Nat.lt_of_lt_of_le hWW HIU.out.1.room)).trans HIU.out.2⟩, U.heap.size, ⟨sa, sn, sc, j, rfl, HYJ.out.1, HYJ.out.2, HOW.out.keep (Bel.alloc U _), World.alloc_heap_new U _⟩, rfl⟩ (KeepsX.below (Bel.alloc _ _))
    case body =>
      rintro l2 pre ⟨yi, yv⟩ a' U ⟨⟨hi, hkb⟩, Bx, ⟨sa, sn, sc, j, hyv, hyi, hj, hown, hbox⟩, rfl⟩ hpre
      dsimp only at hyv hyi
      subst hyv
      have HIU : Hid (CzI w w4 mb W3.heap.size (2000 * k + 80 * pre.length) Ds (Way F (Seen k pre)) U) := hi
      have HKB : Hid (U.heap[W.heap.size]? = some (.cells #[.slice pa pn pcap, .slice la ln lcap, .int .i64 x.term.k, .int .i64 x.term.a, .int .i64 x.term.t, .int .i64 x.term.e] 58 (0, 0))) := hkb
      have HOW : Hid (OwnInts U W3.heap.size (.slice sa sn sc) (atS x no j)) := hown
      have HYI : Hid (yi = (j : Int)) := hyi
      have HJ : Hid (j ≤ x.list.length) := hj
      have z0 : U.cell? ⟨X, 0, none⟩ = some (.map (some mb)) := (World.cell?_of_block (w := w4) (a := ⟨X, 0, none⟩) (hi.same X (by omega) (by omega))).trans (cell_bx X4.out).1
      have z1 : U.cell? ⟨W.heap.size, 1, none⟩ = some (.slice la ln lcap) := (cell_of_box hkb 1).trans rfl
      have z2 := (cell_bx hbox).1
      clear hi hkb hown hbox hseq hj
      by_cases hj0 : j = 0
      · have hng : ¬ (yi > 0) := by omega
        have HS0 : Hid (∀ a c, Way F (Seen k pre) a c ↔ Way F (Seen k (pre ++ [(yi, .slice sa sn sc)])) a c) := seen_zero F k pre (by show yi = 0; omega)
        clear hj0 hyi
        gi_wp2
        refine ⟨KeepsX.refl _ _ _, ?_, HKB.out⟩
        exact HIU.out.mono (by simp; omega) HS0.out HIU.out.room
      · obtain ⟨m, rfl⟩ : ∃ m, j = m + 1 := ⟨j - 1, by omega⟩
        have hml : m < ln := by have := HLN.out; have := HJ.out; omega
        have hgt : yi > 0 := by omega
        obtain ⟨p, HPP⟩ : ∃ p, Hid (x.list[m]? = some p) := ⟨x.list[m], List.getElem?_eq_getElem (by have := HLN.out; omega)⟩
        have hLU := HLV.out
        rw [HLN.out] at hLU
        obtain ⟨lb, loff, hla, i0, i1, i2, i3, i4⟩ := placeAt hLU HPP.out
        subst hla
        replace i0 := Bel.keeps HIU.out.bel i0
        replace i1 := Bel.keeps HIU.out.bel i1
        replace i2 := Bel.keeps HIU.out.bel i2
        replace i3 := Bel.keeps HIU.out.bel i3
        replace i4 := Bel.keeps HIU.out.bel i4
        have HDEF := HPV.out.defs HX.out HPP.out
        have HSN : Hid (∀ a c, Way F (Seen k (pre ++ [(yi, .slice sa sn sc)])) a c ↔ Way F (Seen k pre) a c ∨ Meets p (atS x no (m + 1)) a c) := fun a c => by
          rw [← HNO.out]
          exact seen_next pre (by show yi = _; omega) HX.out HPP.out a c
        have hsn : (atS x no (m + 1)).length = sn := HOW.out.lenV.symm
        have hN : 2000 * k + 80 * pre.length ≤ 1000000 := by omega
        obtain ⟨op, pd, pA, pB, pN⟩ := p
        dsimp only at i0 i1 i2 i3 i4 HDEF
        have HMEET : Hid (∀ U1, Below U.heap.size U U1 → Calls Try.prog 29 #[.map (some mb), .agg #[.int .i64 op, .int .i64 pd, .int .i64 pA, .int .i64 pB, .int .i64 pN], .agg #[.slice sa sn sc]] U1 fun e w' => (∃ r, e = .returned r) ∧ U1.grownBy w' (some mb) ∧ MapP w' mb (2000 * k + 80 * pre.length + 80) (fun a c => Way F (Seen k pre) a c ∨ Meets ⟨op, pd, pA, pB, pN⟩ (atS x no (m + 1)) a c)) := fun U1 hb => meet_any mb _ _ op pd pA pB pN sa sn sc _ U1 (HIU.out.map.keep hb) (HOW.out.keep hb).at hsn (atS_ok _ _ _).2 (by rw [← hsn]; exact atS_len _ _ _) (by omega) hN
        have hym : yi = (m : Int) + 1 := by omega
        have HYM : Hid (yi = (m : Int) + 1) := hym
        rw [HYM.out] at HSN ⊢
        have hmI : (m : Int) < (ln : Int) := by omega
        have hgt2 : (m : Int) + 1 > 0 := by omega
        have hwr : IntKind.i64.wrap (m : Int) = (m : Int) := IntWalk.i64_in _ (by omega)
        clear hyi hgt hj0 HYI HYM hym
        gi_wp2_with fail
        refine region_roundH (S := fun W' => W'.cell? ⟨X, 0, none⟩ = some (.map (some mb)) ∧ W'.cell? ⟨W.heap.size, 1, none⟩ = some (.slice (some ⟨lb, loff, none⟩) ln lcap) ∧ W'.cell? ⟨lb, loff + m * 5, none⟩ = some (.int .i64 op) ∧ W'.cell? ⟨lb, loff + m * 5 + 1, none⟩ = some (.int .i64 pd) ∧ W'.cell? ⟨lb, loff + m * 5 + 2, none⟩ = some (.int .i64 pA) ∧ W'.cell? ⟨lb, loff + m * 5 + 3, none⟩ = some (.int .i64 pB) ∧ W'.cell? ⟨lb, loff + m * 5 + 4, none⟩ = some (.int .i64 pN) ∧ W'.cell? ⟨Bx, 0, none⟩ = some (.slice sa sn sc)) (by kernel_rfl) (by kernel_rfl) ⟨z0, z1, i0, i1, i2, i3, i4, z2⟩ (fun hHeld => ?_)
        refine wpAnyH_take (i := 0) (oi := { dst := some 31, op := Go.Op.load 42 (Go.Operand.tmp 3), type := 42, pos := "l12_clash.go:41", after := #[], guard := none }) (v := ?_) rfl (by kernel_rfl) (by kernel_rfl) (by kernel_rfl) (fun _ _ _ h => h) (Or.inl ⟨by rfl, ?_⟩) (by assumption) ?_
        rotate_left
        · intro w hSw
          (try dsimp only at hSw)
          go_simp
          (try with_reducible rfl)
        try simp only [Act.put, List.setIfInBounds_toArray, List.set_cons_zero, List.set_cons_succ]
        refine wpAnyH_take (i := 1) (oi := { dst := some 32, op := Go.Op.fieldAddr 58 (Go.Operand.tmp 6) 1, type := 0, pos := "l12_clash.go:41", after := #[], guard := none }) (v := ?_) rfl (by kernel_rfl) (by kernel_rfl) (by kernel_rfl) (fun _ _ _ h => h) (Or.inl ⟨by rfl, ?_⟩) (by assumption) ?_
        rotate_left
        · intro w hSw
          (try dsimp only at hSw)
          go_simp
          (try with_reducible rfl)
        try simp only [Act.put, List.setIfInBounds_toArray, List.set_cons_zero, List.set_cons_succ]
        refine wpAnyH_take (i := 2) (oi := { dst := some 33, op := Go.Op.load 55 (Go.Operand.tmp 32), type := 55, pos := "l12_clash.go:41", after := #[{ on := 1, ground := Go.Ground.data }], guard := none }) (v := ?_) rfl (by kernel_rfl) (by kernel_rfl) (by kernel_rfl) (fun _ _ _ h => h) (Or.inl ⟨by rfl, ?_⟩) (by assumption) ?_
        rotate_left
        · intro w hSw
          (try dsimp only at hSw)
          go_simp
          (try with_reducible rfl)
        try simp only [Act.put, List.setIfInBounds_toArray, List.set_cons_zero, List.set_cons_succ]
        refine wpAnyH_take (i := 3) (oi := { dst := some 34, op := Go.Op.move (Go.Operand.tmp 7), type := 3, pos := "l12_clash.go:41", after := #[], guard := none }) (v := ?_) rfl (by kernel_rfl) (by kernel_rfl) (by kernel_rfl) (fun _ _ _ h => h) (Or.inl ⟨by rfl, ?_⟩) (by assumption) ?_
        rotate_left
        · intro w hSw
          (try dsimp only at hSw)
          go_simp
          (try with_reducible rfl)
        try simp only [Act.put, List.setIfInBounds_toArray, List.set_cons_zero, List.set_cons_succ]
        refine wpAnyH_take (i := 4) (oi := { dst := some 35, op := Go.Op.binOp Go.BinOp.sub 3 (Go.Operand.tmp 34) (Go.Operand.const (Go.Value.int Go.IntKind.i64 1)) 3, type := 3, pos := "l12_clash.go:41", after := #[{ on := 3, ground := Go.Ground.data }], guard := none }) (v := ?_) rfl (by kernel_rfl) (by kernel_rfl) (by kernel_rfl) (fun _ _ _ h => h) (Or.inl ⟨by rfl, ?_⟩) (by assumption) ?_
        rotate_left
        · intro w hSw
          (try dsimp only at hSw)
          go_simp
          (try with_reducible rfl)
        try simp only [Act.put, List.setIfInBounds_toArray, List.set_cons_zero, List.set_cons_succ]
        refine wpAnyH_take (i := 5) (oi := { dst := some 36, op := Go.Op.indexAddr 55 (Go.Operand.tmp 33) (Go.Operand.tmp 35), type := 0, pos := "l12_clash.go:41", after := #[{ on := 2, ground := Go.Ground.data }, { on := 4, ground := Go.Ground.data }], guard := none }) (v := ?_) rfl (by kernel_rfl) (by kernel_rfl) (by kernel_rfl) (fun _ _ _ h => h) (Or.inl ⟨by rfl, ?_⟩) (by assumption) ?_
        rotate_left
        · intro w hSw
          (try dsimp only at hSw)
          go_simp
          (try with_reducible rfl)
        try simp only [Act.put, List.setIfInBounds_toArray, List.set_cons_zero, List.set_cons_succ]
        refine wpAnyH_take (i := 6) (oi := { dst := some 37, op := Go.Op.load 60 (Go.Operand.tmp 36), type := 60, pos := "l12_clash.go:41", after := #[{ on := 5, ground := Go.Ground.data }], guard := none }) (v := ?_) rfl (by kernel_rfl) (by kernel_rfl) (by kernel_rfl) (fun _ _ _ h => h) (Or.inl ⟨by rfl, ?_⟩) (by assumption) ?_
        rotate_left
        · intro w hSw
          (try dsimp only at hSw)
          go_simp
          (try with_reducible rfl)
        try simp only [Act.put, List.setIfInBounds_toArray, List.set_cons_zero, List.set_cons_succ]
        refine wpAnyH_take (i := 7) (oi := { dst := some 38, op := Go.Op.load 74 (Go.Operand.tmp 8), type := 74, pos := "l12_clash.go:41", after := #[], guard := none }) (v := ?_) rfl (by kernel_rfl) (by kernel_rfl) (by kernel_rfl) (fun _ _ _ h => h) (Or.inl ⟨by rfl, ?_⟩) (by assumption) ?_
        rotate_left
        · intro w hSw
          (try dsimp only at hSw)
          go_simp
          (try with_reducible rfl)
        try simp only [Act.put, List.setIfInBounds_toArray, List.set_cons_zero, List.set_cons_succ]
        refine ckAnyH_oneK (i := 8) (o := { dst := some 39, op := Go.Op.call { callee := Go.Callee.value (Go.Operand.func 29), args := #[Go.Operand.tmp 31, Go.Operand.tmp 37, Go.Operand.tmp 38], argTypes := #[42, 60, 74] }, type := 0, pos := "l12_clash.go:41", after := #[{ on := 0, ground := Go.Ground.data }, { on := 6, ground := Go.Ground.data }, { on := 7, ground := Go.Ground.data }], guard := none }) rfl rfl (by kernel_rfl) (fun K9 hK9 => ?_)
        refine wp_call_of (f := 29) (args := #[.map (some mb), .agg #[.int .i64 op, .int .i64 pd, .int .i64 pA, .int .i64 pB, .int .i64 pN], .agg #[.slice sa sn sc]]) (runCallC3 rfl (by kernel_rfl) (by kernel_rfl) (by kernel_rfl) (enters_of Try.func29 (by kernel_rfl) rfl) _) (HMEET.out U.drew ((Below.refl _ U).drew)) ?_
        rintro e U2 ⟨⟨r, rfl⟩, hg, hmp⟩
        have hmap := HIU.out.map.isMap
        have hg2 : U.grownBy U2 (some mb) := grownM (grownOf ((Below.refl _ U).drew) _) hg
        refine ⟨_, rfl, hK9 _ _ ⟨⟨cell_offMap hmap hg2 z0, cell_offMap hmap hg2 z1, cell_offMap hmap hg2 i0, cell_offMap hmap hg2 i1, cell_offMap hmap hg2 i2, cell_offMap hmap hg2 i3, cell_offMap hmap hg2 i4, cell_offMap hmap hg2 z2⟩, ?_⟩⟩
        refine wpAnyH_done (by kernel_rfl) ?_ _
        refine ⟨KeepsX.grownM hg2, (HIU.out.grown hg2 hmp hm4 (by omega)).mono (by simp; omega) (fun a c => (HSN.out a c).symm) (Nat.le_trans HIU.out.room hg2.size), (hg2.block _ (Nat.lt_of_lt_of_le hWW HIU.out.room) (by simp; omega)).trans HKB.out⟩
    case done =>
      rintro D ys U hD ⟨hS1, _⟩ hi hK
      have HLY := lens_len hS1
      have HW2 : Hid (∀ a c, Way F (Seen k ys) a c ↔ Way F (UpTo (k + 1) 0) a c) := seen_all HX.out hS1
      have HIU : Hid (CzI w w4 mb 0 (2000 * (k + 1)) (D :: Ds) (Way F (UpTo (k + 1) 0)) U) := ⟨hi.1.map.mono (by have := HLN.out; omega) HW2.out, hi.1.same, hi.1.bel, hi.1.size, ⟨List.nodup_cons.2 ⟨fun hm => by have := hDB.out D hm; omega, hi.1.marks.nd⟩, fun E hE => by
        rcases List.mem_cons.1 hE with rfl | hE
        · exact ⟨by omega, hK⟩
        · exact hi.1.marks.each E hE⟩, Nat.zero_le _⟩
      clear hi hK hS1 hseq
      gi_wp2
      refine ⟨⟨k + 1, D :: Ds, _, _, _, _, _, _, _, _, _, _, _, _, _, _, by omega, rfl, HIU.out⟩, ?_⟩
      simp [intOf, Act.eval]
      omega
    case stop =>
      rintro D cc pre U _ h _
      exact h.elim
  · have ekn : n = k := by omega
    subst ekn
    gi_wp2
    refine leaves_marks (lo := w4.heap.size) Ds _ HI.out.marks (fun w' hb hk2 => ?_) hsW
    refine ⟨_, results_tmp rfl _ _ _, mb, 2000 * n, rfl, (HI.out.map.same (hk2 mb hm4)).mono (Nat.le_refl _) (way_all HN.out), HI.out.bel.trans (hb.mono (by omega))⟩
end Go.Proofs.Ytjfogpbhacadbaa
