/- What is needed where a block ends is brought up to where it begins: the program's gather, by its contract. -/
import Derived.Test.YtjfogpbhacadbaaLNeedsK
import Derived.Test.YtjfogpbhacadbaaLRegInK
import Derived.Test.YtjfogpbhacadbaaKPlain
import Derived.Test.YtjfogpbhacadbaaKLast
import Derived.Test.YtjfogpbhacadbaaCmOneK
namespace Go.Proofs.Ytjfogpbhacadbaa
open Go.ChangeShapes Go.WideShapes Go.ChangeAt Go.RowKit Go.Shelf
set_option linter.unusedVariables false
attribute [local go_sem] Oper.semAt_some

theorem updL_twice (f : Nat → List Int) (b : Nat) (l m : List Int) : updL (updL f b l) b m = updL f b m := by
  funext i
  unfold updL
  split <;> rfl
def flatIns (ins : Nat → List Int) (l : List Int) : List Int := l.flatMap (fun s => ins s.toNat)
def GivesGather (w0 w : World) (gI gO n b : Nat) (ins outs : Nat → List Int) (no ni : List Int) (e : Ending) (w' : World) : Prop :=
  ∃ us' vs', e = .returned (.bool (decide ((ins b).length < ni.length))) ∧ NeedsAt w' w0.heap.size gI gO n us' vs' (updL ins b ni) (updL outs b no) ∧ Below w0.heap.size w w' ∧ (∀ (k : Nat) (c : Array Value) (t : TypeId) (z : Nat × Nat), w.heap[k]? = some (.cells c t z) → t ≠ 3 → k ≠ gI → k ≠ gO → w'.heap[k]? = some (.cells c t z))
/-- Between two of the blocks that follow. -/
def GI (w0 w : World) (gI gO n b N0 : Nat) (us : Array Value) (ins outs : Nat → List Int) (ba : Option Addr) (bcap : Nat) (vals : Int) (pre : List Int) (W : World) : Prop :=
  ∃ vs', NeedsAt W w0.heap.size gI gO n us vs' ins (updL outs b (norm80 (outs b ++ flatIns ins pre))) ∧ Below w0.heap.size w W ∧ N0 + 4 ≤ W.heap.size ∧ (∀ k, (vs'.getD b nilV).ownBlock = some k → k < N0 ∨ N0 + 4 ≤ k) ∧
    W.heap[N0]? = some (.cells #[.slice (some ⟨gI, 0, none⟩) n n, .slice (some ⟨gO, 0, none⟩) n n] 67 (0, 0)) ∧ W.heap[N0 + 1]? = some (.cells #[.slice ba n bcap, .int .i64 vals] 29 (0, 0)) ∧ W.heap[N0 + 2]? = some (.cells #[.int .i64 b] 3 (0, 0)) ∧ (∀ (k : Nat) (c : Array Value) (t : TypeId) (z : Nat × Nat), w.heap[k]? = some (.cells c t z) → t ≠ 3 → k ≠ gI → k ≠ gO → W.heap[k]? = some (.cells c t z))
theorem GI.own {w0 w : World} {gI gO n b N0 : Nat} {us : Array Value} {ins outs : Nat → List Int} {ba : Option Addr} {bcap : Nat} {vals : Int} {α : Type} (f : List α → List Int) {C : Nat} (hC : w0.heap.size ≤ C) : OwnFrom C (fun (pre : List α) W => GI w0 w gI gO n b N0 us ins outs ba bcap vals (f pre) W) := fun pre V V' row h hg hr => by
  obtain ⟨vs', h1, h2, h3, h7, h4, h5, h6, h8⟩ := h
  have hr' : ∀ r, row = some r → ∃ o : Obj, V.heap[r]? = some o ∧ o.isCells = false := fun r e => (hr r e).2
  exact ⟨vs', h1.grownN hg hr', h2.trans (below_grown hg (by have := h1.ltI; have := h1.lowI; omega) (fun r e => by have := (hr r e).1; omega)), Nat.le_trans h3 hg.size, h7, box_grownN h4 hg hr', box_grownN h5 hg hr', box_grownN h6 hg hr', fun k c t z a1 a2 a3 a4 => box_grownN (h8 k c t z a1 a2 a3 a4) hg hr'⟩

theorem cell_of_box {w : World} {b : Nat} {c : Array Value} {t : TypeId} {z : Nat × Nat} (h : w.heap[b]? = some (.cells c t z)) (i : Nat) : w.cell? ⟨b, i, none⟩ = c[i]? := by simp [World.cell?, h]
def lastH (u : Value) (pre : List (Int × Value)) : Value := ((pre.getLast?).map (fun y => y.2)).getD u
theorem lastH_last (u : Value) {pre : List (Int × Value)} {y : Int × Value} (h : pre.getLast? = some y) : lastH u pre = y.2 := by simp [lastH, h]
/-- Nothing has turned but one set of block g. -/
structure GX (g b : Nat) (us : Array Value) (w : World) (pre : List (Int × Value)) (U : World) : Prop where
  same : ∀ k, k < w.heap.size → k ≠ g → U.heap[k]? = w.heap[k]?
  os : U.os = w.os
  tape : U.tape = w.tape
  output : U.output = w.output
  size : w.heap.size ≤ U.heap.size
  box : U.heap[g]? = some (.cells (us.setIfInBounds b (lastH (us.getD b nilV) pre)) 74 (0, 0))
theorem GX.below {g b : Nat} {us : Array Value} {w : World} {pre : List (Int × Value)} {X Y : World} (h : GX g b us w pre X) (hb : Below w.heap.size X Y) (hg : g < w.heap.size) : GX g b us w pre Y :=
  ⟨fun k hk hne => (hb.block k hk).trans (h.same k hk hne), hb.os.trans h.os, hb.tape.trans h.tape, hb.output.trans h.output, Nat.le_trans h.size hb.size, (hb.block g hg).trans h.box⟩
theorem GX.put {g b : Nat} {us : Array Value} {w : World} {pre : List (Int × Value)} {X : World} (h : GX g b us w pre X) (hb : b < us.size) (hg : g < w.heap.size) (y : Int × Value) : GX g b us w (pre ++ [y]) (X.setCell ⟨g, b, none⟩ y.2) := by
  have hsz : (X.setCell ⟨g, b, none⟩ y.2).heap.size = X.heap.size := by show (X.heap.modify _ _).size = _; simp
  refine ⟨fun k hk hne => (Below.heap_setCell _ _ _ k (by intro e; exact hne e)).trans (h.same k hk hne), h.os, h.tape, h.output, by rw [hsz]; exact h.size, ?_⟩
  have h2 := h.box
  obtain ⟨hl, hk⟩ := Array.getElem?_eq_some_iff.1 h2
  show (X.heap.modify g _)[g]? = _
  rw [Array.getElem?_eq_getElem (by rw [Array.size_modify]; exact hl), Array.getElem_modify_self, hk, lastH_last _ (by simp : (pre ++ [y]).getLast? = some y)]
  show some (Obj.cells ((us.setIfInBounds b _).setIfInBounds b y.2) _ _) = _
  simp
theorem Bel.alloc' {B : Nat} (w : World) (o : Obj) (h : B ≤ w.heap.size) : Below B w (w.alloc o) := (Below.refl B w).alloc h _

set_option maxRecDepth 100000 in
set_option maxHeartbeats 8000000 in
theorem gather_any (w0 : World) (v : Value) (F : FnD) (hF : FnAt w0 v F) (n : Nat) (hn : F.blocks.length = n) (hT : ∀ (j : Nat) x, F.blocks[j]? = some x → Takes80 x) (hsu : ∀ (j : Nat), ∀ s ∈ succsN F j, 0 ≤ s ∧ s < n) (gI gO : Nat) (us vs : Array Value) (ins outs : Nat → List Int) (b : Nat) (hb : b < n) (w : World) (hw : Below w0.heap.size w0 w)
    (hN : NeedsAt w w0.heap.size gI gO n us vs ins outs) (hi1 : ∀ i, Asc (ins i) ∧ In80 (ins i)) (ho1 : ∀ i, Asc (outs i) ∧ In80 (outs i)) (x : BlockD) (hx : F.blocks[b]? = some x) :
    Calls Try.prog 42 #[.agg #[.slice (some ⟨gI, 0, none⟩) n n, .slice (some ⟨gO, 0, none⟩) n n], v, .int .i64 b] w fun e w' =>
      GivesGather w0 w gI gO n b ins outs (norm80 (outs b ++ flatIns ins (succsN F b))) (atS x (norm80 (outs b ++ flatIns ins (succsN F b))) 0) e w' := by
  have HF : Hid (FnAt w0 v F) := hF
  have HN : Hid (F.blocks.length = n) := hn
  obtain ⟨vals, HV⟩ : ∃ x, Hid (F.values = x) := ⟨_, rfl⟩
  obtain ⟨ba, bcap, rfl⟩ := hF.out HN.out HV.out
  have hmost : n ≤ 9223372036854775807 := by rw [← HN.out]; exact hF.most
  have HT : Hid (Takes80 x) := hT b x hx
  have HSU : Hid (∀ s ∈ succsN F b, 0 ≤ s ∧ s < n) := hsu b
  have HX : Hid (F.blocks[b]? = some x) := hx
  have HW : Hid (Below w0.heap.size w0 w) := hw
  have HNE : Hid (NeedsAt w w0.heap.size gI gO n us vs ins outs) := hN
  have HI1 : Hid (∀ i, Asc (ins i) ∧ In80 (ins i)) := hi1
  have HO1 : Hid (∀ i, Asc (outs i) ∧ In80 (outs i)) := ho1
  have hlo := hw.size
  have hgI := hN.ltI
  have hgO := hN.ltO
  have hbn : (b : Int) < (n : Int) := by omega
  obtain ⟨kb, HKB⟩ : ∃ k, Hid ((ins b).length = k) := ⟨_, rfl⟩
  obtain ⟨ia, ic, hib⟩ : ∃ a c, us.getD b nilV = .slice a kb c := by
    rcases (hN.rowI b hb).shape with ⟨e, e2⟩ | ⟨g, cap, e⟩
    · exact ⟨none, 0, by rw [e, ← HKB.out, e2]; rfl⟩
    · exact ⟨_, _, by rw [e, HKB.out]⟩
  obtain ⟨cI, _⟩ := hN.cellI hb
  rw [hib] at cI
  obtain ⟨bb, off, hba, pv, lv, c0, c1, c2, c3, c4, c5, hpv, hlv⟩ := FnAt.blockC (hF.later hw) HN.out hb hx
  subst hba
  obtain ⟨wA, hwA⟩ : ∃ wA, ((w.alloc (.cells #[.slice (some ⟨gI, 0, none⟩) n n, .slice (some ⟨gO, 0, none⟩) n n] 67)).alloc (.cells #[.slice (some ⟨bb, off, none⟩) n bcap, .int .i64 vals] 29)).alloc (.cells #[.int .i64 b] 3) = wA := ⟨_, rfl⟩
  have BA : Hid (Below w.heap.size w wA) := by rw [← hwA]; repeat (first | exact Below.refl _ _ | apply Below.drew | refine Below.alloc ?_ (by simp <;> omega) _ | refine Below.setCell ?_ (by simp <;> omega) _)
  have hsA : wA.heap.size = w.heap.size + 3 := by rw [← hwA]; simp
  have x0 : wA.heap[w.heap.size]? = some (.cells #[.slice (some ⟨gI, 0, none⟩) n n, .slice (some ⟨gO, 0, none⟩) n n] 67 (0, 0)) := by
    rw [← hwA, Below.heap_alloc _ _ _ (by simp <;> omega), Below.heap_alloc _ _ _ (by simp)]; exact World.alloc_heap_new w _
  have x1 : wA.heap[w.heap.size + 1]? = some (.cells #[.slice (some ⟨bb, off, none⟩) n bcap, .int .i64 vals] 29 (0, 0)) := by
    rw [← hwA, Below.heap_alloc _ _ _ (by simp)]
    have := World.alloc_heap_new (w.alloc (.cells #[.slice (some ⟨gI, 0, none⟩) n n, .slice (some ⟨gO, 0, none⟩) n n] 67)) (.cells #[.slice (some ⟨bb, off, none⟩) n bcap, .int .i64 vals] 29)
    rwa [World.size_alloc] at this
  have x2 : wA.heap[w.heap.size + 2]? = some (.cells #[.int .i64 b] 3 (0, 0)) := by
    rw [← hwA]
    have := World.alloc_heap_new ((w.alloc (.cells #[.slice (some ⟨gI, 0, none⟩) n n, .slice (some ⟨gO, 0, none⟩) n n] 67)).alloc (.cells #[.slice (some ⟨bb, off, none⟩) n bcap, .int .i64 vals] 29)) (.cells #[.int .i64 b] 3)
    rwa [World.size_alloc, World.size_alloc] at this
  have y0 : wA.cell? ⟨w.heap.size, 0, none⟩ = some (.slice (some ⟨gI, 0, none⟩) n n) := by simp [World.cell?, x0]
  have y2 : wA.cell? ⟨w.heap.size + 1, 0, none⟩ = some (.slice (some ⟨bb, off, none⟩) n bcap) := by simp [World.cell?, x1]
  have y3 : wA.cell? ⟨w.heap.size + 2, 0, none⟩ = some (.int .i64 b) := by simp [World.cell?, x2]
  replace cI := Bel.keeps BA.out cI
  have C2 := Bel.keeps BA.out c2
  have C3 := Bel.keeps BA.out c3
  have C4 := Bel.keeps BA.out c4
  have C5 := Bel.keeps BA.out c5
  have X0 : Hid (wA.heap[w.heap.size]? = some (.cells #[.slice (some ⟨gI, 0, none⟩) n n, .slice (some ⟨gO, 0, none⟩) n n] 67 (0, 0))) := x0
  have X1 : Hid (wA.heap[w.heap.size + 1]? = some (.cells #[.slice (some ⟨bb, off, none⟩) n bcap, .int .i64 vals] 29 (0, 0))) := x1
  have X2 : Hid (wA.heap[w.heap.size + 2]? = some (.cells #[.int .i64 b] 3 (0, 0))) := x2
  have HPV : Hid (ListAt 0 2 (PhiAt 0) w pv x.phis) := hpv
  have HLV : Hid (ListAt 0 5 InsAt w lv x.list) := hlv
  clear hF hn hT hsu hw hN hi1 ho1 hx x0 x1 x2 hpv hlv
  refine (callsIn_wide (n := 6)).1 ?_
  refine callsIn_of_wp_marks Try.func42 rfl trivial ?_ rfl
  simp only [Try.ntmps42, List.size_toArray, List.length_cons, List.length_nil, Nat.reduceAdd, Nat.reduceSub, Array.replicate_succ, Array.replicate_zero, List.push_toArray, List.append_toArray, List.nil_append, List.cons_append]
  gi_wp2_with (refine ⟨trivial, ?_⟩; gi_at_call 66; refine (callsIn_wide.2 (followers_any _ _ _ _ _)).mono ?_; rintro e w' ⟨rfl, rfl⟩)
  obtain ⟨W0, hW0⟩ : ∃ W0, wA.alloc (.cells #[.int .i64 x.term.k, .int .i64 x.term.a, .int .i64 x.term.t, .int .i64 x.term.e] 56) = W0 := ⟨_, rfl⟩
  have B0 : Hid (Below wA.heap.size wA W0) := by rw [← hW0]; exact Bel.alloc _ _
  have hs0 : W0.heap.size = w.heap.size + 4 := by rw [← hW0]; simp; omega
  have hTb : EndBox W0 (w.heap.size + 3) x.term.k x.term.a x.term.t x.term.e := by rw [← hW0, ← hsA]; exact EndBox.new _ _ _ _ _
  have hsv : succsN F b = succsV x.term.k x.term.t x.term.e := succsN_at HX.out
  have hI0 : GI w0 w gI gO n b w.heap.size us ins outs (some ⟨bb, off, none⟩) bcap vals [] W0 := by
    refine ⟨vs, ?_, (BA.out.mono hlo).trans (B0.out.mono (by omega)), by omega, fun k hk => .inl (HNE.out.lt false hb hk).2, (B0.out.block _ (by omega)).trans X0.out, (B0.out.block _ (by omega)).trans X1.out, (B0.out.block _ (by omega)).trans X2.out, fun k c t z a1 _ _ _ => by have hk := (Array.getElem?_eq_some_iff.1 a1).1; exact (B0.out.block k (by omega)).trans ((BA.out.block k hk).trans a1)⟩
    have e : updL outs b (norm80 (outs b ++ flatIns ins [])) = outs := by
      have : norm80 (outs b ++ flatIns ins []) = outs b := by rw [show flatIns ins [] = [] from rfl, List.append_nil]; exact (norm_eq (HO1.out b).1 (HO1.out b).2 (fun _ => Iff.rfl)).symm
      rw [this, updL_self]
    rw [e]
    exact (HNE.out.keep BA.out).keep B0.out
  rw [hW0]
  clear hW0
  have hown : OwnFrom W0.heap.size (fun (pre : List {z : Int // 0 ≤ z ∧ z < n}) W => GI w0 w gI gO n b w.heap.size us ins outs (some ⟨bb, off, none⟩) bcap vals (pre.map (fun z => z.1)) W) := GI.own _ (by omega)
  refine wpIn_rangeFunc_box (α := {z : Int // 0 ≤ z ∧ z < n}) rfl (by omega) (gf := 83) (lb := #[.pointer (some ⟨w.heap.size + 3, 0, none⟩)]) rfl trivial (enters_of Try.func83 (by kernel_rfl) rfl)
    (followers_stops (fun z => 0 ≤ z ∧ z < n) 5 (by omega) (w.heap.size + 3) x.term.k x.term.a x.term.t x.term.e (fun z hz => HSU.out z (by rw [hsv]; exact hz)) W0 (by omega) hTb) keepsB_t (keepsB_b (by omega)) (Below.refl _ _) (fun _ => rfl)
    (fun pre W => GI w0 w gI gO n b w.heap.size us ins outs (some ⟨bb, off, none⟩) bcap vals (pre.map (fun z => z.1)) W)
    (fun _ _ _ => False)
    (fun pre y a' W => GI w0 w gI gO n b w.heap.size us ins outs (some ⟨bb, off, none⟩) bcap vals (pre.map (fun z => z.1)) W ∧ a' = { tmps := #[.agg #[.slice (some ⟨gI, 0, none⟩) n n, .slice (some ⟨gO, 0, none⟩) n n], .agg #[.slice (some ⟨bb, off, none⟩) n bcap, .int .i64 vals], .int .i64 b, .pointer (some ⟨w.heap.size, 0, none⟩), .pointer (some ⟨w.heap.size + 1, 0, none⟩), .pointer (some ⟨w.heap.size + 1 + 1, 0, none⟩), .bool false, .int .i64 kb, .int .i64 y.1, undef, undef, .pointer (some ⟨w.heap.size, 0, none⟩), .slice (some ⟨gI, 0, none⟩) n n, .int .i64 b, .pointer (some ⟨gI, b, none⟩), .pointer (some ⟨gI, b, none⟩), .slice ia kb ic, .int .i64 kb, .pointer (some ⟨w.heap.size + 1, 0, none⟩), .slice (some ⟨bb, off, none⟩) n bcap, .int .i64 b, .pointer (some ⟨bb, off + b * 6, none⟩), .pointer (some ⟨bb, off + b * 6 + 2, none⟩), .agg #[.int .i64 x.term.k, .int .i64 x.term.a, .int .i64 x.term.t, .int .i64 x.term.e], .func (.func 83) #[] #[.pointer (some ⟨w.heap.size + 3, 0, none⟩)], .int .i64 y.1, undef, undef, undef, undef, undef, undef, undef, undef, undef, undef, undef, undef, undef, undef, undef, undef, undef, undef, undef, undef, undef, undef, undef, undef, undef, undef, undef, undef, undef, undef, undef, undef, undef, undef, undef, undef, undef, undef], defers := [] })
    hown (fun c => ownFrom_pure _ _) (fun pre y a' _ V V' row h hg hr => ⟨hown pre V V' row h.1 hg hr, h.2⟩) hI0 ?assign ?body ?done ?stop
  case assign =>
    intro l2 pre y V K hi hK
    gi_wp2
    exact hK _ _ ⟨hi, rfl⟩ (KeepsFrom.refl _ _) rfl
  case body =>
    rintro l2 pre ⟨y, hy0, hy1⟩ a' V ⟨⟨vs', hNV, hBV, hsz, hnum, z0, z1, z2, z3⟩, rfl⟩ _
    obtain ⟨s, rfl⟩ : ∃ s : Nat, y = (s : Int) := ⟨y.toNat, by omega⟩
    have hsn : s < n := by omega
    have q0 : V.cell? ⟨w.heap.size, 0, none⟩ = some (.slice (some ⟨gI, 0, none⟩) n n) := by simp [World.cell?, z0]
    have q1 : V.cell? ⟨w.heap.size, 1, none⟩ = some (.slice (some ⟨gO, 0, none⟩) n n) := by simp [World.cell?, z0]
    have q2 : V.cell? ⟨w.heap.size + 1 + 1, 0, none⟩ = some (.int .i64 b) := by simp [World.cell?, z2]
    obtain ⟨q3, _⟩ := hNV.cellI hsn
    have NV : Hid (NeedsAt V w0.heap.size gI gO n us vs' ins (updL outs b (norm80 (outs b ++ flatIns ins (pre.map (fun z => z.1)))))) := hNV
    have BV : Hid (Below w0.heap.size w V) := hBV
    have NUM : Hid (∀ k, (vs'.getD b nilV).ownBlock = some k → k < w.heap.size ∨ w.heap.size + 4 ≤ k) := hnum
    have Z0 : Hid (V.heap[w.heap.size]? = some (.cells #[.slice (some ⟨gI, 0, none⟩) n n, .slice (some ⟨gO, 0, none⟩) n n] 67 (0, 0))) := z0
    have Z1 : Hid (V.heap[w.heap.size + 1]? = some (.cells #[.slice (some ⟨bb, off, none⟩) n bcap, .int .i64 vals] 29 (0, 0))) := z1
    have Z2 : Hid (V.heap[w.heap.size + 2]? = some (.cells #[.int .i64 b] 3 (0, 0))) := z2
    obtain ⟨sa, sn, sc, hsh⟩ : ∃ a k c, us.getD s nilV = .slice a k c := by
      rcases (hNV.rowI s hsn).shape with ⟨e, _⟩ | ⟨g, cap, e⟩
      · exact ⟨_, _, _, e⟩
      · exact ⟨_, _, _, e⟩
    rw [hsh] at q3
    have Z3 : Hid (∀ (k : Nat) (c : Array Value) (t : TypeId) (z : Nat × Nat), w.heap[k]? = some (.cells c t z) → t ≠ 3 → k ≠ gI → k ≠ gO → V.heap[k]? = some (.cells c t z)) := z3
    clear hNV hBV hnum z0 z1 z2 z3
    dsimp only
    gi_wp2
    refine region_roundH (S := fun W' => W'.cell? ⟨w.heap.size, 0, none⟩ = some (.slice (some ⟨gI, 0, none⟩) n n) ∧ W'.cell? ⟨w.heap.size, 1, none⟩ = some (.slice (some ⟨gO, 0, none⟩) n n) ∧ W'.cell? ⟨w.heap.size + 1 + 1, 0, none⟩ = some (.int .i64 b) ∧ W'.cell? ⟨gI, s, none⟩ = some (.slice sa sn sc)) (by kernel_rfl) (by kernel_rfl) ⟨q0, q1, q2, q3⟩ (fun hHeld => ?_)
    have hsI : (s : Int) < (n : Int) := by omega
    refine wpAnyH_take (i := 0) (oi := { dst := some 26, op := Go.Op.fieldAddr 67 (Go.Operand.tmp 3) 1, type := 0, pos := "l11_live.go:80", after := #[], guard := none }) (v := ?_) rfl (by kernel_rfl) (by kernel_rfl) (by kernel_rfl) (fun _ _ _ h => h) (Or.inl ⟨by rfl, ?_⟩) (by assumption) ?_
    rotate_left
    · intro w hSw
      (try dsimp only at hSw)
      go_simp
      (try with_reducible rfl)
    try simp only [Act.put, List.setIfInBounds_toArray, List.set_cons_zero, List.set_cons_succ]
    refine wpAnyH_take (i := 1) (oi := { dst := some 27, op := Go.Op.load 65 (Go.Operand.tmp 26), type := 65, pos := "l11_live.go:80", after := #[{ on := 0, ground := Go.Ground.data }], guard := none }) (v := ?_) rfl (by kernel_rfl) (by kernel_rfl) (by kernel_rfl) (fun _ _ _ h => h) (Or.inl ⟨by rfl, ?_⟩) (by assumption) ?_
    rotate_left
    · intro w hSw
      (try dsimp only at hSw)
      go_simp
      (try with_reducible rfl)
    try simp only [Act.put, List.setIfInBounds_toArray, List.set_cons_zero, List.set_cons_succ]
    refine wpAnyH_take (i := 2) (oi := { dst := some 28, op := Go.Op.load 3 (Go.Operand.tmp 5), type := 3, pos := "l11_live.go:80", after := #[], guard := none }) (v := ?_) rfl (by kernel_rfl) (by kernel_rfl) (by kernel_rfl) (fun _ _ _ h => h) (Or.inl ⟨by rfl, ?_⟩) (by assumption) ?_
    rotate_left
    · intro w hSw
      (try dsimp only at hSw)
      go_simp
      (try with_reducible rfl)
    try simp only [Act.put, List.setIfInBounds_toArray, List.set_cons_zero, List.set_cons_succ]
    refine wpAnyH_take (i := 3) (oi := { dst := some 29, op := Go.Op.indexAddr 65 (Go.Operand.tmp 27) (Go.Operand.tmp 28), type := 0, pos := "l11_live.go:80", after := #[{ on := 1, ground := Go.Ground.data }, { on := 2, ground := Go.Ground.data }], guard := none }) (v := ?_) rfl (by kernel_rfl) (by kernel_rfl) (by kernel_rfl) (fun _ _ _ h => h) (Or.inl ⟨by rfl, ?_⟩) (by assumption) ?_
    rotate_left
    · intro w hSw
      (try dsimp only at hSw)
      go_simp
      (try with_reducible rfl)
    try simp only [Act.put, List.setIfInBounds_toArray, List.set_cons_zero, List.set_cons_succ]
    refine wpAnyH_take (i := 4) (oi := { dst := some 30, op := Go.Op.fieldAddr 67 (Go.Operand.tmp 3) 0, type := 0, pos := "l11_live.go:80", after := #[], guard := none }) (v := ?_) rfl (by kernel_rfl) (by kernel_rfl) (by kernel_rfl) (fun _ _ _ h => h) (Or.inl ⟨by rfl, ?_⟩) (by assumption) ?_
    rotate_left
    · intro w hSw
      (try dsimp only at hSw)
      go_simp
      (try with_reducible rfl)
    try simp only [Act.put, List.setIfInBounds_toArray, List.set_cons_zero, List.set_cons_succ]
    refine wpAnyH_take (i := 5) (oi := { dst := some 31, op := Go.Op.load 65 (Go.Operand.tmp 30), type := 65, pos := "l11_live.go:80", after := #[{ on := 4, ground := Go.Ground.data }], guard := none }) (v := ?_) rfl (by kernel_rfl) (by kernel_rfl) (by kernel_rfl) (fun _ _ _ h => h) (Or.inl ⟨by rfl, ?_⟩) (by assumption) ?_
    rotate_left
    · intro w hSw
      (try dsimp only at hSw)
      go_simp
      (try with_reducible rfl)
    try simp only [Act.put, List.setIfInBounds_toArray, List.set_cons_zero, List.set_cons_succ]
    refine wpAnyH_take (i := 6) (oi := { dst := some 32, op := Go.Op.move (Go.Operand.tmp 8), type := 3, pos := "l11_live.go:80", after := #[], guard := none }) (v := ?_) rfl (by kernel_rfl) (by kernel_rfl) (by kernel_rfl) (fun _ _ _ h => h) (Or.inl ⟨by rfl, ?_⟩) (by assumption) ?_
    rotate_left
    · intro w hSw
      (try dsimp only at hSw)
      go_simp
      (try with_reducible rfl)
    try simp only [Act.put, List.setIfInBounds_toArray, List.set_cons_zero, List.set_cons_succ]
    refine wpAnyH_take (i := 7) (oi := { dst := some 33, op := Go.Op.indexAddr 65 (Go.Operand.tmp 31) (Go.Operand.tmp 32), type := 0, pos := "l11_live.go:80", after := #[{ on := 5, ground := Go.Ground.data }, { on := 6, ground := Go.Ground.data }], guard := none }) (v := ?_) rfl (by kernel_rfl) (by kernel_rfl) (by kernel_rfl) (fun _ _ _ h => h) (Or.inl ⟨by rfl, ?_⟩) (by assumption) ?_
    rotate_left
    · intro w hSw
      (try dsimp only at hSw)
      go_simp
      (try with_reducible rfl)
    try simp only [Act.put, List.setIfInBounds_toArray, List.set_cons_zero, List.set_cons_succ]
    refine wpAnyH_take (i := 8) (oi := { dst := some 34, op := Go.Op.fieldAddr 74 (Go.Operand.tmp 33) 0, type := 0, pos := "l11_live.go:80", after := #[{ on := 7, ground := Go.Ground.data }], guard := none }) (v := ?_) rfl (by kernel_rfl) (by kernel_rfl) (by kernel_rfl) (fun _ _ _ h => h) (Or.inl ⟨by rfl, ?_⟩) (by assumption) ?_
    rotate_left
    · intro w hSw
      (try dsimp only at hSw)
      go_simp
      (try with_reducible rfl)
    try simp only [Act.put, List.setIfInBounds_toArray, List.set_cons_zero, List.set_cons_succ]
    refine wpAnyH_take (i := 9) (oi := { dst := some 35, op := Go.Op.load 72 (Go.Operand.tmp 34), type := 72, pos := "l11_live.go:80", after := #[{ on := 8, ground := Go.Ground.data }], guard := none }) (v := ?_) rfl (by kernel_rfl) (by kernel_rfl) (by kernel_rfl) (fun _ _ _ h => h) (Or.inl ⟨by rfl, ?_⟩) (by assumption) ?_
    rotate_left
    · intro w hSw
      (try dsimp only at hSw)
      go_simp
      (try with_reducible rfl)
    try simp only [Act.put, List.setIfInBounds_toArray, List.set_cons_zero, List.set_cons_succ]
    clear hHeld q0 q1 q2 q3
    refine ckAnyH_oneK (i := 10) (o := { dst := some 36, op := Go.Op.call { callee := Go.Callee.value (Go.Operand.func 45), args := #[Go.Operand.tmp 29, Go.Operand.tmp 35], argTypes := #[74, 72] }, type := 0, pos := "l11_live.go:80", after := #[{ on := 3, ground := Go.Ground.data }, { on := 9, ground := Go.Ground.data }], guard := none }) rfl rfl (by kernel_rfl) (fun K9 hK9 => ?_)
    have hr := NV.out.rowI s hsn
    have hav : ∀ c, (Value.slice sa sn sc).ownBlock = some c → c < V.drew.heap.size ∧ c ≠ gO ∧ some c ≠ (vs'.getD b nilV).ownBlock := fun c hc => by
      rw [← hsh] at hc
      exact ⟨(NV.out.lt true hsn hc).2, fun e => NV.out.notO true hsn (by rw [← e]; exact hc.symm), fun e => NV.out.apart true false s b hsn hb (by simp) c hc e.symm⟩
    rw [hsh] at hr
    have hset := NV.out.setO hb
    rw [updL_same] at hset
    refine wp_call_of (f := 45) (args := #[.pointer (some ⟨gO, b, none⟩), .slice sa sn sc]) (runCallL rfl (by kernel_rfl) (by kernel_rfl) (enters_of Try.func45 (by kernel_rfl) rfl) _) (add_any w0.heap.size gO b (vs'.getD b nilV) (.slice sa sn sc) (norm80 (outs b ++ flatIns ins (pre.map (fun z => z.1)))) (ins s) V.drew ⟨hset.cell, hset.fz, hset.row, hset.ne⟩ (norm_asc _) (norm_in _) (by show w0.heap.size ≤ V.heap.size; omega) hr.at (HI1.out s).2 hav) ?_
    rintro e V2 ⟨⟨r2, rfl⟩, sv2, l2', hs2, ha2, hr2, hm2, ht2, ho2⟩
    have ht3 : SetTurn V V2 gO b (vs'.getD b nilV).ownBlock sv2 := ⟨ht2.os, ht2.tape, ht2.output, ht2.size, ht2.block, ht2.box⟩
    have hsz2 : V.heap.size ≤ V2.heap.size := ht2.size
    have kp : ∀ (k : Nat) (ob : Obj), V.heap[k]? = some ob → k ≠ gO → some k ≠ (vs'.getD b nilV).ownBlock → V2.heap[k]? = some ob := fun k ob h1 h2 h3 => (ht3.block k (Array.getElem?_eq_some_iff.1 h1).1 h2 h3).trans h1
    have k0 := kp _ _ Z0.out (by omega) (not_own (NV.out.rowO b hb) Z0.out (by decide))
    have k1 := kp _ _ Z1.out (by omega) (not_own (NV.out.rowO b hb) Z1.out (by decide))
    have k2 := kp _ _ Z2.out (by omega) (fun e => by rcases NUM.out _ e.symm with h | h <;> omega)
    have k3 := (World.cell?_of_block (w := V) (a := ⟨gI, s, none⟩) ((kp _ _ NV.out.boxI NV.out.ne (fun e => NV.out.notI false hb e)).trans NV.out.boxI.symm)).trans (NV.out.cellI hsn).1
    rw [hsh] at k3
    refine ⟨_, rfl, hK9 _ _ ⟨⟨by simp [World.cell?, k0], by simp [World.cell?, k0], by simp [World.cell?, k2], k3⟩, ?_⟩⟩
    refine wpAnyH_done (by kernel_rfl) ?_ _
    have hN2 := NV.out.putO hb ht3 hs2.row ho2
    rw [updL_twice] at hN2
    have el : l2' = norm80 (outs b ++ flatIns ins ((pre ++ [(⟨(s : Int), hy0, hy1⟩ : {z : Int // 0 ≤ z ∧ z < n})]).map (fun z => z.1))) := norm_eq ha2 hr2 (fun z => by
      rw [hm2 z, norm_mem, List.map_append, List.mem_append, List.mem_append]
      unfold flatIns
      rw [List.flatMap_append, List.mem_append]
      simp only [List.map_cons, List.map_nil, List.flatMap_cons, List.flatMap_nil, List.append_nil, Int.toNat_natCast]
      constructor
      · rintro (⟨h1 | h1, _⟩ | h1)
        · exact .inl h1
        · exact .inr (.inl h1)
        · exact .inr (.inr h1)
      · rintro (h1 | h1 | h1)
        · exact .inl ⟨.inl h1, (HO1.out b).2 z h1⟩
        · obtain ⟨q, hq, hz⟩ := List.mem_flatMap.1 h1
          exact .inl ⟨.inr h1, (HI1.out _).2 z hz⟩
        · exact .inr h1)
    rw [el] at hN2
    refine ⟨⟨hsz2, fun k ob hk h0 hc => kp k ob h0 (fun e => ?_) (not_own' (NV.out.rowO b hb) h0 hc)⟩, ?_, ?_⟩
    · subst e
      rw [NV.out.boxO] at h0
      cases h0
      cases hc
    · exact ht3.block _ (by omega) (by omega) (fun e => by rcases NUM.out _ e.symm with h | h <;> omega)
    · have hbs : b < vs'.size := by rw [NV.out.sizeO]; exact hb
      exact ⟨_, hN2, BV.out.trans (ht3.below (NV.out.lowO) (fun k hk => (NV.out.lt false hb hk).1) (by omega)), by omega, fun k hk => (by rw [getD_put2 hbs, if_pos rfl] at hk; rcases ho2 with e | e; (rw [e] at hk; exact NUM.out k hk); (have := e k hk; exact .inr (by show _ ≤ k; have h9 : V.heap.size ≤ k := this; omega))), k0, k1, k2, fun k c t z a1 a2 a3 a4 => kp k _ (Z3.out k c t z a1 a2 a3 a4) a4 (not_own (NV.out.rowO b hb) (Z3.out k c t z a1 a2 a3 a4) a2)⟩
  case done =>
    rintro D ys V hD hS ⟨vs', hNV, hBV, hsz, hnum, z0, z1, z2, z3⟩ hK
    rw [hS, ← hsv] at hNV
    obtain ⟨no, HNO⟩ : ∃ l, Hid (norm80 (outs b ++ flatIns ins (succsN F b)) = l) := ⟨_, rfl⟩
    rw [HNO.out] at hNV
    have NV : Hid (NeedsAt V w0.heap.size gI gO n us vs' ins (updL outs b no)) := hNV
    have BV : Hid (Below w0.heap.size w V) := hBV
    have NOA : Hid (Asc no ∧ In80 no) := by rw [← HNO.out]; exact ⟨norm_asc _, norm_in _⟩
    have HK : Hid (V.heap[D]? = some (.deferred (some []))) := hK
    have hFV : FnAt V (.agg #[.slice (some ⟨bb, off, none⟩) n bcap, .int .i64 vals]) F := HF.out.later (HW.out.trans hBV)
    obtain ⟨bb', off', e, pv, lv, d0, d1, d2, d3, d4, d5, hpv, hlv⟩ := FnAt.blockC hFV HN.out hb HX.out
    cases e
    have HLV2 : Hid (ListAt 0 5 InsAt V lv x.list) := hlv
    obtain ⟨pa, pcap, rfl, hpm, -⟩ := hpv
    obtain ⟨la, lcap, rfl, hlm, -⟩ := hlv
    obtain ⟨pn, HPN⟩ : ∃ z, Hid (x.phis.length = z) := ⟨_, rfl⟩
    obtain ⟨ln, HLN⟩ : ∃ z, Hid (x.list.length = z) := ⟨_, rfl⟩
    rw [HPN.out] at d0
    rw [HLN.out] at d1
    have q0 : V.cell? ⟨w.heap.size, 0, none⟩ = some (.slice (some ⟨gI, 0, none⟩) n n) := by simp [World.cell?, z0]
    have q1 : V.cell? ⟨w.heap.size, 1, none⟩ = some (.slice (some ⟨gO, 0, none⟩) n n) := by simp [World.cell?, z0]
    have q2 : V.cell? ⟨w.heap.size + 1 + 1, 0, none⟩ = some (.int .i64 b) := by simp [World.cell?, z2]
    have q4 : V.cell? ⟨w.heap.size + 1, 0, none⟩ = some (.slice (some ⟨bb, off, none⟩) n bcap) := by simp [World.cell?, z1]
    have q3 := (hNV.setO hb).cell
    obtain ⟨oa, ok, oc, hsh⟩ : ∃ a k c, vs'.getD b nilV = .slice a k c := by
      rcases (hNV.rowO b hb).shape with ⟨e, _⟩ | ⟨g, cap, e⟩
      · exact ⟨_, _, _, e⟩
      · exact ⟨_, _, _, e⟩
    rw [hsh] at q3
    have Z0 : Hid (V.heap[w.heap.size]? = some (.cells #[.slice (some ⟨gI, 0, none⟩) n n, .slice (some ⟨gO, 0, none⟩) n n] 67 (0, 0))) := z0
    have Z2 : Hid (V.heap[w.heap.size + 2]? = some (.cells #[.int .i64 b] 3 (0, 0))) := z2
    have Z3 : Hid (∀ (k : Nat) (c : Array Value) (t : TypeId) (z : Nat × Nat), w.heap[k]? = some (.cells c t z) → t ≠ 3 → k ≠ gI → k ≠ gO → V.heap[k]? = some (.cells c t z)) := z3
    clear hNV hBV z0 z1 z2 z3 hFV hK y0 y2 y3 cI C2 C3 C4 C5 c0 c1 c2 c3 c4 c5 hI0 hown
    gi_wp2
    refine region_wideH (S := fun W' => W'.cell? ⟨w.heap.size + 1, 0, none⟩ = some (.slice (some ⟨bb, off, none⟩) n bcap) ∧ W'.cell? ⟨w.heap.size + 1 + 1, 0, none⟩ = some (.int .i64 b) ∧ W'.cell? ⟨w.heap.size, 1, none⟩ = some (.slice (some ⟨gO, 0, none⟩) n n) ∧ W'.cell? ⟨gO, b, none⟩ = some (.slice oa ok oc) ∧ W'.cell? ⟨bb, off + b * 6, none⟩ = some (.slice pa pn pcap) ∧ W'.cell? ⟨bb, off + b * 6 + 1, none⟩ = some (.slice la ln lcap) ∧ W'.cell? ⟨bb, off + b * 6 + 2, none⟩ = some (.int .i64 x.term.k) ∧ W'.cell? ⟨bb, off + b * 6 + 3, none⟩ = some (.int .i64 x.term.a) ∧ W'.cell? ⟨bb, off + b * 6 + 4, none⟩ = some (.int .i64 x.term.t) ∧ W'.cell? ⟨bb, off + b * 6 + 5, none⟩ = some (.int .i64 x.term.e)) (by kernel_rfl) ⟨q4, q2, q1, q3, d0, d1, d2, d3, d4, d5⟩ (fun hHeld => ?_)
    refine wpAnyH_take (i := 0) (oi := { dst := some 37, op := Go.Op.fieldAddr 29 (Go.Operand.tmp 4) 0, type := 0, pos := "l11_live.go:82", after := #[], guard := none }) (v := ?_) rfl (by kernel_rfl) (by kernel_rfl) (by kernel_rfl) (fun _ _ _ h => h) (Or.inl ⟨by rfl, ?_⟩) (by assumption) ?_
    rotate_left
    · intro w hSw
      (try dsimp only at hSw)
      go_simp
      (try with_reducible rfl)
    try simp only [Act.put, List.setIfInBounds_toArray, List.set_cons_zero, List.set_cons_succ]
    refine wpAnyH_take (i := 1) (oi := { dst := some 38, op := Go.Op.load 27 (Go.Operand.tmp 37), type := 27, pos := "l11_live.go:82", after := #[{ on := 0, ground := Go.Ground.data }], guard := none }) (v := ?_) rfl (by kernel_rfl) (by kernel_rfl) (by kernel_rfl) (fun _ _ _ h => h) (Or.inl ⟨by rfl, ?_⟩) (by assumption) ?_
    rotate_left
    · intro w hSw
      (try dsimp only at hSw)
      go_simp
      (try with_reducible rfl)
    try simp only [Act.put, List.setIfInBounds_toArray, List.set_cons_zero, List.set_cons_succ]
    refine wpAnyH_take (i := 2) (oi := { dst := some 39, op := Go.Op.load 3 (Go.Operand.tmp 5), type := 3, pos := "l11_live.go:82", after := #[], guard := none }) (v := ?_) rfl (by kernel_rfl) (by kernel_rfl) (by kernel_rfl) (fun _ _ _ h => h) (Or.inl ⟨by rfl, ?_⟩) (by assumption) ?_
    rotate_left
    · intro w hSw
      (try dsimp only at hSw)
      go_simp
      (try with_reducible rfl)
    try simp only [Act.put, List.setIfInBounds_toArray, List.set_cons_zero, List.set_cons_succ]
    refine wpAnyH_take (i := 3) (oi := { dst := some 40, op := Go.Op.indexAddr 27 (Go.Operand.tmp 38) (Go.Operand.tmp 39), type := 0, pos := "l11_live.go:82", after := #[{ on := 1, ground := Go.Ground.data }, { on := 2, ground := Go.Ground.data }], guard := none }) (v := ?_) rfl (by kernel_rfl) (by kernel_rfl) (by kernel_rfl) (fun _ _ _ h => h) (Or.inl ⟨by rfl, ?_⟩) (by assumption) ?_
    rotate_left
    · intro w hSw
      (try dsimp only at hSw)
      go_simp
      (try with_reducible rfl)
    try simp only [Act.put, List.setIfInBounds_toArray, List.set_cons_zero, List.set_cons_succ]
    refine wpAnyH_take (i := 4) (oi := { dst := some 41, op := Go.Op.load 58 (Go.Operand.tmp 40), type := 58, pos := "l11_live.go:82", after := #[{ on := 3, ground := Go.Ground.data }], guard := none }) (v := ?_) rfl (by kernel_rfl) (by kernel_rfl) (by kernel_rfl) (fun _ _ _ h => h) (Or.inl ⟨by rfl, ?_⟩) (by assumption) ?_
    rotate_left
    · intro w hSw
      (try dsimp only at hSw)
      go_simp
      (try with_reducible rfl)
    try simp only [Act.put, List.setIfInBounds_toArray, List.set_cons_zero, List.set_cons_succ]
    refine wpAnyH_take (i := 5) (oi := { dst := some 42, op := Go.Op.fieldAddr 67 (Go.Operand.tmp 3) 1, type := 0, pos := "l11_live.go:82", after := #[], guard := none }) (v := ?_) rfl (by kernel_rfl) (by kernel_rfl) (by kernel_rfl) (fun _ _ _ h => h) (Or.inl ⟨by rfl, ?_⟩) (by assumption) ?_
    rotate_left
    · intro w hSw
      (try dsimp only at hSw)
      go_simp
      (try with_reducible rfl)
    try simp only [Act.put, List.setIfInBounds_toArray, List.set_cons_zero, List.set_cons_succ]
    refine wpAnyH_take (i := 6) (oi := { dst := some 43, op := Go.Op.load 65 (Go.Operand.tmp 42), type := 65, pos := "l11_live.go:82", after := #[{ on := 5, ground := Go.Ground.data }], guard := none }) (v := ?_) rfl (by kernel_rfl) (by kernel_rfl) (by kernel_rfl) (fun _ _ _ h => h) (Or.inl ⟨by rfl, ?_⟩) (by assumption) ?_
    rotate_left
    · intro w hSw
      (try dsimp only at hSw)
      go_simp
      (try with_reducible rfl)
    try simp only [Act.put, List.setIfInBounds_toArray, List.set_cons_zero, List.set_cons_succ]
    refine wpAnyH_take (i := 7) (oi := { dst := some 44, op := Go.Op.load 3 (Go.Operand.tmp 5), type := 3, pos := "l11_live.go:82", after := #[], guard := none }) (v := ?_) rfl (by kernel_rfl) (by kernel_rfl) (by kernel_rfl) (fun _ _ _ h => h) (Or.inl ⟨by rfl, ?_⟩) (by assumption) ?_
    rotate_left
    · intro w hSw
      (try dsimp only at hSw)
      go_simp
      (try with_reducible rfl)
    try simp only [Act.put, List.setIfInBounds_toArray, List.set_cons_zero, List.set_cons_succ]
    refine wpAnyH_take (i := 8) (oi := { dst := some 45, op := Go.Op.indexAddr 65 (Go.Operand.tmp 43) (Go.Operand.tmp 44), type := 0, pos := "l11_live.go:82", after := #[{ on := 6, ground := Go.Ground.data }, { on := 7, ground := Go.Ground.data }], guard := none }) (v := ?_) rfl (by kernel_rfl) (by kernel_rfl) (by kernel_rfl) (fun _ _ _ h => h) (Or.inl ⟨by rfl, ?_⟩) (by assumption) ?_
    rotate_left
    · intro w hSw
      (try dsimp only at hSw)
      go_simp
      (try with_reducible rfl)
    try simp only [Act.put, List.setIfInBounds_toArray, List.set_cons_zero, List.set_cons_succ]
    refine wpAnyH_take (i := 9) (oi := { dst := some 46, op := Go.Op.load 74 (Go.Operand.tmp 45), type := 74, pos := "l11_live.go:82", after := #[{ on := 8, ground := Go.Ground.data }], guard := none }) (v := ?_) rfl (by kernel_rfl) (by kernel_rfl) (by kernel_rfl) (fun _ _ _ h => h) (Or.inl ⟨by rfl, ?_⟩) (by assumption) ?_
    rotate_left
    · intro w hSw
      (try dsimp only at hSw)
      go_simp
      (try with_reducible rfl)
    try simp only [Act.put, List.setIfInBounds_toArray, List.set_cons_zero, List.set_cons_succ]
    refine ckAnyH_oneK (i := 10) (o := { dst := some 47, op := Go.Op.call { callee := Go.Callee.value (Go.Operand.func 28), args := #[Go.Operand.tmp 41, Go.Operand.tmp 46], argTypes := #[58, 74] }, type := 70, pos := "l11_live.go:82", after := #[{ on := 4, ground := Go.Ground.data }, { on := 9, ground := Go.Ground.data }], guard := none }) rfl rfl (by kernel_rfl) (fun K9 hK9 => ?_)
    refine wp_call_of (f := 28) (args := #[.agg #[.slice pa pn pcap, .slice la ln lcap, .int .i64 x.term.k, .int .i64 x.term.a, .int .i64 x.term.t, .int .i64 x.term.e], .agg #[.slice oa ok oc]]) (runCallL rfl (by kernel_rfl) (by kernel_rfl) (enters_of Try.func28 (by kernel_rfl) rfl) _) (backward_any pa la oa pn pcap ln lcap ok oc x.term.k x.term.a x.term.t x.term.e V.drew) ?_
    rintro e V2 ⟨rfl, hV2⟩
    have B2 : Below V.heap.size V V2 := by rw [hV2]; exact ((Below.refl _ V).drew).trans (((Below.refl V.heap.size V.drew).alloc (Nat.le_refl _) _).alloc (by simp) _)
    refine ⟨_, rfl, hK9 _ _ ⟨⟨Bel.keeps B2 q4, Bel.keeps B2 q2, Bel.keeps B2 q1, Bel.keeps B2 q3, Bel.keeps B2 d0, Bel.keeps B2 d1, Bel.keeps B2 d2, Bel.keeps B2 d3, Bel.keeps B2 d4, Bel.keeps B2 d5⟩, ?_⟩⟩
    refine wpAnyH_done (by kernel_rfl) ?_ _

    simp only [onlyNormal, Exit.then, Act.put, List.setIfInBounds_toArray, List.set_cons_succ, List.set_cons_zero]
    go_at_K
    gi_wp2
    have hbx0 : V2.heap[V.heap.size]? = some (.cells #[.slice pa pn pcap, .slice la ln lcap, .int .i64 x.term.k, .int .i64 x.term.a, .int .i64 x.term.t, .int .i64 x.term.e] 58 (0, 0)) := by
      rw [hV2, Below.heap_alloc _ _ _ (by simp)]; exact World.alloc_heap_new V.drew _
    have hbx1 : V2.heap[V.heap.size + 1]? = some (.cells #[.slice oa ok oc] 74 (0, 0)) := by
      rw [hV2]
      have := World.alloc_heap_new (V.drew.alloc (.cells #[.slice pa pn pcap, .slice la ln lcap, .int .i64 x.term.k, .int .i64 x.term.a, .int .i64 x.term.t, .int .i64 x.term.e] 58)) (.cells #[.slice oa ok oc] 74)
      rwa [World.size_alloc] at this
    have hs2 : V2.heap.size = V.heap.size + 2 := by rw [hV2]; simp
    have N2 : Hid (NeedsAt V2 w0.heap.size gI gO n us vs' ins (updL outs b no)) := NV.out.keep B2
    have hgV : gI < V2.heap.size := N2.out.ltI
    have hnot : 0 < ln → ∀ c off2, la = some ⟨c, off2, none⟩ → c ≠ gI := fun hp c off2 e e2 => by
      have hl : 0 < x.list.length := by have := HLN.out; omega
      have HL3 := HLV2.out
      rw [HLN.out] at HL3
      obtain ⟨c', off', e', hi⟩ := placeAt HL3 (List.getElem?_eq_getElem hl)
      rw [e] at e'
      cases e'
      have hc := hi.1
      subst e2
      simp only [World.cell?, NV.out.boxI] at hc
      obtain ⟨hlt, hc⟩ := Array.getElem?_eq_some_iff.1 hc
      have hsz3 := NV.out.sizeI
      have hr := NV.out.rowI (off2 + 0 * 5) (by omega)
      have eg : us.getD (off2 + 0 * 5) nilV = us[off2 + 0 * 5] := (Array.getElem_eq_getD nilV).symm
      rw [eg, hc] at hr
      rcases hr.shape with ⟨e9, _⟩ | ⟨_, _, e9⟩ <;> cases e9
    have hseq : SeqSt Fence.wide 5 Try.prog 43 #[.pointer (some ⟨V.heap.size + 1, 0, none⟩), .pointer (some ⟨V.heap.size, 0, none⟩)] bEnc (bDt x no V2.heap.size) (bS x no V2.heap.size) gI (ln + 1) V2 := by
      have hrow := N2.out.rowO b hb
      rw [updL_same, hsh] at hrow
      have hL2 := places_keep HLV2.out (Keeps.of_below B2 0)
      rw [HLN.out] at hL2
      exact backw_seq 5 (by omega) gI x no NOA.out.1 NOA.out.2 HT.out (V.heap.size + 1) V.heap.size (.slice oa ok oc) la ln lcap HLN.out V2 ((cell_of_box hbx1 0).trans rfl) hrow.at ((cell_of_box hbx0 1).trans rfl) ((cell_of_box hbx0 2).trans rfl) ((cell_of_box hbx0 3).trans rfl) ((cell_of_box hbx0 4).trans rfl) ((cell_of_box hbx0 5).trans rfl) hL2 (by have := NV.out.ltI; omega) hnot
    have hus : us.setIfInBounds b (lastH (us.getD b nilV) []) = us := put_self (by rw [Array.getD_eq_getD_getElem?, Array.getElem?_eq_getElem (by rw [NV.out.sizeI]; exact hb)]; rfl)
    have hG0 : GX gI b us V2 [] V2 := ⟨fun _ _ _ => rfl, rfl, rfl, rfl, Nat.le_refl _, by rw [hus]; exact N2.out.boxI⟩
    have y0 := Bel.keeps B2 q0
    have y2 := Bel.keeps B2 q2
    have KD : Hid (V2.heap[D]? = some (.deferred (some []))) := (B2.block D (Array.getElem?_eq_some_iff.1 HK.out).1).trans HK.out
    have BV2 : Hid (Below w0.heap.size w V2) := BV.out.trans (B2.mono (by omega))
    have hDs := (Array.getElem?_eq_some_iff.1 KD.out).1
    have hKDgI : D ≠ gI := by omega
    have Z4 : Hid (∀ (k : Nat) (c : Array Value) (t : TypeId) (z : Nat × Nat), w.heap[k]? = some (.cells c t z) → t ≠ 3 → k ≠ gI → k ≠ gO → V2.heap[k]? = some (.cells c t z)) := fun k c t z a1 a2 a3 a4 => by
      have a5 := Z3.out k c t z a1 a2 a3 a4
      exact (B2.block k (Array.getElem?_eq_some_iff.1 a5).1).trans a5
    clear hV2 hbx0 hbx1 B2 hHeld hK9
    refine wpIn_rangeFunc_st (α := Int × Value) rfl (by omega) (gf := 43) (lb := #[.pointer (some ⟨V.heap.size + 1, 0, none⟩), .pointer (some ⟨V.heap.size, 0, none⟩)]) rfl trivial (enters_of Try.func43 (by kernel_rfl) rfl)
      hseq (Below.refl _ _) hgV (fun _ => rfl)
      (GX gI b us V2)
      (fun _ _ _ => False)
      (fun pre y a' U => GX gI b us V2 pre U ∧ ∃ Bx sa sn sc, y.2 = .slice sa sn sc ∧ V2.heap.size ≤ Bx ∧ U.heap[Bx]? = some (.cells #[.slice sa sn sc] 74 (0, 0)) ∧ a' = { tmps := #[.agg #[.slice (some ⟨gI, 0, none⟩) n n, .slice (some ⟨gO, 0, none⟩) n n], .agg #[.slice (some ⟨bb, off, none⟩) n bcap, .int .i64 vals], .int .i64 b, .pointer (some ⟨w.heap.size, 0, none⟩), .pointer (some ⟨w.heap.size + 1, 0, none⟩), .pointer (some ⟨w.heap.size + 1 + 1, 0, none⟩), .bool false, .int .i64 kb, undef, undef, .pointer (some ⟨Bx, 0, none⟩), .pointer (some ⟨w.heap.size, 0, none⟩), .slice (some ⟨gI, 0, none⟩) n n, .int .i64 b, .pointer (some ⟨gI, b, none⟩), .pointer (some ⟨gI, b, none⟩), .slice ia kb ic, .int .i64 kb, .pointer (some ⟨w.heap.size + 1, 0, none⟩), .slice (some ⟨bb, off, none⟩) n bcap, .int .i64 b, .pointer (some ⟨bb, off + b * 6, none⟩), .pointer (some ⟨bb, off + b * 6 + 2, none⟩), .agg #[.int .i64 x.term.k, .int .i64 x.term.a, .int .i64 x.term.t, .int .i64 x.term.e], .func (.func 83) #[] #[.pointer (some ⟨w.heap.size + 3, 0, none⟩)], undef, undef, undef, undef, undef, undef, undef, undef, undef, undef, undef, undef, .pointer (some ⟨w.heap.size + 1, 0, none⟩), .slice (some ⟨bb, off, none⟩) n bcap, .int .i64 b, .pointer (some ⟨bb, off + b * 6, none⟩), .agg #[.slice pa pn pcap, .slice la ln lcap, .int .i64 x.term.k, .int .i64 x.term.a, .int .i64 x.term.t, .int .i64 x.term.e], .pointer (some ⟨w.heap.size, 1, none⟩), .slice (some ⟨gO, 0, none⟩) n n, .int .i64 b, .pointer (some ⟨gO, b, none⟩), .agg #[.slice oa ok oc], .func (.func 43) #[] #[.pointer (some ⟨V.heap.size + 1, 0, none⟩), .pointer (some ⟨V.heap.size, 0, none⟩)], .int .i64 y.1, .agg #[y.2], undef, undef, undef, undef, undef, undef, undef, undef, undef, undef, undef, undef, undef, undef], defers := [] })
      (fun s X Y h hbl => h.below hbl hgV)
      (fun c => ownFrom_pure _ _)
      (fun pre y a' _ U U' row h hg hr => ⟨h.1.below (below_grown hg (by have := h.1.size; omega) (fun r e => (hr r e).1)) hgV, h.2.elim fun Bx h2 => ⟨Bx, h2.elim fun sa h3 => ⟨sa, h3.elim fun sn h4 => ⟨sn, h4.elim fun sc h5 => ⟨sc, h5.1, h5.2.1, box_grownN h5.2.2.1 hg (fun r e => (hr r e).2), h5.2.2.2⟩⟩⟩⟩⟩)
      (fun ys U U' row h hg hr => ⟨h.1, h.2.elim fun y hy => ⟨y, hy.1, hy.2.grownN hg (fun r e => (hr r e).2)⟩⟩)
      hG0 ?assign2 ?body2 ?done2 ?stop2
    case assign2 =>
      rintro l2 pre ⟨yi, yv⟩ U K hi ⟨j, hj, hyj, hyo⟩ hK
      dsimp only at hyo
      clear hyj hj
      dsimp only [bEnc]
      rcases hyo.shape with ⟨rfl, _⟩ | ⟨g9, cap9, rfl⟩
      all_goals (
        gi_wp2
        exact hK _ _ ⟨hi.below (Bel.alloc' _ _ hi.size) hgV, U.heap.size, _, _, _, rfl, hi.size, World.alloc_heap_new U _, rfl⟩ (KeepsX.below (Bel.alloc _ _)))
    case body2 =>
      rintro l2 pre ⟨yi, yv⟩ a' U ⟨hG, Bx, sa, sn, sc, hyv, hBx, hbox, rfl⟩ _
      dsimp only at hyv
      subst hyv
      have e0 : U.cell? ⟨w.heap.size, 0, none⟩ = some (.slice (some ⟨gI, 0, none⟩) n n) := (World.cell?_of_block (w := V2) (a := ⟨w.heap.size, 0, none⟩) (hG.same w.heap.size (by omega) (by omega))).trans y0
      have e2 : U.cell? ⟨w.heap.size + 1 + 1, 0, none⟩ = some (.int .i64 b) := (World.cell?_of_block (w := V2) (a := ⟨w.heap.size + 1 + 1, 0, none⟩) (hG.same (w.heap.size + 1 + 1) (by omega) (by omega))).trans y2
      have e3 : U.cell? ⟨Bx, 0, none⟩ = some (.slice sa sn sc) := by simp [World.cell?, hbox]
      have hbs : b < us.size := by rw [N2.out.sizeI]; exact hb
      have e4 : U.cell? ⟨gI, b, none⟩ = some (lastH (us.getD b nilV) pre) := by simp [World.cell?, hG.box, hbs]
      have e5 : U.frozen? ⟨gI, b, none⟩ = false := by simp [World.frozen?, hG.box]
      have HG : Hid (GX gI b us V2 pre U) := hG
      clear hG hbox
      gi_wp2
      exact ⟨KeepsX.setCell _ _, HG.out.put hbs hgV _⟩
    case done2 =>
      rintro D2 ys U hD2 ⟨hS1, y, hy, hyo⟩ hG hK2
      have hGp : U.heap[gI]? = some (.cells (us.setIfInBounds b y.2) 74 (0, 0)) := by have := hG.box; rwa [lastH_last _ hy] at this
      have N3 : NeedsAt U w0.heap.size gI gO n (us.setIfInBounds b y.2) vs' (updL ins b (atS x no 0)) (updL outs b no) := N2.out.putI hb (fun k hk hne => hG.same k hk hne) hGp (hyo.low (by omega)) (fun k hk => (hyo.lt k hk).1)
      have HN3 : Hid (NeedsAt U w0.heap.size gI gO n (us.setIfInBounds b y.2) vs' (updL ins b (atS x no 0)) (updL outs b no)) := N3
      have e0 : U.cell? ⟨w.heap.size, 0, none⟩ = some (.slice (some ⟨gI, 0, none⟩) n n) := (World.cell?_of_block (w := V2) (a := ⟨w.heap.size, 0, none⟩) (hG.same w.heap.size (by omega) (by omega))).trans y0
      have e2 : U.cell? ⟨w.heap.size + 1 + 1, 0, none⟩ = some (.int .i64 b) := (World.cell?_of_block (w := V2) (a := ⟨w.heap.size + 1 + 1, 0, none⟩) (hG.same (w.heap.size + 1 + 1) (by omega) (by omega))).trans y2
      have e4 := (N3.cellI hb).1
      have hbs : b < us.size := by rw [N2.out.sizeI]; exact hb
      rw [getD_put2 hbs, if_pos rfl] at e4
      obtain ⟨nk, HNK⟩ : ∃ z, Hid ((atS x no 0).length = z) := ⟨_, rfl⟩
      obtain ⟨na, nc, hny⟩ : ∃ a c, y.2 = .slice a nk c := by
        rcases hyo.shape with ⟨e, e2⟩ | ⟨g, cap, e⟩
        · exact ⟨none, 0, by rw [e, ← HNK.out, e2]; rfl⟩
        · exact ⟨_, _, by rw [e, HNK.out]⟩
      rw [hny] at e4
      have HG : Hid (GX gI b us V2 ys U) := hG
      have hkb := HKB.out
      have hnk80 : nk ≤ 80 := by rw [← HNK.out]; exact atS_len _ _ _
      have HK2 : Hid (U.heap[D2]? = some (.deferred (some []))) := hK2
      have hKD2 : U.heap[D]? = some (.deferred (some [])) := (hG.same D (by omega) hKDgI).trans KD.out
      clear N3 hG hGp hK2
      gi_wp2
      have hK3 : (U.putObj D2 (.deferred none)).heap[D]? = some (.deferred (some [])) := (World.putObj_heap_other (by omega)).trans hKD2
      refine ⟨by simp, .inl ⟨_, _, rfl, run_takeDeferred HK2.out, ?_⟩⟩
      refine ⟨by simp, .inl ⟨_, _, rfl, run_takeDeferred hK3, ?_⟩⟩
      refine ⟨_, results_tmp rfl _ _ _, us.setIfInBounds b y.2, vs', ?_, ?_, ?_, ?_⟩
      · rw [HNO.out, HNK.out, HKB.out]
        rfl
      · rw [HNO.out]
        exact (HN3.out.grownN (grownBy_putObj' _ D2 (.deferred none)) (fun r' e => by cases e; exact ⟨_, HK2.out, rfl⟩)).grownN (grownBy_putObj' _ D (.deferred none)) (fun r' e => by cases e; exact ⟨_, hK3, rfl⟩)
      · have hU : Below w0.heap.size V2 U := ⟨HG.out.os, HG.out.tape, HG.out.output, HG.out.size, fun k hk => HG.out.same k (by omega) (by have := N2.out.lowI; omega)⟩
        have hsU := HG.out.size
        exact (BV2.out.trans hU).trans ((below_grown (grownBy_putObj' _ D2 (.deferred none)) (by omega) (fun r' e => by cases e; omega)).trans (below_grown (grownBy_putObj' _ D (.deferred none)) (by simp; omega) (fun r' e => by cases e; omega)))
      · intro k c t z a1 a2 a3 a4
        have a5 := Z4.out k c t z a1 a2 a3 a4
        have a6 := (HG.out.same k (Array.getElem?_eq_some_iff.1 a5).1 a3).trans a5
        exact box_grownN (box_grownN a6 (grownBy_putObj' _ D2 (.deferred none)) (fun r' e => by cases e; exact ⟨_, HK2.out, rfl⟩)) (grownBy_putObj' _ D (.deferred none)) (fun r' e => by cases e; exact ⟨_, hK3, rfl⟩)
    case stop2 =>
      rintro D2 c pre U hD2 h
      exact h.elim
  case stop =>
    rintro D c pre V hD _ h
    exact h.elim
end Go.Proofs.Ytjfogpbhacadbaa
