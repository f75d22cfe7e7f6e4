/- From the end of a block to its beginning: the program's iterator, with the set that it keeps, by its contract. -/
import Derived.Test.YtjfogpbhacadbaaLBackK
import Derived.Test.YtjfogpbhacadbaaLCopyK
import Derived.Test.YtjfogpbhacadbaaLiveDefK
namespace Go.Proofs.Ytjfogpbhacadbaa
open Go.ChangeShapes Go.WideShapes Go.ChangeAt Go.RowKit Go.Shelf
set_option linter.unusedVariables false
attribute [local go_sem] Oper.semAt_some

theorem SetTurn.below {w w' : World} {g o : Nat} {ob : Option Nat} {sv' : Value} (h : SetTurn w w' g o ob sv') {lo : Nat} (hg : lo ≤ g) (ho : ∀ k, ob = some k → lo ≤ k) (hlo : lo ≤ w.heap.size) : Below lo w w' :=
  ⟨h.os, h.tape, h.output, h.size, fun k hk => h.block k (by omega) (by omega) (fun e => by have := ho k e.symm; omega)⟩

theorem setIn_new {W : World} {lo : Nat} {sv : Value} {l : List Int} (h : OwnInts W lo sv l) (T : TypeId) : SetIn (W.alloc (.cells #[sv] T)) lo W.heap.size 0 sv l := by
  exact ⟨by simp [go_sem], by simp [go_sem], h.keep (Bel.alloc _ _), fun e => by have := (h.lt _ e).2; omega⟩
theorem OwnInts.keepX {x B : Nat} {W W' : World} (k : KeepsX x B W W') {lo : Nat} {sv : Value} {l : List Int} (h : OwnInts W lo sv l) (hx : sv.ownBlock ≠ some x) : OwnInts W' lo sv l := by
  rcases h with ⟨h0, h1 | ⟨g', cap, cur, rfl, h2, h3, h4⟩⟩
  · exact ⟨h0, .inl h1⟩
  · exact ⟨h0, .inr ⟨g', cap, cur, rfl, h2, k.box (fun e => hx (by simp [Value.ownBlock, e])) h3, h4⟩⟩
theorem SetIn.keepX {x B : Nat} {W W' : World} (k : KeepsX x B W W') {lo g o : Nat} {sv : Value} {l : List Int} (h : SetIn W lo g o sv l) (hg : g ≠ x) (hx : sv.ownBlock ≠ some x) : SetIn W' lo g o sv l := by
  obtain ⟨us, e, z, hb, hu⟩ := setIn_box h
  have hb' := k.box hg hb
  exact ⟨k.cell (p := ⟨g, o, none⟩) hg h.cell, (World.frozen?_of_block (w := W) (a := ⟨g, o, none⟩) (hb'.trans hb.symm)).trans h.fz, h.row.keepX k hx, h.ne⟩

/-- What the iterator hands over: a number, and a set. -/
def bEnc (y : Int × Value) : Array Value := #[.int .i64 y.1, .agg #[y.2]]
def lenV : Value → Nat
  | .slice _ n _ => n
  | _ => 0
def bDt (X : BlockD) (o : List Int) (lo : Nat) (y : Int × Value) (W : World) : Prop := ∃ j : Nat, j ≤ X.list.length ∧ y.1 = (j : Int) ∧ OwnInts W lo y.2 (atS X o j)
def bS (X : BlockD) (o : List Int) (lo : Nat) (ys : List (Int × Value)) (W : World) : Prop := ys.map (fun y => (y.1, lenV y.2)) = lensDown X o (X.list.length + 1) ∧ ∃ y, ys.getLast? = some y ∧ OwnInts W lo y.2 (atS X o 0)
theorem OwnInts.lenV {w : World} {lo : Nat} {v : Value} {l : List Int} (h : OwnInts w lo v l) : lenV v = l.length := by
  rcases h.shape with ⟨rfl, rfl⟩ | ⟨g, cap, rfl⟩ <;> rfl

/-- Nothing that was there has turned but block g and the set's list. -/
structure StepK (V V' : World) (g : Nat) (sv : Value) : Prop where
  size : V.heap.size ≤ V'.heap.size
  same : ∀ (k : Nat) (ob : Obj), V.heap[k]? = some ob → k ≠ g → some k ≠ sv.ownBlock → V'.heap[k]? = some ob
theorem SetTurn.stepK {V V' : World} {g o : Nat} {sv sv' : Value} (h : SetTurn V V' g o sv.ownBlock sv') : StepK V V' g sv := ⟨h.size, fun k ob h1 h2 h3 => (h.block k (Array.getElem?_eq_some_iff.1 h1).1 h2 h3).trans h1⟩
theorem StepK.below {V V' : World} {g : Nat} {sv : Value} (h : Below V.heap.size V V') : StepK V V' g sv := ⟨h.size, fun k ob h1 _ _ => (h.block k (Array.getElem?_eq_some_iff.1 h1).1).trans h1⟩
theorem StepK.trans {V V1 V2 : World} {g : Nat} {sv sv1 : Value} (h : StepK V V1 g sv) (k : StepK V1 V2 g sv1) (ho : sv1.ownBlock = sv.ownBlock ∨ ∀ b, sv1.ownBlock = some b → V.heap.size ≤ b) : StepK V V2 g sv :=
  ⟨Nat.le_trans h.size k.size, fun i ob h1 h2 h3 => k.same i ob (h.same i ob h1 h2 h3) h2 (fun e => by
    rcases ho with e2 | e2
    · exact h3 (e.trans e2)
    · have h4 := e2 i e.symm
      have h5 := (Array.getElem?_eq_some_iff.1 h1).1
      omega)⟩
theorem OwnInts.block {V : World} {lo : Nat} {sv : Value} {l : List Int} (h : OwnInts V lo sv l) {k : Nat} (hk : sv.ownBlock = some k) : ∃ c, V.heap[k]? = some (.cells c 3 (0, 0)) := by
  rcases h with ⟨h0, ⟨rfl, _⟩ | ⟨g', cap, cur, rfl, h2, h3, h4⟩⟩
  · simp [Value.ownBlock] at hk
  · simp [Value.ownBlock] at hk
    subst hk
    exact ⟨_, h3⟩
theorem OwnInts.grownN {V V' : World} {row : Option Nat} {lo : Nat} {sv : Value} {l : List Int} (h : OwnInts V lo sv l) (hg : V.grownBy V' row) (hr : ∀ r, row = some r → ∃ o : Obj, V.heap[r]? = some o ∧ o.isCells = false) : OwnInts V' lo sv l := by
  rcases h with ⟨h0, h1 | ⟨g', cap, cur, rfl, h2, h3, h4⟩⟩
  · exact ⟨h0, .inl h1⟩
  · refine ⟨h0, .inr ⟨g', cap, cur, rfl, h2, (hg.block g' (Array.getElem?_eq_some_iff.1 h3).1 (fun e => ?_)).trans h3, h4⟩⟩
    obtain ⟨o, ho, hc⟩ := hr g' e.symm
    rw [h3] at ho
    cases ho
    cases hc
theorem box_grownN {V V' : World} {row : Option Nat} {b : Nat} {c : Array Value} {t : TypeId} {z : Nat × Nat} (h : V.heap[b]? = some (.cells c t z)) (hg : V.grownBy V' row) (hr : ∀ r, row = some r → ∃ o : Obj, V.heap[r]? = some o ∧ o.isCells = false) : V'.heap[b]? = some (.cells c t z) := by
  refine (hg.block b (Array.getElem?_eq_some_iff.1 h).1 (fun e => ?_)).trans h
  obtain ⟨o, ho, hc⟩ := hr b e.symm
  rw [h] at ho
  cases ho
  cases hc
theorem SetIn.grownN {V V' : World} {row : Option Nat} {lo g o : Nat} {sv : Value} {l : List Int} (h : SetIn V lo g o sv l) (hg : V.grownBy V' row) (hr : ∀ r, row = some r → ∃ o : Obj, V.heap[r]? = some o ∧ o.isCells = false) : SetIn V' lo g o sv l := by
  obtain ⟨us, e, z, hb, hu⟩ := setIn_box h
  have hb' := box_grownN hb hg hr
  exact ⟨(World.cell?_of_block (w := V) (a := ⟨g, o, none⟩) (hb'.trans hb.symm)).trans h.cell, (World.frozen?_of_block (w := V) (a := ⟨g, o, none⟩) (hb'.trans hb.symm)).trans h.fz, h.row.grownN hg hr, h.ne⟩
theorem not_own {V : World} {lo : Nat} {sv : Value} {l : List Int} (h : OwnInts V lo sv l) {k : Nat} {c : Array Value} {t : TypeId} {z : Nat × Nat} (hb : V.heap[k]? = some (.cells c t z)) (ht : t ≠ 3) : some k ≠ sv.ownBlock := fun e => by
  obtain ⟨c', hc⟩ := h.block e.symm
  rw [hb] at hc
  simp at hc
  exact ht hc.2.1
theorem not_own' {V : World} {lo : Nat} {sv : Value} {l : List Int} (h : OwnInts V lo sv l) {k : Nat} {ob : Obj} (hb : V.heap[k]? = some ob) (ht : ob.isCells = false) : some k ≠ sv.ownBlock := fun e => by
  obtain ⟨c', hc⟩ := h.block e.symm
  rw [hb] at hc
  cases hc
  cases ht
/-- Between two rounds of the iterator's own loop. -/
def BkI (X : BlockD) (o : List Int) (lo B Bn Bl ln lcap l : Nat) (la : Option Addr) (J : List (Int × Value) → World → Prop) (pre : List (Int × InsD)) (V : World) : Prop :=
  ∃ (pre' : List (Int × Value)) (z : Int) (sv : Value), pre'.length = pre.length + 1 ∧ pre'.map (fun y => (y.1, lenV y.2)) = lensDown X o (pre.length + 1) ∧ pre'.getLast? = some (z, sv) ∧ J pre' V ∧ SetIn V lo Bn 0 sv (atS X o (ln - pre.length)) ∧ (∀ k, sv.ownBlock = some k → B < k) ∧
    V.cell? ⟨B, 0, none⟩ = some (.func (.yield l) #[] #[]) ∧ V.heap[Bl]? = some (.cells #[.slice la ln lcap] 55 (0, 0)) ∧ (0 < ln → ∀ b off, la = some ⟨b, off, none⟩ → ∃ c t z, V.heap[b]? = some (.cells c t z))
theorem below_grown {B : Nat} {V V' : World} {row : Option Nat} (hg : V.grownBy V' row) (hB : B ≤ V.heap.size) (hr : ∀ r, row = some r → B ≤ r) : Below B V V' := (Below.refl B V).grown hg hB hr
theorem BkI.own {X : BlockD} {o : List Int} {lo B Bn Bl ln lcap l : Nat} {la : Option Addr} {J : List (Int × Value) → World → Prop} (aJ : ∀ s X Y, J s X → Below B X Y → J s Y) {C : Nat} (hC : B ≤ C) (hBl : B ≤ Bl) : OwnFrom C (BkI X o lo B Bn Bl ln lcap l la J) := fun pre V V' row h hg hr => by
  obtain ⟨pre', z, sv, h1, h2, h3, h4, h5, h6, h7, h8, h9⟩ := h
  have hr' : ∀ r, row = some r → ∃ o : Obj, V.heap[r]? = some o ∧ o.isCells = false := fun r e => (hr r e).2
  refine ⟨pre', z, sv, h1, h2, h3, aJ _ _ _ h4 (below_grown hg (by have := (Array.getElem?_eq_some_iff.1 h8).1; omega) (fun r e => by have := (hr r e).1; omega)), h5.grownN hg hr', h6, cell_kept h7 hg hr', box_grownN h8 hg hr', fun hp b off e => ?_⟩
  obtain ⟨c, t, z, hb⟩ := h9 hp b off e
  exact ⟨c, t, z, box_grownN hb hg hr'⟩

theorem backward_any (pa la sa : Option Addr) (pn pc ln lc sn sc : Nat) (k a t e : Int) (w : World) :
    Calls Try.prog 28 #[.agg #[.slice pa pn pc, .slice la ln lc, .int .i64 k, .int .i64 a, .int .i64 t, .int .i64 e], .agg #[.slice sa sn sc]] w fun r w' => r = .returned (.func (.func 43) #[] #[.pointer (some ⟨w.heap.size + 1, 0, none⟩), .pointer (some ⟨w.heap.size, 0, none⟩)]) ∧ w' = (w.alloc (.cells #[.slice pa pn pc, .slice la ln lc, .int .i64 k, .int .i64 a, .int .i64 t, .int .i64 e] 58)).alloc (.cells #[.slice sa sn sc] 74) := by
  go_enter Try.func28, Try.ntmps28
  go_wp2
  go_ret
  exact ⟨rfl, rfl⟩

set_option maxRecDepth 100000 in
set_option maxHeartbeats 8000000 in
theorem backw_seq (n : Nat) (hn : 3 ≤ n) (x : Nat) (X : BlockD) (o : List Int) (ha : Asc o) (ho : In80 o) (hu : Takes80 X) (Bs Bb : Nat) (sv : Value) (la : Option Addr) (ln lcap : Nat) (hln : X.list.length = ln) (w : World)
    (hset : w.cell? ⟨Bs, 0, none⟩ = some sv) (hsv : IntsAt w sv o)
    (c1 : w.cell? ⟨Bb, 1, none⟩ = some (.slice la ln lcap)) (c2 : w.cell? ⟨Bb, 2, none⟩ = some (.int .i64 X.term.k)) (c3 : w.cell? ⟨Bb, 3, none⟩ = some (.int .i64 X.term.a)) (c4 : w.cell? ⟨Bb, 4, none⟩ = some (.int .i64 X.term.t)) (c5 : w.cell? ⟨Bb, 5, none⟩ = some (.int .i64 X.term.e))
    (hL : ListAt 0 5 InsAt w (.slice la ln lcap) X.list) (hxb : Bb ≠ x) (hxl : 0 < ln → ∀ b off, la = some ⟨b, off, none⟩ → b ≠ x) :
    SeqSt Fence.wide n Try.prog 43 #[.pointer (some ⟨Bs, 0, none⟩), .pointer (some ⟨Bb, 0, none⟩)] bEnc (bDt X o w.heap.size) (bS X o w.heap.size) x (ln + 1) w := by
  intro l J Jx W hW hxW aJ aJx hY h0
  have AJ : Hid (∀ s A B, J s A → Below W.heap.size A B → J s B) := aJ
  have AX : Hid (OwnFrom W.heap.size Jx) := aJx
  have HY : Hid (∀ pre y W1, J pre W1 → bDt X o w.heap.size y W1 → pre.length < ln + 1 → YieldAt Fence.wide (n - 1) Try.prog l (bEnc y) W1 fun e W' =>
      (e = .returned (.bool true) ∧ J (pre ++ [y]) W' ∧ KeepsX x W.heap.size W1 W') ∨ (e = .returned (.bool false) ∧ Jx (pre ++ [y]) W' ∧ KeepsX x W.heap.size W1 W')) := hY
  have H0 : Hid (J [] W) := h0
  have HA : Hid (Asc o) := ha
  have HO : Hid (In80 o) := ho
  have HU : Hid (Takes80 X) := hu
  have HN : Hid (X.list.length = ln) := hln
  have HL : Hid (ListAt 0 5 InsAt W (.slice la ln lcap) X.list) := places_keep hL (Keeps.of_below hW 0)
  have HSV : Hid (IntsAt W sv o) := hsv.keep hW
  have HW : Hid (Below w.heap.size w W) := hW
  have hsz := hW.size
  replace hset := Bel.keeps hW hset
  replace c1 := Bel.keeps hW c1
  replace c2 := Bel.keeps hW c2
  replace c3 := Bel.keeps hW c3
  replace c4 := Bel.keeps hW c4
  replace c5 := Bel.keeps hW c5
  have hbs : Bs < W.heap.size := World.block_lt_of_cell? W _ hset
  have hbb : Bb < W.heap.size := World.block_lt_of_cell? W _ c1
  obtain ⟨tk, hk⟩ : ∃ z, X.term.k = z := ⟨_, rfl⟩
  obtain ⟨ta, hta⟩ : ∃ z, X.term.a = z := ⟨_, rfl⟩
  obtain ⟨tt, htt⟩ : ∃ z, X.term.t = z := ⟨_, rfl⟩
  obtain ⟨te, hte⟩ : ∃ z, X.term.e = z := ⟨_, rfl⟩
  rw [hk] at c2
  rw [hta] at c3
  rw [htt] at c4
  rw [hte] at c5
  have he80 : In80 (endsV tk ta) := by rw [← hk, ← hta]; exact hu.ends
  have HE80 : Hid (In80 (endsV tk ta)) := he80
  have hel : atS X o ln = norm80 (o ++ endsV tk ta) := by rw [← hln, atS_end, endS, hk, hta]
  have HEL : Hid (atS X o ln = norm80 (o ++ endsV tk ta)) := hel
  clear he80 hel
  clear hk hta htt hte
  obtain ⟨sa, sc, hsv0, _, _⟩ := HSV.out
  subst hsv0
  obtain ⟨sn, HSN⟩ : ∃ z, Hid (o.length = z) := ⟨_, rfl⟩
  rw [HSN.out] at hset
  have HS2 : Hid (IntsAt W (.slice sa sn sc) o) := by have := HSV.out; rwa [HSN.out] at this
  have ho80 : Hid (o.length ≤ 80) := asc_small ha ho
  clear hW aJ aJx hY h0 ha ho hu hln hL hsv HSV
  show CallsIn Fence.wide n Try.prog 43 #[.func (.yield l) #[] #[], .pointer (some ⟨Bs, 0, none⟩), .pointer (some ⟨Bb, 0, none⟩)] W _
  refine callsIn_of_wp_marks Try.func43 rfl trivial ?_ rfl
  simp only [Try.ntmps43, List.size_toArray, List.length_cons, List.length_nil, Nat.reduceAdd, Nat.reduceSub, Array.replicate_succ, Array.replicate_zero, List.push_toArray, List.append_toArray, List.nil_append, List.cons_append]
  obtain ⟨W0, hW0⟩ : ∃ W0, W.alloc (.cells #[.func (.yield l) #[] #[]] 86) = W0 := ⟨_, rfl⟩
  have BW0 : Hid (Below W.heap.size W W0) := by rw [← hW0]; exact Bel.alloc _ _
  have hs0 : W0.heap.size = W.heap.size + 1 := by rw [← hW0]; simp
  have y0 : W0.cell? ⟨W.heap.size, 0, none⟩ = some (.func (.yield l) #[] #[]) := by rw [← hW0]; simp [go_sem]
  have d0 := Bel.keeps BW0.out hset
  have h1n : 1 ≤ n := by omega
  gi_wp2_with (first
    | (refine ⟨trivial, ?_⟩; gi_at_call 44; refine (callsIn_wide.2 (copy_any sa sn sc o W0 (HS2.out.keep BW0.out) HSN.out ho80.out)).mono ?_; rintro e W1 ⟨a1, cc1, rfl, hO1, b1⟩; have BW1 : Hid (Below W.heap.size W W1) := Bel.after BW0.out b1; have O1 : Hid (OwnInts W1 W0.heap.size (.slice a1 sn cc1) o) := hO1; have hs1 := b1.size; have y1 := Bel.keeps b1 y0; have e2 := Bel.keeps BW1.out c2; have e3 := Bel.keeps BW1.out c3; have e4 := Bel.keeps BW1.out c4; have e5 := Bel.keeps BW1.out c5; have hbb1 : Bb < W1.heap.size := (by omega); clear hO1 b1)
    | (refine ⟨trivial, ?_⟩; gi_at_call 46; obtain ⟨W2, hW2⟩ : ∃ W2, W1.alloc (.cells #[.slice a1 sn cc1] 74) = W2 := ⟨_, rfl⟩; have S2 : Hid (SetIn W2 w.heap.size W1.heap.size 0 (.slice a1 sn cc1) o) := (by rw [← hW2]; exact setIn_new (O1.out.low (by omega)) _); have B2 : Hid (Below W1.heap.size W1 W2) := (by rw [← hW2]; exact Bel.alloc _ _); have hs2 : W2.heap.size = W1.heap.size + 1 := (by rw [← hW2]; simp); have y2 := Bel.keeps B2.out y1; rw [hW2]; refine (callsIn_wide.2 (impl_termUses tk ta tt te W2)).mono ?_; rintro e W3 ⟨tv, kb, rfl, hkb, hR3, b3⟩; have S3 : Hid (SetIn W3 w.heap.size W1.heap.size 0 (.slice a1 sn cc1) o) := S2.out.keep b3; have B3 : Hid (Below W1.heap.size W1 W3) := B2.out.trans (b3.mono (by omega)); have hs3 := b3.size; have y3 := Bel.keeps b3 y2; have R3 : Hid (RowNew W3 kb tv (endsV tk ta)) := hR3; clear hR3 b3 hW2)
    | (refine ⟨trivial, ?_⟩; gi_at_call 45; refine (callsIn_wide.2 (add_any w.heap.size W1.heap.size 0 (.slice a1 sn cc1) tv o (endsV tk ta) W3 S3.out HA.out HO.out (by omega) R3.out.at HE80.out (fun b hb => by
        obtain ⟨rfl, _, hkl, _⟩ := R3.out
        simp [Value.ownBlock] at hb
        subst hb
        exact ⟨hkl, by omega, fun e => by have := (O1.out.lt _ e.symm).2; omega⟩))).mono ?_; rintro e W5 ⟨⟨r, rfl⟩, sv5, l5, hs5, ha5, hr5, hm5, ht5, ho5⟩; have EL : l5 = atS X o ln := (by rw [HEL.out]; exact norm_eq ha5 hr5 (fun x => by rw [hm5 x, List.mem_append])); subst EL; have BW5 : Hid (Below W.heap.size W W5) := BW1.out.trans ((B3.out.mono (by omega)).trans (ht5.below (by omega) (fun k hk => by have := (O1.out.lt k hk).1; omega) (by omega))); have y5 : W5.cell? ⟨W.heap.size, 0, none⟩ = some (.func (.yield l) #[] #[]) := (World.cell?_of_block (a := ⟨W.heap.size, 0, none⟩) (ht5.block W.heap.size (by omega) (by omega) (fun e => by have := (O1.out.lt _ e.symm).1; omega))).trans y3; have f1 := Bel.keeps BW5.out c1; have S5 : Hid (SetIn W5 w.heap.size W1.heap.size 0 sv5 (atS X o ln)) := hs5; have s5 := hs5.cell; have P5 : Hid (∀ k, sv5.ownBlock = some k → W.heap.size < k) := (fun k hk => by rcases ho5 with e | e; (rw [e] at hk; have := (O1.out.lt k hk).1; omega); (have := e k hk; omega)); have J5 : Hid (J [] W5) := AJ.out _ _ _ H0.out BW5.out; have hs5' := ht5.size; obtain ⟨fn, tmps, assign, body, hy, hR⟩ := HY.out [] ((ln : Int), sv5) W5 J5.out ⟨ln, (by rw [HN.out]; exact Nat.le_refl _), rfl, S5.out.row⟩ (by simp); dsimp only [bEnc] at hy; clear hs5 ha5 hr5 hm5 ht5 ho5 y3 y1 y2 e2 e3 e4 e5)
    | fail)
  refine hR.mono ?_
  rintro e W6 (⟨rfl, hJ6, hk6⟩ | ⟨rfl, hJx6, hk6⟩)
  · have J6 : Hid (J ([] ++ [((ln : Int), sv5)]) W6) := hJ6
    have K6 : Hid (KeepsX x W.heap.size W5 W6) := hk6
    have hs6 := hk6.size
    have hnx : sv5.ownBlock ≠ some x := fun e => by have := P5.out x e; omega
    have S6 : Hid (SetIn W6 w.heap.size W1.heap.size 0 sv5 (atS X o ln)) := S5.out.keepX hk6 (by omega) hnx
    have f6 := hk6.cell (p := ⟨Bb, 1, none⟩) hxb f1
    have y6 := hk6.cell (p := ⟨W.heap.size, 0, none⟩) (by simp; omega) y5
    clear hJ6 hk6 hR hy
    gi_wp2_with (refine ⟨trivial, ?_⟩; gi_at_call 47; refine (callsIn_wide.2 (backward_of la ln lcap W6)).mono ?_; rintro e W7 ⟨rfl, hW7⟩)
    have hB7 : W7.heap[W6.heap.size]? = some (.cells #[.slice la ln lcap] 55 (0, 0)) := by rw [hW7]; exact World.alloc_heap_new W6 _
    have B7 : Hid (Below W6.heap.size W6 W7) := by rw [hW7]; exact Bel.alloc _ _
    have hs7 : W7.heap.size = W6.heap.size + 1 := by rw [hW7]; simp
    have cB7 : W7.cell? ⟨W6.heap.size, 0, none⟩ = some (.slice la ln lcap) := by simp [World.cell?, hB7]
    have LB0 : Hid (0 < ln → ∀ b off, la = some ⟨b, off, none⟩ → b < W.heap.size ∧ ∃ c t z, W7.heap[b]? = some (.cells c t z)) := fun hp b off e => by
      have hl : 0 < X.list.length := by have := HN.out; omega
      obtain ⟨b', off', e', hi⟩ := placeAt HL.out (List.getElem?_eq_getElem hl)
      rw [e] at e'
      cases e'
      have hc := hi.1
      have hlt := World.block_lt_of_cell? W _ hc
      obtain ⟨c, t, z, hb⟩ : ∃ c t z, W.heap[b]? = some (.cells c t z) := by
        unfold World.cell? at hc
        dsimp only at hc
        cases e2 : W.heap[b]? with
        | none => rw [e2] at hc; cases hc
        | some ob =>
          rw [e2] at hc
          cases ob with
          | cells c t z => exact ⟨c, t, z, rfl⟩
          | _ => cases hc
      exact ⟨hlt, c, t, z, (B7.out.block b (by dsimp only at hlt; omega)).trans (K6.out.box (hxl hp b off e) ((BW5.out.block b hlt).trans hb))⟩
    have L7 : Hid (ListAt 0 5 InsAt W7 (.slice la ln lcap) X.list) := by
      refine places_keep (w := W6) ?_ (Keeps.of_below B7.out 0)
      obtain ⟨a, cap, e, hm, hc⟩ := places_keep HL.out (Keeps.of_below BW5.out 0)
      refine ⟨a, cap, e, hm, fun hp => ?_⟩
      obtain ⟨b, off, rfl, hlo, hx⟩ := hc hp
      simp at e
      have hb : b ≠ x := hxl (by have := HN.out; omega) b off e.1
      refine ⟨b, off, rfl, hlo, fun i y hi => ?_⟩
      obtain ⟨q0, q1, q2, q3, q4⟩ := hx i y hi
      exact ⟨K6.out.cell hb q0, K6.out.cell hb q1, K6.out.cell hb q2, K6.out.cell hb q3, K6.out.cell hb q4⟩
    have I7 : BkI X o w.heap.size W.heap.size W1.heap.size W6.heap.size ln lcap l la J [] W7 := by
      refine ⟨[((ln : Int), sv5)], (ln : Int), sv5, rfl, ?_, rfl, AJ.out _ _ _ J6.out (B7.out.mono (by omega)), S6.out.keep B7.out, P5.out, Bel.keeps B7.out y6, hB7, fun hp b off e => (LB0.out hp b off e).2⟩
      have := S6.out.row.lenV
      simp [lensDown, HN.out, this]
    rw [← hW7]
    clear hW7
    have hown : OwnFrom W7.heap.size (BkI X o w.heap.size W.heap.size W1.heap.size W6.heap.size ln lcap l la J) := BkI.own AJ.out (by omega) (by omega)
    refine wpIn_rangeFunc_ord (α := Int × InsD) rfl h1n (gf := 69) (lb := #[.pointer (some ⟨W6.heap.size, 0, none⟩)]) rfl trivial (enters_of Try.func69 (by kernel_rfl) rfl)
      (back_ord (n - 1) (by omega) W6.heap.size X.list la ln lcap (fun k => k = W6.heap.size ∨ (0 < ln ∧ ∃ off, la = some ⟨k, off, none⟩)) (.inl rfl) (fun hp b off e => .inr ⟨hp, off, e⟩) W7 cB7 L7.out HN.out) keepsOn_t
      (fun V l' ob ob' hl hv hc _ k u hp h1 => (World.putObj_heap_other (by
        rcases hp with rfl | ⟨hp, off, e⟩
        · omega
        · have := (LB0.out hp k off e).1
          omega)).trans h1) (Below.refl _ _) (fun _ => rfl)
      (BkI X o w.heap.size W.heap.size W1.heap.size W6.heap.size ln lcap l la J)
      (fun c pre V => c = .ret ∧ ∃ p, Jx p V)
      (fun pre y a' V => bkOd X.list pre y ∧ BkI X o w.heap.size W.heap.size W1.heap.size W6.heap.size ln lcap l la J pre V ∧ ∃ Bx, W7.heap.size ≤ Bx ∧ V.heap[Bx]? = some (.cells #[.int .i64 y.2.op, .int .i64 y.2.d, .int .i64 y.2.a, .int .i64 y.2.b, .int .i64 y.2.n] 60 (0, 0)) ∧ a' = { tmps := #[.func (.yield l) #[] #[], .pointer (some ⟨Bs, 0, none⟩), .pointer (some ⟨Bb, 0, none⟩), .pointer (some ⟨W.heap.size, 0, none⟩), .pointer (some ⟨W1.heap.size, 0, none⟩), .int .i64 y.1, .pointer (some ⟨Bx, 0, none⟩), .agg #[.slice sa sn sc], .agg #[.slice a1 sn cc1], .pointer (some ⟨Bb, 2, none⟩), .agg #[.int .i64 tk, .int .i64 ta, .int .i64 tt, .int .i64 te], tv, r, .func (.yield l) #[] #[], .pointer (some ⟨Bb, 1, none⟩), .slice la ln lcap, .int .i64 ln, .agg #[sv5], .bool true, .bool false, .pointer (some ⟨Bb, 1, none⟩), .slice la ln lcap, .func (.func 69) #[] #[.pointer (some ⟨W6.heap.size, 0, none⟩)], .int .i64 y.1, .agg #[.int .i64 y.2.op, .int .i64 y.2.d, .int .i64 y.2.a, .int .i64 y.2.b, .int .i64 y.2.n], undef, undef, undef, undef, undef, undef, undef, undef, undef, undef, undef], defers := [] })
      hown
      (fun c pre V V' row h hg hr => ⟨h.1, h.2.elim fun p hp => ⟨p, AX.out p V V' row hp hg (fun r' e => ⟨by have := (hr r' e).1; omega, (hr r' e).2⟩)⟩⟩)
      (fun pre y a' _ V V' row h hg hr => ⟨h.1, hown pre V V' row h.2.1 hg hr, h.2.2.elim fun Bx hB => ⟨Bx, hB.1, box_grownN hB.2.1 hg (fun r' e => (hr r' e).2), hB.2.2⟩⟩)
      I7 ?assign ?body ?done ?stop
    case assign =>
      rintro l2 pre ⟨yi, x0, x1, x2, x3, x4⟩ V K hi hod hK
      dsimp only [bkEnc]
      gi_wp2
      refine hK _ _ ⟨hod, hown.alloc _ hi, V.heap.size, ?_, World.alloc_heap_new V _, rfl⟩ ((KeepsOthers.alloc _ _).from _) ?_
      · obtain ⟨_, _, _, _, _, _, _, _, _, _, h8, _⟩ := hi
        have := (Array.getElem?_eq_some_iff.1 h8).1
        omega
      · intro k u hp h1
        exact (Below.heap_alloc V _ k (Array.getElem?_eq_some_iff.1 h1).1).trans h1
    case body =>
      rintro l2 pre ⟨yi, x0, x1, x2, x3, x4⟩ a' V ⟨⟨j, hj, hyi, hX⟩, ⟨pre', z, sv, p1, p2, p3, hJ, hS, hP, hy0, hbl, hlb⟩, Bx, hBx, hbox, rfl⟩
      dsimp only at hyi hX hbox
      subst hyi
      have hlj : ln - pre.length = j + 1 := by have := HN.out; omega
      have HPJ : Hid (pre.length + (j + 1) = ln) := by rw [← HN.out]; exact hj
      rw [hlj] at hS
      have HX : Hid (X.list[j]? = some ⟨x0, x1, x2, x3, x4⟩) := hX
      have P1 : Hid (pre'.length = pre.length + 1) := p1
      have P2 : Hid (pre'.map (fun y => (y.1, lenV y.2)) = lensDown X o (pre.length + 1)) := p2
      have HJ : Hid (J pre' V) := hJ
      have HS : Hid (SetIn V w.heap.size W1.heap.size 0 sv (atS X o (j + 1))) := hS
      have HP : Hid (∀ k, sv.ownBlock = some k → W.heap.size < k) := hP
      have HBL : Hid (V.heap[W6.heap.size]? = some (.cells #[.slice la ln lcap] 55 (0, 0))) := hbl
      have HLB : Hid (0 < ln → ∀ b off, la = some ⟨b, off, none⟩ → ∃ c t z, V.heap[b]? = some (.cells c t z)) := hlb
      have HBX : Hid (V.heap[Bx]? = some (.cells #[.int .i64 x0, .int .i64 x1, .int .i64 x2, .int .i64 x3, .int .i64 x4] 60 (0, 0))) := hbox
      have hVs : W6.heap.size < V.heap.size := (Array.getElem?_eq_some_iff.1 hbl).1
      have b0 : V.cell? ⟨Bx, 0, none⟩ = some (.int .i64 x0) := by simp [World.cell?, hbox]
      have b1 : V.cell? ⟨Bx, 1, none⟩ = some (.int .i64 x1) := by simp [World.cell?, hbox]
      have b2 : V.cell? ⟨Bx, 2, none⟩ = some (.int .i64 x2) := by simp [World.cell?, hbox]
      have b3 : V.cell? ⟨Bx, 3, none⟩ = some (.int .i64 x3) := by simp [World.cell?, hbox]
      have b4 : V.cell? ⟨Bx, 4, none⟩ = some (.int .i64 x4) := by simp [World.cell?, hbox]
      obtain ⟨dv, HD⟩ : ∃ d, Hid (insDefV x0 x1 = d) := ⟨_, rfl⟩
      clear p1 p2 p3 hJ hS hP hbl hlb hbox hX hj hlj
      have h1n2 : 1 ≤ n - 1 - 1 := by omega
      gi_wp2_with (first
        | (refine ⟨trivial, ?_⟩; gi_at_call 49; refine (CallsIn.inRound l2 (callsIn_wide.2 (impl_insDef x0 x1 x2 x3 x4 V))).mono ?_; rintro e V1 ⟨rfl, q1⟩; rw [HD.out]; have S1 : Hid (SetIn V1 w.heap.size W1.heap.size 0 sv (atS X o (j + 1))) := HS.out.keep q1; have Q1 : Hid (Below V.heap.size V V1) := q1; have hv1 := q1.size; clear q1)
        | (refine ⟨trivial, ?_⟩; gi_at_call 48; refine (CallsIn.inRound l2 (callsIn_wide.2 (drop_any w.heap.size W1.heap.size 0 sv (atS X o (j + 1)) dv V1 S1.out (atS_ok X o (j + 1)).1 (atS_ok X o (j + 1)).2))).mono ?_; rintro e V2 ⟨⟨r2, rfl⟩, sv2, l2', hs2, ha2, hr2, hm2, ht2, ho2⟩; have K2 : Hid (StepK V V2 W1.heap.size sv) := (StepK.below Q1.out).trans ht2.stepK (.inl rfl); have S2 : Hid (SetIn V2 w.heap.size W1.heap.size 0 sv2 l2') := hs2; have A2 : Hid (Asc l2') := ha2; have R2 : Hid (In80 l2') := hr2; have M2 : Hid (∀ x, x ∈ l2' ↔ x ∈ atS X o (j + 1) ∧ x ≠ dv) := hm2; have O2 : Hid (sv2.ownBlock = sv.ownBlock ∨ ∀ b, sv2.ownBlock = some b → V.heap.size ≤ b) := (by rcases ho2 with e | e; (exact .inl e); (exact .inr (fun b hb => by have := e b hb; omega))); have B2 : Hid (Below W.heap.size V V2) := (Q1.out.mono (by omega)).trans (ht2.below (by omega) (fun k hk => by have := HP.out k hk; omega) (by omega)); have hv2 := ht2.size; have xb2 := K2.out.same Bx _ HBX.out (by omega) (not_own HS.out.row HBX.out (by decide)); have d0 : V2.cell? ⟨Bx, 0, none⟩ = some (.int .i64 x0) := (by simp [World.cell?, xb2]); have d1 : V2.cell? ⟨Bx, 1, none⟩ = some (.int .i64 x1) := (by simp [World.cell?, xb2]); have d2 : V2.cell? ⟨Bx, 2, none⟩ = some (.int .i64 x2) := (by simp [World.cell?, xb2]); have d3 : V2.cell? ⟨Bx, 3, none⟩ = some (.int .i64 x3) := (by simp [World.cell?, xb2]); have d4 : V2.cell? ⟨Bx, 4, none⟩ = some (.int .i64 x4) := (by simp [World.cell?, xb2]); clear hs2 ha2 hr2 hm2 ht2 ho2 xb2 b0 b1 b2 b3 b4)
        | (refine ⟨trivial, ?_⟩; gi_at_call 50; refine (CallsIn.inRound l2 (callsIn_wide.2 (impl_insUses x0 x1 x2 x3 x4 V2))).mono ?_; rintro e V3 ⟨uv, kb2, rfl, hkb2, hR3, q3⟩; have S3 : Hid (SetIn V3 w.heap.size W1.heap.size 0 sv2 l2') := S2.out.keep q3; have Q3 : Hid (Below V2.heap.size V2 V3) := q3; have hv3 := q3.size; have R3' : Hid (RowNew V3 kb2 uv (usesV x0 x2 x3)) := hR3; clear q3 hR3 d0 d1 d2 d3 d4)
        | (refine ⟨trivial, ?_⟩; gi_at_call 45; refine (CallsIn.inRound l2 (callsIn_wide.2 (add_any w.heap.size W1.heap.size 0 sv2 uv l2' (usesV x0 x2 x3) V3 S3.out A2.out R2.out (by omega) R3'.out.at (HU.out.uses ⟨x0, x1, x2, x3, x4⟩ (List.mem_of_getElem? HX.out)) (fun b hb => by
            obtain ⟨rfl, _, hkl, _⟩ := R3'.out
            simp [Value.ownBlock] at hb
            subst hb
            exact ⟨hkl, by omega, fun e => by have := (S2.out.row.lt _ e.symm).2; omega⟩)))).mono ?_; rintro e V4 ⟨⟨r4, rfl⟩, sv4, l4, hs4, ha4, hr4, hm4, ht4, ho4⟩; have EL : l4 = atS X o j := (by rw [atS_step HX.out, backS]; refine norm_eq ha4 hr4 (fun x => ?_); rw [hm4 x, M2.out x, List.mem_append, List.mem_filter]; dsimp only; rw [HD.out]; simp); subst EL; have K4 : Hid (StepK V V4 W1.heap.size sv) := K2.out.trans ((StepK.below Q3.out).trans ht4.stepK (.inl rfl)) O2.out; have S4 : Hid (SetIn V4 w.heap.size W1.heap.size 0 sv4 (atS X o j)) := hs4; have s4 := hs4.cell; have P4 : Hid (∀ k, sv4.ownBlock = some k → W.heap.size < k) := (fun k hk => by rcases ho4 with e | e; (rw [e] at hk; rcases O2.out with e2 | e2; (rw [e2] at hk; exact HP.out k hk); (have := e2 k hk; omega)); (have := e k hk; omega)); have B4 : Hid (Below W.heap.size V V4) := B2.out.trans ((Q3.out.mono (by omega)).trans (ht4.below (by omega) (fun k hk => by rcases O2.out with e2 | e2; (rw [e2] at hk; have := HP.out k hk; omega); (have := e2 k hk; omega)) (by omega))); have hv4 := ht4.size; have y4 : V4.cell? ⟨W.heap.size, 0, none⟩ = some (.func (.yield l) #[] #[]) := (by
            obtain ⟨ob, hob⟩ : ∃ ob, V.heap[W.heap.size]? = some ob := ⟨_, Array.getElem?_eq_getElem (by omega)⟩
            exact (World.cell?_of_block (w := V) (a := ⟨W.heap.size, 0, none⟩) ((K4.out.same _ _ hob (by omega) (fun e => by have := HP.out _ e.symm; omega)).trans hob.symm)).trans hy0); have J4 : Hid (J pre' V4) := AJ.out _ _ _ HJ.out B4.out; obtain ⟨fn, tmps, assign, body, hy, hR⟩ := yieldAt_deep (F := Fence.wide) rfl (n - 1 - 1 - 1) (HY.out pre' ((j : Int), sv4) V4 J4.out ⟨j, (by have := HPJ.out; have := HN.out; omega), rfl, S4.out.row⟩ (by have := HPJ.out; have := P1.out; omega)); dsimp only [bEnc] at hy; clear hs4 ha4 hr4 hm4 ht4 ho4)
        | fail)
      refine hR.mono ?_
      have kf : ∀ V5, KeepsX x W.heap.size V4 V5 → KeepsFrom W7.heap.size V V5 := fun V5 hk5 => ⟨Nat.le_trans K4.out.size hk5.size, fun k ob hk h0 hc => hk5.same k ob (K4.out.same k ob h0 (by omega) (not_own' HS.out.row h0 hc)) (by omega) (.inl (by omega))⟩
      rintro e V5 (⟨rfl, hJ5, hk5⟩ | ⟨rfl, hJx5, hk5⟩)
      · gi_wp2
        have hnx : sv4.ownBlock ≠ some x := fun e => by have := P4.out x e; omega
        have bl5 := hk5.box (by omega) (K4.out.same _ _ HBL.out (by omega) (not_own HS.out.row HBL.out (by decide)))
        have lb5 : 0 < ln → ∀ b off, la = some ⟨b, off, none⟩ → ∃ c t z, V5.heap[b]? = some (.cells c t z) ∧ V.heap[b]? = some (.cells c t z) := fun hp b off e => by
          obtain ⟨c, t, z, hb⟩ := HLB.out hp b off e
          have hlt := (LB0.out hp b off e).1
          exact ⟨c, t, z, hk5.box (hxl hp b off e) (K4.out.same _ _ hb (by omega) (fun e2 => by have := HP.out _ e2.symm; omega)), hb⟩
        refine ⟨kf _ hk5, ?_, pre' ++ [((j : Int), sv4)], (j : Int), sv4, by simp [P1.out], ?_, by simp, hJ5, ?_, P4.out, hk5.cell (p := ⟨W.heap.size, 0, none⟩) (by simp; omega) y4, bl5, fun hp b off e => (lb5 hp b off e).elim fun c h => h.elim fun t h => h.elim fun z h => ⟨c, t, z, h.1⟩⟩
        · intro k u hp h1
          rcases hp with rfl | ⟨hp, off, e⟩
          · rw [HBL.out] at h1
            cases h1
            exact bl5
          · obtain ⟨c, t, z, h5, h0⟩ := lb5 hp k off e
            rw [h0] at h1
            cases h1
            exact h5
        · have hl := S4.out.row.lenV
          have e1 : X.list.length - (pre.length + 1) = j := by have := HPJ.out; have := HN.out; omega
          rw [List.map_append, P2.out, List.length_append, List.length_singleton, lensDown_next X o (pre.length + 1), e1]
          simp [hl]
        · rw [List.length_append, List.length_singleton, show ln - (pre.length + 1) = j by have := HPJ.out; omega]
          exact S4.out.keepX hk5 (by omega) hnx
      · gi_wp2
        exact ⟨kf _ hk5, rfl, _, hJx5⟩
    case done =>
      rintro D ys V hD hS ⟨pre', z, sv, p1, p2, p3, hJ, hS2, hP, hy0, hbl, hlb⟩ hK
      gi_wp2
      refine ⟨by simp, .inl ⟨_, _, rfl, run_takeDeferred hK, ?_⟩⟩
      refine ⟨_, results_none rfl _ _ _, ⟨_, rfl⟩, .inl ⟨pre', ⟨?_, (z, sv), p3, ?_⟩, ?_⟩⟩
      · rw [p2, hS, HN.out]
      · rw [hS, Nat.sub_self] at hS2
        exact hS2.row.grownN (grownBy_putObj' _ D (.deferred none)) (fun r' e => by cases e; exact ⟨_, hK, rfl⟩)
      · exact AJ.out _ _ _ hJ (below_grown (grownBy_putObj' _ D (.deferred none)) (by have := (Array.getElem?_eq_some_iff.1 hbl).1; omega) (fun r' e => by cases e; omega))
    case stop =>
      rintro D c pre V hD ⟨rfl, p, hp⟩ hK
      gi_wp2
      refine ⟨by simp, .inl ⟨_, _, rfl, run_takeDeferred hK, ?_⟩⟩
      exact ⟨_, results_none rfl _ _ _, ⟨_, rfl⟩, .inr ⟨p, AX.out.putObj _ hp (by omega) hK rfl⟩⟩
  · gi_wp2
    refine ⟨_, results_none rfl _ _ _, ?_⟩
    exact ⟨⟨_, rfl⟩, .inr ⟨_, hJx6⟩⟩
end Go.Proofs.Ytjfogpbhacadbaa
