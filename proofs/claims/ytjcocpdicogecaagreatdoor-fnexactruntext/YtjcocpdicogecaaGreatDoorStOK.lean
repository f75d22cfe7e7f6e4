/- Lists of steps of the call's own: read, kept, grown, marked, held against the marks. -/
import Derived.Test.YtjcocpdicogecaaGreatDoorStMemK
import Derived.Test.YtjcocpdicogecaaGreatDoorKOwn
namespace Go.Proofs.YtjcocpdicogecaaGreatDoor
open Go.ChangeShapes Go.WideShapes Go.ChangeAt Go.RowKit
set_option linter.unusedVariables false

def stC (l : List InsD) : List Value := l.flatMap (fun x => [.int .i64 x.op, .int .i64 x.d, .int .i64 x.a, .int .i64 x.b, .int .i64 x.n])
theorem stC_len (l : List InsD) : (stC l).length = l.length * 5 := by
  induction l with
  | nil => rfl
  | cons x l ih =>
    show (_ ++ stC l).length = _
    rw [List.length_append, ih, List.length_cons]
    simp
    omega
theorem stC_snoc (l : List InsD) (x : InsD) : stC (l ++ [x]) = stC l ++ [.int .i64 x.op, .int .i64 x.d, .int .i64 x.a, .int .i64 x.b, .int .i64 x.n] := by simp [stC]
theorem stC_app (l m : List InsD) : stC (l ++ m) = stC l ++ stC m := by simp [stC]
theorem stC_cons (x : InsD) (l : List InsD) : stC (x :: l) = [.int .i64 x.op, .int .i64 x.d, .int .i64 x.a, .int .i64 x.b, .int .i64 x.n] ++ stC l := rfl
theorem stC_get {l : List InsD} {i : Nat} {x : InsD} (hx : l[i]? = some x) {c : Nat} (hc : c < 5) : (stC l)[i * 5 + c]? = [Value.int .i64 x.op, .int .i64 x.d, .int .i64 x.a, .int .i64 x.b, .int .i64 x.n][c]? := by
  induction l generalizing i with
  | nil => simp at hx
  | cons y l ih =>
    rw [stC_cons]
    cases i with
    | zero =>
      simp at hx
      subst hx
      rw [List.getElem?_append_left (by simp; omega)]
      simp
    | succ i =>
      simp at hx
      rw [List.getElem?_append_right (by simp; omega), ← ih hx]
      congr 1
      simp
      omega
theorem stC_int {l : List InsD} {j : Nat} {u : Value} (h : (stC l)[j]? = some u) : ∃ z, u = .int .i64 z := by
  have hj : j < (stC l).length := (List.getElem?_eq_some_iff.1 h).1
  rw [stC_len] at hj
  obtain ⟨x, hx⟩ : ∃ x, l[j / 5]? = some x := ⟨_, List.getElem?_eq_getElem (by omega)⟩
  have e := stC_get hx (c := j % 5) (by omega)
  rw [show j / 5 * 5 + j % 5 = j by omega, h] at e
  have hc : j % 5 = 0 ∨ j % 5 = 1 ∨ j % 5 = 2 ∨ j % 5 = 3 ∨ j % 5 = 4 := by omega
  rcases hc with c | c | c | c | c <;> rw [c] at e <;> simp at e <;> exact ⟨_, e⟩

/-- A list of steps in memory of the call's own, in blocks from lo on. -/
def OwnSteps (w : World) (lo : Nat) (v : Value) (l : List InsD) : Prop := w.ownsRow lo 36 5 v l.length (stC l)
def GivesSteps (w : World) (l : List InsD) (e : Ending) (w' : World) : Prop := ∃ v, e = .returned v ∧ OwnSteps w' w.heap.size v l ∧ Below w.heap.size w w'
theorem OwnSteps.small {w : World} {lo : Nat} {v : Value} {l : List InsD} (h : OwnSteps w lo v l) : l.length ≤ maxLen := by
  rcases h.2 with ⟨_, h0⟩ | ⟨g, cap, cur, _, _, _, h1, h2, _⟩
  · rw [h0]; exact Nat.zero_le _
  · omega
theorem OwnSteps.row {w : World} {lo : Nat} {v : Value} {l : List InsD} (h : OwnSteps w lo v l) :
    ∃ a cap, v = .slice a l.length cap ∧ (0 < l.length → ∃ g, a = some ⟨g, 0, none⟩ ∧ lo ≤ g ∧ g < w.heap.size ∧ (∀ i x, l[i]? = some x → InsAt w g (i * 5) x) ∧ ∀ i, w.frozen? ⟨g, i, none⟩ = false) := by
  rcases h.2 with ⟨rfl, h0⟩ | ⟨g, cap, cur, rfl, hlo, hg, h1, h2, h3, h4⟩
  · exact ⟨none, 0, by rw [h0], fun hp => absurd hp (by omega)⟩
  · refine ⟨_, cap, rfl, fun hp => ⟨g, rfl, hlo, (Array.getElem?_eq_some_iff.1 hg).1, fun i x hx => ?_, fun i => by simp [World.frozen?, hg]⟩⟩
    have hi : i < l.length := (List.getElem?_eq_some_iff.1 hx).1
    have key : ∀ c u, c < 5 → [Value.int .i64 x.op, .int .i64 x.d, .int .i64 x.a, .int .i64 x.b, .int .i64 x.n][c]? = some u → w.cell? ⟨g, i * 5 + c, none⟩ = some u := fun c u hc hu => by
      have e1 : (cur.toList.take (l.length * 5))[i * 5 + c]? = cur[i * 5 + c]? := by rw [List.getElem?_take, if_pos (by omega)]; simp
      have e2 : cur[i * 5 + c]? = some u := by rw [← e1, h4, stC_get hx hc]; exact hu
      simp [World.cell?, hg, e2]
    exact ⟨key 0 _ (by omega) rfl, key 1 _ (by omega) rfl, key 2 _ (by omega) rfl, key 3 _ (by omega) rfl, key 4 _ (by omega) rfl⟩
theorem OwnSteps.at {w : World} {lo : Nat} {v : Value} {l : List InsD} (h : OwnSteps w lo v l) : StepsAt w v l := by
  have hs := h.small
  obtain ⟨a, cap, rfl, hc⟩ := h.row
  refine ⟨a, cap, rfl, by have : maxLen ≤ 9223372036854775807 := by decide
                          omega, fun hp => ?_⟩
  obtain ⟨g, rfl, _, _, hd, _⟩ := hc hp
  exact ⟨g, 0, rfl, Nat.zero_le _, fun i x hx => by rw [Nat.zero_add]; exact hd i x hx⟩
theorem OwnSteps.keep {w w' : World} {lo : Nat} {v : Value} {l : List InsD} (h : OwnSteps w lo v l) (hb : Below w.heap.size w w') : OwnSteps w' lo v l := ownsRow_later h hb
theorem OwnSteps.low {w : World} {lo lo' : Nat} {v : Value} {l : List InsD} (h : OwnSteps w lo v l) (hl : lo' ≤ lo) : OwnSteps w lo' v l := ownsRow_low h hl
theorem OwnSteps.lt {w : World} {b : Nat} {v : Value} {l : List InsD} (h : OwnSteps w b v l) : ∀ g, v.ownBlock = some g → b ≤ g ∧ g < w.heap.size := World.ownsRow.lt h
theorem OwnSteps.marked {w w' : World} {lo hi b : Nat} {v : Value} {l : List InsD} (h : OwnSteps w b v l) (m : Marked lo hi w w') (hv : ∀ g, v.ownBlock = some g → g < lo ∨ hi ≤ g) : OwnSteps w' b v l := ownsRow_marked h m hv
theorem StepsAt.keep {w w' : World} {v : Value} {l : List InsD} (h : StepsAt w v l) (hb : Below w.heap.size w w') : StepsAt w' v l := places_keep h (Keeps.of_below hb 0)
theorem StepsAt.under {w w' : World} {v : Value} {l : List InsD} (h : StepsAt w v l) {lo : Nat} (hb : Below lo w w') (hv : ∀ a, v.ownBlock = some a → a < lo) : StepsAt w' v l := by
  obtain ⟨a, cap, rfl, hm, hc⟩ := h
  refine ⟨a, cap, rfl, hm, fun hp => ?_⟩
  obtain ⟨b, off, rfl, h0, hd⟩ := hc hp
  have hbl : b < lo := hv b rfl
  refine ⟨b, off, rfl, h0, fun i x hx => ?_⟩
  obtain ⟨c0, c1, c2, c3, c4⟩ := hd i x hx
  have key : ∀ o, w'.cell? ⟨b, o, none⟩ = w.cell? ⟨b, o, none⟩ := fun o => hb.cell (p := ⟨b, o, none⟩) hbl
  exact ⟨(key _).trans c0, (key _).trans c1, (key _).trans c2, (key _).trans c3, (key _).trans c4⟩
theorem OwnSteps.next {w : World} {lo n : Nat} {v : Value} {l : List InsD} {x : InsD} (hn : l.length = n) (h : w.ownsRow lo 36 5 v (n + 1) (stC l ++ [.int .i64 x.op, .int .i64 x.d, .int .i64 x.a, .int .i64 x.b, .int .i64 x.n])) : OwnSteps w lo v (l ++ [x]) := by
  unfold OwnSteps
  rw [List.length_append, stC_snoc, List.length_singleton, hn]
  exact h
theorem OwnSteps.more {w : World} {lo : Nat} {v : Value} {l m : List InsD} (h : w.ownsRow lo 36 5 v (l.length + m.length) (stC l ++ stC m)) : OwnSteps w lo v (l ++ m) := by
  unfold OwnSteps
  rw [List.length_append, stC_app]
  exact h
theorem ownSteps_none (w : World) (lo : Nat) : OwnSteps w lo (.slice none 0 0) [] := ⟨by simp [stC], .inl ⟨rfl, rfl⟩⟩
theorem ownSteps_new {w : World} {lo g : Nat} (hg : w.heap[g]? = some (.cells #[] 36 (0, 0))) (hl : lo ≤ g) : OwnSteps w lo (.slice (some ⟨g, 0, none⟩) 0 0) [] :=
  ⟨by simp [stC], .inr ⟨g, 0, #[], rfl, hl, hg, Nat.le_refl _, Nat.zero_le _, rfl, rfl⟩⟩
theorem ownsRow_underS {w w1 : World} {lo : Nat} {t : TypeId} {s n : Nat} {v : Value} {xs : List Value} (h : w.ownsRow lo t s v n xs) (hlo : lo ≤ w.heap.size) (hg : w.grownBy w1 v.ownBlock) : Below lo w w1 := by
  refine (Below.refl lo w).grown hg hlo fun j ej => ?_
  rcases h.2 with ⟨rfl, _⟩ | ⟨g, cap, cur, rfl, hb, _, _⟩
  · simp [Value.ownBlock] at ej
  · simp [Value.ownBlock] at ej
    subst ej
    exact hb
theorem OwnSteps.under {w w1 : World} {lo : Nat} {v : Value} {l : List InsD} (h : OwnSteps w lo v l) (hlo : lo ≤ w.heap.size) (hg : w.grownBy w1 v.ownBlock) : Below lo w w1 := ownsRow_underS h hlo hg
theorem addS (b o j : Nat) : (⟨b, o, none⟩ : Addr).add j = ⟨b, o + j, none⟩ := by simp [Addr.add]
theorem info_step : (Tryz.prog.info? 36).map (fun i => (i.zero, i.size, i.bytes)) = some (some (.agg #[.int .i64 0, .int .i64 0, .int .i64 0, .int .i64 0, .int .i64 0]), 5, 40) := by kernel_rfl

/-- A list of steps, appended to one of the call's own. -/
theorem add_steps (lo : Nat) (v u : Value) (l m : List InsD) (w : World) (hv : OwnSteps w lo v l) (hlo : lo ≤ w.heap.size) (hu : StepsAt w u m) (hn : l.length + m.length ≤ 2000000) (ty : TypeId) :
    ∃ v' w', (Builtin.append_ #[22, 22] ty #[v, u]).run Tryz.prog w = .ok v' w' ∧ OwnSteps w' lo v' (l ++ m) ∧ w.grownBy w' v.ownBlock ∧ (v' = .slice none 0 0 → v = .slice none 0 0) := by
  obtain ⟨i0, hi, hz0, hz1, hz2⟩ := info_parts info_step
  obtain ⟨a, cap, rfl, hm, hc⟩ := hu
  by_cases h0 : m.length = 0
  · have hl0 : m = [] := List.eq_nil_of_length_eq_zero h0
    subst hl0
    obtain ⟨av, cv, rfl, _⟩ := hv.row
    refine ⟨.slice av l.length cv, w, ?_, by rw [List.append_nil]; exact hv, ⟨rfl, rfl, rfl, Nat.le_refl _, fun _ _ _ => rfl⟩, fun h => h⟩
    have hcv : l.length ≤ cv := by
      rcases hv.2 with ⟨e, h0⟩ | ⟨g, cap', cur, e, _, _, h1, _⟩
      · rw [h0]; exact Nat.zero_le _
      · cases e; exact h1
    cases a with
    | none => cases av <;> (simp [Builtin.append_, run_underlying Tryz.underlying22, sizeOf, typeInfo, hi, Builtin.lenOf, Builtin.firstCells, go_sem]; intro h9; omega)
    | some ad => cases av <;> (simp [Builtin.append_, run_underlying Tryz.underlying22, sizeOf, typeInfo, hi, Builtin.lenOf, Builtin.firstCells, go_sem]; intro h9; omega)
  · have hmx : 2000000 ≤ maxLen := by decide
    obtain ⟨b, off, rfl, _, hE⟩ := hc (by omega)
    obtain ⟨v', w', hrun, ho, hgr, hnil⟩ := run_append_own (P := Tryz.prog) w lo 22 ty 36 i0 (.agg #[.int .i64 0, .int .i64 0, .int .i64 0, .int .i64 0, .int .i64 0]) 5 40 Tryz.underlying22 hi hz0 hz1 hz2 rfl (by decide) v l.length (stC l) hv ⟨b, off, none⟩ m.length cap (stC m) (stC_len m) (fun j u hu => by
      have hj : j < m.length * 5 := by have := (List.getElem?_eq_some_iff.1 hu).1; rw [stC_len] at this; exact this
      obtain ⟨x, hx⟩ : ∃ x, m[j / 5]? = some x := ⟨_, List.getElem?_eq_getElem (by omega)⟩
      obtain ⟨c0, c1, c2, c3, c4⟩ := hE _ _ hx
      have e := stC_get hx (c := j % 5) (by omega)
      rw [show j / 5 * 5 + j % 5 = j by omega, hu] at e
      rw [addS]
      have hcs : j % 5 = 0 ∨ j % 5 = 1 ∨ j % 5 = 2 ∨ j % 5 = 3 ∨ j % 5 = 4 := by omega
      rcases hcs with c | c | c | c | c <;> rw [c] at e <;> simp at e <;> subst e
      · rw [show off + j = off + j / 5 * 5 by omega]; exact c0
      · rw [show off + j = off + j / 5 * 5 + 1 by omega]; exact c1
      · rw [show off + j = off + j / 5 * 5 + 2 by omega]; exact c2
      · rw [show off + j = off + j / 5 * 5 + 3 by omega]; exact c3
      · rw [show off + j = off + j / 5 * 5 + 4 by omega]; exact c4) (fun u hu => by
      obtain ⟨j, hj⟩ := List.getElem?_of_mem hu
      obtain ⟨z, rfl⟩ := stC_int hj
      rfl) (by omega) (by omega) (by omega)
    exact ⟨v', w', hrun, OwnSteps.more ho, hgr, fun e => (hnil.1 e).1⟩

/-- A list of steps is copied: append([]Step{}, l...). -/
theorem stepsCopied {w : World} {a : Option Addr} {n cap : Nat} {l : List InsD} (h : StepsAt w (.slice a n cap) l) (hn : l.length = n) (hs : n ≤ 1048576) :
    ∃ v1 w1, (∀ ty, (Builtin.append_ #[22, 22] ty #[.slice (some ⟨w.heap.size, 0, none⟩) 0 0, .slice a n cap]).run Tryz.prog (w.alloc (.cells #[] 36)) = .ok v1 w1) ∧ OwnSteps w1 w.heap.size v1 l ∧ Below w.heap.size w w1 ∧ ∃ g gcap, v1 = .slice (some ⟨g, 0, none⟩) n gcap := by
  have h0 : OwnSteps (w.alloc (.cells #[] 36)) w.heap.size (.slice (some ⟨w.heap.size, 0, none⟩) 0 0) [] := ownSteps_new (World.alloc_heap_new w _) (Nat.le_refl _)
  obtain ⟨v1, w1, hrun, ho1, hg1, hnn⟩ := add_steps w.heap.size _ _ [] l (w.alloc (.cells #[] 36)) h0 (by simp) (h.keep (Bel.alloc _ _)) (by simp; omega) 22
  rw [List.nil_append] at ho1
  refine ⟨v1, w1, fun ty => hrun, ho1, (Bel.alloc w _).trans (h0.under (by simp) hg1), ?_⟩
  rcases ho1.2 with ⟨e, _⟩ | ⟨g, c, cur, e, _⟩
  · exact absurd (hnn e) (by simp)
  · exact ⟨g, c, by rw [e, hn]⟩
/-- An append, a clear whose outcome is known. -/
theorem wpList_appendS {P : Program} (w : World) {ops : Array Oper} {rest : List Oper} {o : Oper} {a : Act} {Q : Exit → Act → World → Prop} (hgd : o.guard = none) (s x : Operand) (t t2 : TypeId)
    (ho : o.op = .call { callee := .builtin .append, args := #[s, x], argTypes := #[t, t2] }) (va vb v' : Value) (w' : World) (hs : a.eval s = va) (hx : a.eval x = vb)
    (hrun : (Builtin.append_ #[t, t2] o.type #[va, vb]).run P w = .ok v' w') (hK : wpList P ops Q rest (a.put o.dst v') w') : wpList P ops Q (o :: rest) a w := by
  refine wpList_plain hgd fun K' hK' => ?_
  unfold Oper.wp
  simp [execOp, ho, resolve, invoke, builtin, hs, hx, hrun, Result.andThen]
  exact hK' _ _ hK
theorem wpList_clearS {P : Program} (w : World) {ops : Array Oper} {rest : List Oper} {o : Oper} {a : Act} {Q : Exit → Act → World → Prop} (hgd : o.guard = none) (s : Operand) (t : TypeId)
    (ho : o.op = .call { callee := .builtin .clear, args := #[s], argTypes := #[t] }) (va v' : Value) (w' : World) (hs : a.eval s = va)
    (hrun : (Builtin.clear_ #[t] o.type #[va]).run P w = .ok v' w') (hK : wpList P ops Q rest (a.put o.dst v') w') : wpList P ops Q (o :: rest) a w := by
  refine wpList_plain hgd fun K' hK' => ?_
  unfold Oper.wp
  simp [execOp, ho, resolve, invoke, builtin, hs, hrun, Result.andThen]
  exact hK' _ _ hK
/-- Block G is a row of m cells of steps that can be written. -/
def StBlk (w : World) (G m : Nat) : Prop := ∃ cur : Array Value, w.heap[G]? = some (.cells cur 36 (0, 0)) ∧ cur.size = m
theorem StBlk.keep {w w' : World} {G m : Nat} (h : StBlk w G m) (hb : Below w.heap.size w w') : StBlk w' G m := by
  obtain ⟨cur, h1, h2⟩ := h
  exact ⟨cur, (hb.block G (Array.getElem?_eq_some_iff.1 h1).1).trans h1, h2⟩
theorem StBlk.cell {w : World} {G m : Nat} (h : StBlk w G m) {j : Nat} (hj : j < m) : (∃ v, w.cell? ⟨G, j, none⟩ = some v) ∧ w.frozen? ⟨G, j, none⟩ = false := by
  obtain ⟨cur, h1, h2⟩ := h
  refine ⟨⟨cur[j]'(by omega), ?_⟩, by simp [World.frozen?, h1]⟩
  simp [World.cell?, h1]
theorem StBlk.set {w : World} {G m : Nat} (h : StBlk w G m) (j : Nat) (v : Value) : StBlk (w.setCell ⟨G, j, none⟩ v) G m := by
  obtain ⟨cur, h1, h2⟩ := h
  exact ⟨_, heap_setCell_same _ _ _ _ _ _ h1, by simpa using h2⟩
theorem StBlk.sets {w : World} {G m : Nat} (vs : List Value) (o : Nat) (h : StBlk w G m) : StBlk (w.setCells G o vs) G m := by
  induction vs generalizing w o with
  | nil => exact h
  | cons v vs ih => exact ih _ (h.set o v)
theorem OwnSteps.blk {w : World} {lo g n cap : Nat} {l : List InsD} (h : OwnSteps w lo (.slice (some ⟨g, 0, none⟩) n cap) l) : StBlk w g (cap * 5) ∧ lo ≤ g ∧ g < w.heap.size ∧ n ≤ cap ∧ cap ≤ maxLen ∧ l.length = n := by
  rcases h.2 with ⟨e, _⟩ | ⟨g', cap', cur, e, hlo, hg, h1, h2, h3, _⟩
  · cases e
  · cases e
    exact ⟨⟨cur, hg, h3⟩, hlo, (Array.getElem?_eq_some_iff.1 hg).1, h1, h2, rfl⟩
/-- Cells that were filled are a list of the call's own. -/
theorem ownSteps_of {w : World} {lo G n cap : Nat} {l : List InsD} (h : StBlk w G (cap * 5)) (hl : l.length = n) (hc : n ≤ cap) (hn : cap ≤ maxLen) (hlo : lo ≤ G) (hx : ∀ i x, l[i]? = some x → InsAt w G (i * 5) x) : OwnSteps w lo (.slice (some ⟨G, 0, none⟩) n cap) l := by
  obtain ⟨cur, h1, h2⟩ := h
  subst hl
  refine ⟨stC_len l, .inr ⟨G, cap, cur, rfl, hlo, h1, hc, hn, h2, ?_⟩⟩
  apply List.ext_getElem?
  intro j
  by_cases hj : j < l.length * 5
  · rw [List.getElem?_take_of_lt hj]
    obtain ⟨x, hxx⟩ : ∃ x, l[j / 5]? = some x := ⟨_, List.getElem?_eq_getElem (by omega)⟩
    obtain ⟨c0, c1, c2, c3, c4⟩ := hx _ _ hxx
    have e := stC_get hxx (c := j % 5) (by omega)
    rw [show j / 5 * 5 + j % 5 = j by omega] at e
    rw [e]
    have hcell : ∀ i, w.cell? ⟨G, i, none⟩ = cur.toList[i]? := fun i => by simp [World.cell?, h1]
    rw [← hcell]
    have hcs : j % 5 = 0 ∨ j % 5 = 1 ∨ j % 5 = 2 ∨ j % 5 = 3 ∨ j % 5 = 4 := by omega
    rcases hcs with c | c | c | c | c <;> rw [c]
    · rw [show j = j / 5 * 5 by omega]; simpa using c0
    · rw [show j = j / 5 * 5 + 1 by omega]; simpa using c1
    · rw [show j = j / 5 * 5 + 2 by omega]; simpa using c2
    · rw [show j = j / 5 * 5 + 3 by omega]; simpa using c3
    · rw [show j = j / 5 * 5 + 4 by omega]; simpa using c4
  · rw [List.getElem?_eq_none (by rw [List.length_take]; omega), List.getElem?_eq_none (by rw [stC_len]; omega)]

/-- So they are marked. -/
def smark (q : Int) (i : Nat) : InsD := ⟨q + (i : Int) * 5, q + (i : Int) * 5 + 1, q + (i : Int) * 5 + 2, q + (i : Int) * 5 + 3, q + (i : Int) * 5 + 4⟩
def smarks (q : Int) (n : Nat) : List InsD := (List.range n).map (smark q)
theorem smarks_len (q : Int) (n : Nat) : (smarks q n).length = n := by simp [smarks]
theorem smarks_at (q : Int) {n i : Nat} (h : i < n) : (smarks q n)[i]? = some (smark q i) := by simp [smarks, h]
theorem InsAt.cast {w : World} {b o : Nat} {x y : InsD} (h : InsAt w b o x) (e : x = y) : InsAt w b o y := e ▸ h

set_option maxHeartbeats 2000000 in
theorem markStepS_own (lo : Nat) (v : Value) (l : List InsD) (q : Int) (w : World) (hr : OwnSteps w lo v l) (hlo : lo ≤ w.heap.size) (hq : 0 ≤ q) (hq2 : q + l.length * 5 ≤ 9223372036854775807) :
    Calls Tryz.prog 8 #[v, .int .i64 q] w fun e w' => e = .returned (.int .i64 (q + l.length * 5)) ∧ Below lo w w' ∧ StepsAt w' v (smarks q l.length) := by
  have hs := hr.small
  have hmx : l.length ≤ 9223372036854775807 := by
    have : maxLen ≤ 9223372036854775807 := by decide
    omega
  obtain ⟨a, cap, rfl, hc⟩ := hr.row
  obtain ⟨n, HN⟩ : ∃ n, Hid (l.length = n) := ⟨_, rfl⟩
  rw [HN.out] at hmx hq2 hc ⊢
  have HC : Hid (0 < n → ∃ g, a = some ⟨g, 0, none⟩ ∧ lo ≤ g ∧ g < w.heap.size ∧ (∀ i x, l[i]? = some x → InsAt w g (i * 5) x) ∧ ∀ i, w.frozen? ⟨g, i, none⟩ = false) := hc
  clear hc hr hs
  go_enter Tryz.func8, Tryz.ntmps8
  go_wp2
  go_loopw [1, 5] (fun kv i wr => ∃ k : Nat, k ≤ n ∧ i = .int .i64 k ∧ kv = .int .i64 (q + k * 5) ∧ Below lo w wr ∧ ∀ g, a = some ⟨g, 0, none⟩ → ((∀ j : Nat, j < k → InsAt wr g (j * 5) (smark q j)) ∧ (∀ j : Nat, k ≤ j → j < n → ∃ x, InsAt wr g (j * 5) x) ∧ (0 < n → ∀ j : Nat, wr.frozen? ⟨g, j, none⟩ = false))) (fun _ i _ => n - (intOf i).toNat)
  case atStart =>
    refine ⟨0, Nat.zero_le _, rfl, by go_num, Below.refl _ _, fun g hg => ?_⟩
    by_cases hn0 : 0 < n
    · obtain ⟨g', e, _, _, h1, h2⟩ := HC.out hn0
      rw [hg] at e
      cases e
      exact ⟨fun j hj => absurd hj (by omega), fun j _ hj => ⟨_, h1 j _ (List.getElem?_eq_getElem (by have := HN.out; omega))⟩, fun _ => h2⟩
    · exact ⟨fun j hj => absurd hj (by omega), fun j _ hj => absurd hj (by omega), fun h => absurd h hn0⟩
  case round =>
    obtain ⟨k, hk, rfl, rfl, hfr, hdone⟩ := hrel
    have H1 : Hid (Below lo w wr) := hfr
    have H2 : Hid (∀ g, a = some ⟨g, 0, none⟩ → ((∀ j : Nat, j < k → InsAt wr g (j * 5) (smark q j)) ∧ (∀ j : Nat, k ≤ j → j < n → ∃ x, InsAt wr g (j * 5) x) ∧ (0 < n → ∀ j : Nat, wr.frozen? ⟨g, j, none⟩ = false))) := hdone
    clear hfr hdone
    by_cases hlt2 : (k : Int) < (n : Int)
    · obtain ⟨g, rfl, hg, _⟩ := HC.out (by omega)
      obtain ⟨K1, K2, K3⟩ := H2.out g rfl
      obtain ⟨x, X⟩ := K2 k (Nat.le_refl _) (by omega)
      obtain ⟨c0, c1, c2, c3, c4⟩ := X
      have K3 := K3 (by omega)
      have f0 := K3 (k * 5)
      have f1 := K3 (k * 5 + 1)
      have f2 := K3 (k * 5 + 2)
      have f3 := K3 (k * 5 + 3)
      have f4 := K3 (k * 5 + 4)
      have K1' : Hid (∀ j : Nat, j < k → InsAt wr g (j * 5) (smark q j)) := K1
      have K2' : Hid (∀ j : Nat, k ≤ j → j < n → ∃ x, InsAt wr g (j * 5) x) := K2
      have K3' : Hid (∀ j : Nat, wr.frozen? ⟨g, j, none⟩ = false) := K3
      clear K1 K2 K3
      go_wp2
      go_roundw
      case rel =>
        refine ⟨k + 1, by omega, by go_num, by go_num, ((((H1.out.setCell (p := ⟨g, k * 5, none⟩) hg _).setCell (p := ⟨g, k * 5 + 1, none⟩) hg _).setCell (p := ⟨g, k * 5 + 2, none⟩) hg _).setCell (p := ⟨g, k * 5 + 3, none⟩) hg _).setCell (p := ⟨g, k * 5 + 4, none⟩) hg _, fun g' e => ?_⟩
        cases e
        refine ⟨fun j hj => ?_, fun j hj hj2 => ?_, fun _ j => ?_⟩
        · by_cases hjk : j = k
          · subst hjk
            refine (ins_put c0 c1 c2 c3 c4).cast ?_
            simp only [smark, InsD.mk.injEq]
            exact ⟨trivial, trivial, by omega, by omega, by omega⟩
          · exact ((((((K1'.out j (by omega)).store _ _ (by omega)).store _ _ (by omega)).store _ _ (by omega)).store _ _ (by omega)).store _ _ (by omega))
        · obtain ⟨y, Y⟩ := K2'.out j (by omega) hj2
          exact ⟨y, (((((Y.store _ _ (by omega)).store _ _ (by omega)).store _ _ (by omega)).store _ _ (by omega)).store _ _ (by omega))⟩
        · simpa using K3'.out j
      case measure => simp [intOf]; omega
    · have hkn : k = n := by omega
      subst hkn
      go_wp2
      go_ret
      refine ⟨rfl, H1.out, a, cap, by rw [smarks_len], by rw [smarks_len]; exact hmx, fun hp => ?_⟩
      rw [smarks_len] at hp
      obtain ⟨g, rfl, _⟩ := HC.out hp
      refine ⟨g, 0, rfl, Nat.zero_le _, fun i x hx => ?_⟩
      have hi : i < k := by have := (List.getElem?_eq_some_iff.1 hx).1; rw [smarks_len] at this; exact this
      rw [smarks_at q hi] at hx
      cases hx
      rw [Nat.zero_add]
      exact (H2.out g rfl).1 i hi

set_option maxHeartbeats 2000000 in
theorem heldStepS_any (v : Value) (n : Nat) (q : Int) (w : World) (hr : StepsAt w v (smarks q n)) (hq : 0 ≤ q) (hq2 : q + n * 5 ≤ 9223372036854775807) :
    Calls Tryz.prog 9 #[v, .int .i64 q] w fun e w' => e = .returned (.int .i64 (q + n * 5)) ∧ w' = w := by
  obtain ⟨a, cap, rfl, hm, hc⟩ := hr
  rw [smarks_len] at hm hc ⊢
  have HC : Hid (0 < n → ∃ b off, a = some ⟨b, off, none⟩ ∧ 0 ≤ b ∧ ∀ i x, (smarks q n)[i]? = some x → InsAt w b (off + i * 5) x) := hc
  clear hc
  go_enter Tryz.func9, Tryz.ntmps9
  go_wp2
  go_loop [1, 5] (fun kv i => ∃ k : Nat, k ≤ n ∧ i = .int .i64 k ∧ kv = .int .i64 (q + k * 5)) (fun _ i => n - (intOf i).toNat)
  case atStart => exact ⟨0, Nat.zero_le _, rfl, by go_num⟩
  case round =>
    obtain ⟨k, hk, rfl, rfl⟩ := hrel
    by_cases hlt2 : (k : Int) < (n : Int)
    · obtain ⟨b, off, rfl, _, hc1⟩ := HC.out (by omega)
      obtain ⟨q1, q2, q3, q4, q5⟩ := hc1 k _ (smarks_at q (by omega))
      dsimp only [smark] at q1 q2 q3 q4 q5
      clear hc1
      go_wp2
      go_round
      case rel => exact ⟨k + 1, by omega, by go_num, by go_num⟩
      case measure => simp [intOf]; omega
    · have hkn : k = n := by omega
      subst hkn
      go_wp2
      go_ret
      exact ⟨rfl, rfl⟩
end Go.Proofs.YtjcocpdicogecaaGreatDoor
