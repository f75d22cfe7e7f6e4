/- A range over a function whose assignment lays a box of its own in each round: a law of the walk, over the library's steps. -/
import Derived.RangeFuncWrites
import Derived.Test.YtjfogpbhacadbaaRows
namespace Go.Proofs.Ytjfogpbhacadbaa
open Go.RowKit

variable {F : Fence} {n : Nat} {P : Program}

/-- What the law keeps of its own in memory: the block of the deferred calls, and the record of the loop behind it. -/
structure LoopRec (D : Nat) (fn : FuncId) (tmps : Array Value) (ps : Array Tmp) (assign body : Code) (st : LoopState) (pe : Option Code) (W : World) : Prop where
  calls : W.heap[D]? = some (.deferred (some []))
  loop : W.heap[D + 1]? = some (.loop { state := st, pending := pe, fn, tmps, params := ps, assign, body, defers := D })

theorem LoopRec.turn {D : Nat} {fn : FuncId} {tmps : Array Value} {ps : Array Tmp} {assign body : Code} {st st' : LoopState} {pe pe' : Option Code} {W : World} (h : LoopRec D fn tmps ps assign body st pe W) :
    LoopRec D fn tmps ps assign body st' pe' (W.putObj (D + 1) (.loop { state := st', pending := pe', fn, tmps, params := ps, assign, body, defers := D })) :=
  ⟨(World.putObj_heap_other (by omega)).trans h.calls, World.putObj_heap_same (Array.getElem?_eq_some_iff.1 h.loop).1⟩
theorem LoopRec.keep {D : Nat} {fn : FuncId} {tmps : Array Value} {ps : Array Tmp} {assign body : Code} {st : LoopState} {pe : Option Code} {W W' : World} (h : LoopRec D fn tmps ps assign body st pe W) (k : KeepsFrom D W W') : LoopRec D fn tmps ps assign body st pe W' :=
  ⟨k.same _ _ (Nat.le_refl _) h.calls rfl, k.same _ _ (by omega) h.loop rfl⟩

theorem wpIn_rangeFunc_box {α : Type} {g : Operand} {ps : Array Tmp} {assign body : Code} {Q : Exit → Act → World → Prop} {a : Act} {w : World}
    (hro : F.round = none) (h1 : 1 ≤ n) {gf : Nat} {lb : Array Value} (hg : a.eval g = .func (.func gf) #[] lb) (hFg : F.fn gf) (eg : ∀ args w, (callFunc gf args).run P w = .ok (.enter gf args) w)
    {encs : α → Array Value} {Kp : World → World → Prop} {S Sp : List α → Prop} {N : Nat} {w0 : World} (hseq : SeqStopsK F (n - 1) P gf lb encs Kp S Sp N w0)
    (hKt : ∀ {A B C : World}, Kp A B → Kp B C → Kp A C) (hKb : ∀ (W : World) (l : Nat) (o o' : Obj), w.heap.size ≤ l → W.heap[l]? = some o → o.isCells = false → o.isWalk = false → Kp W (W.putObj l o')) (hb0 : Below w0.heap.size w0 w) (hps : ∀ x, (encs x).size = ps.size)
    (I : List α → World → Prop) (Ix : Code → List α → World → Prop) (A : List α → α → Act → World → Prop) (hI : OwnFrom w.heap.size I) (hIx : ∀ c, OwnFrom w.heap.size (Ix c)) (hA : ∀ pre x a₁, OwnFrom w.heap.size (fun (_ : Unit) W => A pre x a₁ W)) (h0 : I [] w)
    (hassign : ∀ (l : Nat) (pre : List α) (x : α) (W : World) (K : Act → World → Prop), I pre W → (∀ a₁ W₁, A pre x a₁ W₁ → KeepsFrom w.heap.size W W₁ → Kp W W₁ → K a₁ W₁) →
      assign.wpIn (F.inRound l) (n - 1 - 1) P (Exit.then K (fun _ _ _ => False)) { tmps := (ps.zip (encs x)).foldl (fun t (p, v) => t.setIfInBounds p v) a.tmps, defers := [] } W)
    (hbody : ∀ (l : Nat) (pre : List α) (x : α) (a₁ : Act) (W : World), A pre x a₁ W → pre.length < N → body.wpIn (F.inRound l) (n - 1 - 1) P (ownPostG w.heap.size Kp I Ix (pre ++ [x]) W) a₁ W)
    (hdone : ∀ (D : Nat) (xs : List α) (W : World), w.heap.size ≤ D → S xs → I xs W → W.heap[D]? = some (.deferred (some [])) → Q .normal { a with defers := { target := .collected D, args := #[] } :: a.defers } W)
    (hstop : ∀ (D : Nat) (c : Code) (pre : List α) (W : World), w.heap.size ≤ D → Sp pre → Ix c pre W → W.heap[D]? = some (.deferred (some [])) → c.wpIn F n P Q { a with defers := { target := .collected D, args := #[] } :: a.defers } W) :
    (Code.rangeFunc g ps assign body).wpIn F n P Q a w := by
  refine wpIn_rangeFunc fun fn hfn => ?_
  rw [hro]
  have start := run_enterLoop_outer (P := P) (w := w) fn a.tmps ps assign body
  obtain ⟨w1, e1⟩ : ∃ x, (w.alloc (.deferred (some []))).alloc (.loop { state := .ready, pending := none, fn, tmps := a.tmps, params := ps, assign, body, defers := w.heap.size }) = x := ⟨_, rfl⟩
  rw [e1] at start
  have r1 : LoopRec w.heap.size fn a.tmps ps assign body .ready none w1 := by
    subst e1
    refine ⟨(Below.heap_alloc _ _ _ (by simp)).trans (World.alloc_heap_new w _), ?_⟩
    have h := World.alloc_heap_new (w.alloc (.deferred (some []))) (.loop { state := .ready, pending := none, fn, tmps := a.tmps, params := ps, assign, body, defers := w.heap.size })
    rwa [World.size_alloc] at h
  have i1 : I [] w1 := by subst e1; exact hI.alloc _ (hI.alloc _ h0)
  have s1 : w1.heap.size = w.heap.size + 2 := by subst e1; simp
  have b1 : Below w0.heap.size w0 w1 := by
    subst e1
    exact hb0.trans ((((Below.refl _ w).alloc (Nat.le_refl _) _).alloc (by simp) _).mono hb0.size)
  clear e1
  refine ⟨w.heap.size + 1, [{ target := .collected w.heap.size, args := #[] }], w1, { target := .fn (.func gf) lb, args := #[.func (.yield (w.heap.size + 1)) #[] #[]] }, w1, gf, #[.func (.yield (w.heap.size + 1)) #[] #[]] ++ lb, w1, start, ?_, ?_, ?_, fun _ => h1, ?_⟩
  · simp only [resolve, hg]
    simp [go_sem]
  · intro f' hf'
    simp [Target.leads] at hf'
    subst hf'
    exact hFg
  · simp [invoke, go_sem, eg]
  · -- a step of the iterator's own turns neither what the caller says nor the record
    have own : ∀ {X Y : World} {row : Option Nat}, (∀ r, row = some r → w1.heap.size ≤ r ∧ ∃ o : Obj, X.heap[r]? = some o ∧ o.isWalk = true) → ∀ r, row = some r → w.heap.size ≤ r ∧ ∃ o : Obj, X.heap[r]? = some o ∧ o.isCells = false := fun h r e => by
      obtain ⟨h1, o, h2, h3⟩ := h r e
      exact ⟨by omega, o, h2, Obj.not_cells_of_walk h3⟩
    have recs : ∀ {st : LoopState} {pe : Option Code} {X Y : World} {row : Option Nat}, LoopRec w.heap.size fn a.tmps ps assign body st pe X → X.grownBy Y row → (∀ r, row = some r → w1.heap.size ≤ r ∧ ∃ o : Obj, X.heap[r]? = some o ∧ o.isWalk = true) → LoopRec w.heap.size fn a.tmps ps assign body st pe Y := fun h hg' hr =>
      ⟨(grownBy_keeps hg' (fun r e => (hr r e).2) h.calls rfl).trans h.calls, (grownBy_keeps hg' (fun r e => (hr r e).2) h.loop rfl).trans h.loop⟩
    refine (hseq (w.heap.size + 1) (fun pre W => I pre W ∧ LoopRec w.heap.size fn a.tmps ps assign body .ready none W) (fun pre W => ∃ c, Ix c pre W ∧ LoopRec w.heap.size fn a.tmps ps assign body .done (some c) W) w1 b1
      (fun s X Y row hs hg' hr => ⟨hI s X Y row hs.1 hg' (own (Y := Y) hr), recs hs.2 hg' hr⟩)
      (fun s X Y row hs hg' hr => hs.elim fun c hc => ⟨c, hIx c s X Y row hc.1 hg' (own (Y := Y) hr), recs hc.2 hg' hr⟩) ?_ ⟨i1, r1⟩).mono ?_
    · rintro pre x W ⟨hi, hl⟩ hlen
      refine ⟨fn, _, assign, body, run_yield (P := P) (args := encs x) hl.loop (hps x), roundIn_of_wpIn hfn (hassign _ pre x W _ hi fun a₁ W₁ ha hk1 hp1 => ?_)⟩
      have l1 := hl.keep hk1
      refine ⟨_, run_beginRound l1.loop rfl, ?_⟩
      have l2 := l1.turn (st' := .busy) (pe' := none)
      have hp2 : Kp W (W₁.putObj (w.heap.size + 1) (.loop { state := .busy, pending := none, fn, tmps := a.tmps, params := ps, assign, body, defers := w.heap.size })) := hKt hp1 (hKb _ _ _ _ (by omega) l1.loop rfl rfl)
      refine wpIn_mono (hbody _ pre x a₁ _ ((hA pre x a₁).putObj (s := ()) _ ha (by omega) l1.loop rfl) hlen) ?_
      intro e a3 W3 hp
      cases e with
      | normal =>
        obtain ⟨hk3, hkp3, hi3⟩ := hp
        have l3 := l2.keep hk3
        exact ⟨_, _, run_endRound none l3.loop, .inl ⟨rfl, ⟨hI.putObj _ hi3 (by omega) l3.loop rfl, l3.turn⟩, hKt (hKt hp2 hkp3) (hKb _ _ _ _ (by omega) l3.loop rfl rfl)⟩⟩
      | ret =>
        obtain ⟨hk3, hi3⟩ := hp
        have l3 := l2.keep hk3
        exact ⟨_, _, run_endRound (some .ret) l3.loop, .inr ⟨rfl, .ret, (hIx _).putObj _ hi3 (by omega) l3.loop rfl, l3.turn⟩⟩
      | exit id =>
        obtain ⟨hk3, hi3⟩ := hp
        have l3 := l2.keep hk3
        exact ⟨_, _, run_endRound (some (.exit id)) l3.loop, .inr ⟨rfl, .exit id, (hIx _).putObj _ hi3 (by omega) l3.loop rfl, l3.turn⟩⟩
      | goto t =>
        obtain ⟨hk3, hi3⟩ := hp
        have l3 := l2.keep hk3
        exact ⟨_, _, run_endRound (some (.goto t)) l3.loop, .inr ⟨rfl, .goto t, (hIx _).putObj _ hi3 (by omega) l3.loop rfl, l3.turn⟩⟩
      | panic ch => exact hp.elim
      | outgrown => exact hp.elim
    · rintro e W2 ⟨⟨v, rfl⟩, (⟨xs, hS, hi, hl⟩ | ⟨pre, hSp, c, hi, hl⟩)⟩
      · exact ⟨none, _, run_endLoop hl.loop (by simp), hdone _ xs _ (Nat.le_refl _) hS (hI.putObj _ hi (by omega) hl.loop rfl) ((World.putObj_heap_other (by omega)).trans hl.calls)⟩
      · exact ⟨some c, _, run_endLoop hl.loop (by simp), hstop _ c pre _ (Nat.le_refl _) hSp ((hIx c).putObj _ hi (by omega) hl.loop rfl) ((World.putObj_heap_other (by omega)).trans hl.calls)⟩
end Go.Proofs.Ytjfogpbhacadbaa
