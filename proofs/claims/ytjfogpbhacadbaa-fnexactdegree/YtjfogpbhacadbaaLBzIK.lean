/- How many are needed at once: the program's Busy. -/
import Derived.Test.YtjfogpbhacadbaaLBzSK
namespace Go.Proofs.Ytjfogpbhacadbaa
open Go.ChangeShapes Go.WideShapes Go.ChangeAt Go.RowKit Go.Shelf
set_option linter.unusedVariables false
attribute [local go_sem] Oper.semAt_some

/-- The marks that ranges over a function leave behind. -/
def marksOf (Ds : List Nat) : List Deferred := Ds.map (fun D => { target := .collected D, args := #[] })
structure MarksAt (lo : Nat) (w : World) (Ds : List Nat) : Prop where
  nd : Ds.Nodup
  each : ∀ D ∈ Ds, lo ≤ D ∧ w.heap[D]? = some (.deferred (some []))
theorem MarksAt.same {lo : Nat} {w w' : World} {Ds : List Nat} (h : MarksAt lo w Ds) (hf : ∀ D ∈ Ds, w'.heap[D]? = w.heap[D]?) : MarksAt lo w' Ds :=
  ⟨h.nd, fun D hD => ⟨(h.each D hD).1, (hf D hD).trans (h.each D hD).2⟩⟩
theorem MarksAt.lt {lo : Nat} {w : World} {Ds : List Nat} (h : MarksAt lo w Ds) {D : Nat} (hD : D ∈ Ds) : D < w.heap.size := (Array.getElem?_eq_some_iff.1 (h.each D hD).2).1
/-- At the return they are taken, one by one. -/
theorem leaves_marks {F : Fence} {n : Nat} {P : Program} {fn : Func} {tmps : Array Value} {R : Ending → World → Prop} {lo : Nat} : ∀ (Ds : List Nat) (w : World), MarksAt lo w Ds →
    (∀ w', Below lo w w' → (∀ k, k < lo → w'.heap[k]? = w.heap[k]?) → LeavesIn F n P fn tmps R [] .returning w') → lo ≤ w.heap.size → LeavesInM F n P fn tmps R (marksOf Ds) .returning w
  | [], w, _, h, hl => h w (Below.refl _ _) (fun _ _ => rfl)
  | D :: Ds, w, hm, h, hl => by
    have hD := hm.each D (by simp)
    have hput : ∀ k, k ≠ D → (w.putObj D (.deferred none)).heap[k]? = w.heap[k]? := fun k hk => World.putObj_heap_other (by omega)
    have hbel : Below lo w (w.putObj D (.deferred none)) := ⟨rfl, rfl, rfl, by simp [World.putObj], fun k hk => hput k (by have := hD.1; omega)⟩
    refine ⟨by simp, .inl ⟨_, _, rfl, run_takeDeferred hD.2, ?_⟩⟩
    refine leaves_marks Ds _ ⟨(List.nodup_cons.1 hm.nd).2, fun E hE => ⟨(hm.each E (by simp [hE])).1, ?_⟩⟩ (fun w' hb hk => h w' (hbel.trans hb) (fun k hk2 => (hk k hk2).trans (hput k (by omega)))) ?_
    · rw [hput E (fun e => (List.nodup_cons.1 hm.nd).1 (e ▸ hE))]
      exact (hm.each E (by simp [hE])).2
    · have := hbel.size
      omega
/-- The greatest so far lies in its cell; all else is as it was. -/
structure BzI (w w4 : World) (X lo : Nat) (Ds : List Nat) (M : Nat) (U : World) : Prop where
  box : U.heap[X]? = some (.cells #[.int .i64 M] 3 (0, 0))
  same : ∀ k, k < w4.heap.size → k ≠ X → U.heap[k]? = w4.heap[k]?
  bel : Below w.heap.size w U
  size : w4.heap.size ≤ U.heap.size
  marks : MarksAt w4.heap.size U Ds
  room : lo ≤ U.heap.size
theorem BzI.below {w w4 U U' : World} {X lo M B : Nat} {Ds : List Nat} (h : BzI w w4 X lo Ds M U) (hb : Below B U U') (hB : w4.heap.size ≤ B) (hX : X < w4.heap.size) (hw : w.heap.size ≤ w4.heap.size) (hD : ∀ D ∈ Ds, D < B) : BzI w w4 X lo Ds M U' :=
  ⟨(hb.block _ (by omega)).trans h.box, fun k hk hne => (hb.block k (by omega)).trans (h.same k hk hne), h.bel.trans (hb.mono (by omega)), Nat.le_trans h.size hb.size, h.marks.same (fun D hm => hb.block D (hD D hm)), Nat.le_trans h.room hb.size⟩
theorem BzI.put {w w4 U : World} {X lo M : Nat} {Ds : List Nat} (h : BzI w w4 X lo Ds M U) (hX : X < w4.heap.size) (hw : w.heap.size ≤ X) (M' : Nat) : BzI w w4 X lo Ds M' (U.setCell ⟨X, 0, none⟩ (.int .i64 M')) := by
  refine ⟨?_, fun k hk hne => (Below.heap_setCell _ _ _ k hne).trans (h.same k hk hne), h.bel.setCell (p := ⟨X, 0, none⟩) hw _, by simpa using h.size, h.marks.same (fun D hm => Below.heap_setCell _ _ _ D (by have := (h.marks.each D hm).1; show D ≠ X; omega)), by simpa using h.room⟩
  obtain ⟨hlt, hk⟩ := Array.getElem?_eq_some_iff.1 h.box
  show (U.heap.modify X _)[X]? = _
  rw [Array.getElem?_eq_getElem (by rw [Array.size_modify]; exact hlt), Array.getElem_modify_self, hk]
  rfl
theorem cell_bx {w : World} {x : Nat} {a : Value} {t : TypeId} (h : w.heap[x]? = some (.cells #[a] t (0, 0))) : w.cell? ⟨x, 0, none⟩ = some a ∧ w.frozen? ⟨x, 0, none⟩ = false := ⟨by simp [World.cell?, h], by simp [World.frozen?, h]⟩
theorem ownInts_slice {w : World} {lo : Nat} {v : Value} {l : List Int} (h : OwnInts w lo v l) : ∃ a m c, v = .slice a m c := by
  rcases h.2 with ⟨h0, _⟩ | ⟨g9, c9, cur, hv, _⟩
  · exact ⟨_, _, _, h0⟩
  · exact ⟨_, _, _, hv⟩
def upMax (M : Nat) (l : List (Int × Value)) : Nat := (l.map (fun y => lenV y.2)).foldl max M
theorem upMax_next (M : Nat) (l : List (Int × Value)) (y : Int × Value) : upMax M (l ++ [y]) = max (upMax M l) (lenV y.2) := by simp [upMax]
theorem top_down {F : FnD} {k M : Nat} {x : BlockD} (hx : F.blocks[k]? = some x) (h : Top F (ToBlock F k) M) : ∀ c, c ≤ x.list.length + 1 → Top F (fun b j => ToBlock F k b j ∨ (b = k ∧ x.list.length < j + c ∧ j ≤ x.list.length)) (((lensDown x (outF F (liveL F) k) c).map (fun p => p.2)).foldl max M)
  | 0, _ => h.congr (fun b j => ⟨.inl, fun h => h.elim id (fun h => absurd h.2 (by omega))⟩)
  | c + 1, hc => by
    rw [lensDown_next, List.map_append, List.foldl_append]
    simp only [List.map_cons, List.map_nil, List.foldl_cons, List.foldl_nil]
    rw [← lenAt_at hx]
    refine (top_down hx h c (by omega)).add (fun b j => ⟨?_, ?_⟩)
    · rintro (h1 | ⟨h1, h2, h3⟩)
      · exact .inl (.inl h1)
      · by_cases e : j = x.list.length - c
        · exact .inr ⟨h1, e⟩
        · exact .inl (.inr ⟨h1, by omega, h3⟩)
    · rintro ((h1 | ⟨h1, h2, h3⟩) | ⟨h1, h2⟩)
      · exact .inl h1
      · exact .inr ⟨h1, by omega, h3⟩
      · exact .inr ⟨h1, by omega, by omega⟩
theorem top_block {F : FnD} {k M : Nat} {x : BlockD} (hx : F.blocks[k]? = some x) (h : Top F (ToBlock F k) M) {ys : List (Int × Value)} (hy : ys.map (fun y => (y.1, lenV y.2)) = lensDown x (outF F (liveL F) k) (x.list.length + 1)) : Top F (ToBlock F (k + 1)) (upMax M ys) := by
  have e : upMax M ys = ((lensDown x (outF F (liveL F) k) (x.list.length + 1)).map (fun p => p.2)).foldl max M := by
    rw [← hy, List.map_map]
    rfl
  rw [e]
  refine (top_down hx h _ (Nat.le_refl _)).congr (fun b j => ?_)
  have hpl := placesN_at hx
  unfold ToBlock
  constructor
  · rintro (h1 | ⟨rfl, h2, h3⟩)
    · exact ⟨by omega, h1.2⟩
    · exact ⟨by omega, by omega⟩
  · intro h1
    by_cases e : b = k
    · subst e
      exact .inr ⟨rfl, by omega, by omega⟩
    · exact .inl ⟨by omega, h1.2⟩

end Go.Proofs.Ytjfogpbhacadbaa
