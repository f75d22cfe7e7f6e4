/- A program is copied (fnCopy): it reads alike, in new memory, each list in a block of memory of its own. -/
import Derived.Test.YtfmdnjnmbkgmjaaGreatDoorKCopy
import Derived.Test.YtfmdnjnmbkgmjaaGreatDoorKOwnF
import Derived.Test.YtfmdnjnmbkgmjaaGreatDoorKGraph
import Derived.Test.YtfmdnjnmbkgmjaaGreatDoorKTo
import Derived.Test.YtfmdnjnmbkgmjaaGreatDoorKEdge
import Derived.Test.YtfmdnjnmbkgmjaaGreatDoorKLast
namespace Go.Proofs.YtfmdnjnmbkgmjaaGreatDoor
open Go.ChangeShapes Go.WideShapes Go.ChangeAt Go.RowKit
set_option linter.unusedVariables false
def GivesPhis (w0 w : World) (l : List PhiD) (e : Ending) (w' : World) : Prop := ∃ a cap, e = .returned (.slice a l.length cap) ∧ (0 < l.length → ∃ g, a = some ⟨g, 0, none⟩ ∧ w.heap.size ≤ g ∧ g < w'.heap.size ∧ (∀ i p, l[i]? = some p → ∃ av, w'.cell? ⟨g, i * 2, none⟩ = some (.int .i64 p.d) ∧ w'.cell? ⟨g, i * 2 + 1, none⟩ = some av ∧ ListAt 0 2 ArmAt w0 av p.arms) ∧ ∀ j, w'.frozen? ⟨g, j, none⟩ = false) ∧ Below w.heap.size w w'
theorem phi_cells {w : World} {ad : Addr} {l : List PhiD} (hc : 0 < l.length → ∃ b off, some ad = some ⟨b, off, none⟩ ∧ 0 ≤ b ∧ ∀ i x, l[i]? = some x → PhiAt 0 w b (off + i * 2) x) : CellsAt w ad (l.length * 2) := by
  intro j hj
  obtain ⟨b, off, he, _, hE⟩ := hc (by omega)
  cases he
  obtain ⟨x, hx⟩ : ∃ x, l[j / 2]? = some x := ⟨_, List.getElem?_eq_getElem (by omega)⟩
  obtain ⟨q0, av, q1, a, cap, rfl, _⟩ := hE _ x hx
  rw [add_none]
  have h2 : j % 2 = 0 ∨ j % 2 = 1 := by omega
  rcases h2 with h | h
  · exact ⟨_, by rw [show off + j = off + j / 2 * 2 by omega]; exact q0, rfl⟩
  · exact ⟨_, by rw [show off + j = off + j / 2 * 2 + 1 by omega]; exact q1, rfl⟩
theorem copy_phi (v : Value) (l : List PhiD) (w0 w : World) (h : ListAt 0 2 (PhiAt 0) w0 v l) (hb0 : Below w0.heap.size w0 w) (hn : l.length ≤ 1048576) :
    Calls Tryz.prog 99 #[v] w fun e w' => GivesPhis w0 w l e w' := by
  obtain ⟨a, cap, rfl, hm, hc⟩ := h
  cases a with
  | none =>
    have h0 : l.length = 0 := by
      rcases Nat.eq_zero_or_pos l.length with h | h
      · exact h
      · obtain ⟨b, off, e, _⟩ := hc h
        cases e
    refine (clone_phi_nil _ _ w).mono ?_
    rintro e w' ⟨rfl, rfl⟩
    exact ⟨none, 0, by rw [h0], fun hp => absurd hp (by omega), Below.refl _ _⟩
  | some ad =>
    refine (clone_phi ad _ cap w (phi_cells (fun hp => by obtain ⟨b, off, he, h0, hE⟩ := hc hp; exact ⟨b, off, he, h0, fun i x hx => (hE i x hx).keep (Keeps.of_below hb0 0) (Nat.zero_le _)⟩)) hn).mono ?_
    rintro e w' ⟨g, cap', rfl, hlo, hlt, hcp, hfz, hb⟩
    refine ⟨_, cap', rfl, fun hp => ⟨g, rfl, hlo, hlt, fun i p hx => ?_, hfz⟩, hb⟩
    have hi : i < l.length := (List.getElem?_eq_some_iff.1 hx).1
    obtain ⟨b, off, he, _, hE⟩ := hc hp
    cases he
    obtain ⟨q0, av, q1, q2⟩ := hE i p hx
    refine ⟨av, ?_, ?_, q2⟩
    · rw [hcp _ (by omega), add_none]
      exact Bel.keeps hb0 q0
    · rw [hcp _ (by omega), add_none, ← Nat.add_assoc]
      exact Bel.keeps hb0 q1
theorem block_cells {w : World} {b off : Nat} {l : List BlockD} (hE : ∀ i x, l[i]? = some x → BlockAt 0 w b (off + i * 6) x) : CellsAt w ⟨b, off, none⟩ (l.length * 6) := by
  intro j hj
  obtain ⟨x, hx⟩ : ∃ x, l[j / 6]? = some x := ⟨_, List.getElem?_eq_getElem (by omega)⟩
  obtain ⟨pv, lv, q0, q1, q2, q3, q4, q5, ⟨a, cap, rfl, _⟩, ⟨a2, cap2, rfl, _⟩⟩ := hE _ x hx
  rw [add_none]
  have h6 : j % 6 = 0 ∨ j % 6 = 1 ∨ j % 6 = 2 ∨ j % 6 = 3 ∨ j % 6 = 4 ∨ j % 6 = 5 := by omega
  rcases h6 with h | h | h | h | h | h
  · exact ⟨_, by rw [show off + j = off + j / 6 * 6 by omega]; exact q0, rfl⟩
  · exact ⟨_, by rw [show off + j = off + j / 6 * 6 + 1 by omega]; exact q1, rfl⟩
  · exact ⟨_, by rw [show off + j = off + j / 6 * 6 + 2 by omega]; exact q2, rfl⟩
  · exact ⟨_, by rw [show off + j = off + j / 6 * 6 + 3 by omega]; exact q3, rfl⟩
  · exact ⟨_, by rw [show off + j = off + j / 6 * 6 + 4 by omega]; exact q4, rfl⟩
  · exact ⟨_, by rw [show off + j = off + j / 6 * 6 + 5 by omega]; exact q5, rfl⟩
theorem box_set0 {w : World} {X : Nat} {a b : Value} {T : TypeId} {z : Nat × Nat} (h : w.heap[X]? = some (.cells #[a, b] T z)) (u : Value) : (w.setCell ⟨X, 0, none⟩ u).heap[X]? = some (.cells #[u, b] T z) := by
  simp [World.setCell, Array.getElem?_modify, h]
def GivesO (w : World) (F : FnD) (e : Ending) (w' : World) : Prop := ∃ bv own, e = .returned (.agg #[bv, .int .i64 F.values]) ∧ FnO w.heap.size own w' bv F.blocks ∧ Below w.heap.size w w'
def OwnIn (own : OwnF) (lo : Nat) (w : World) : Prop := ∀ g, (own g).1 ≤ 3 → lo ≤ g ∧ g < w.heap.size ∧ ∀ j, w.frozen? ⟨g, j, none⟩ = false
theorem ListO.own {α : Type} {own own' : OwnF} {c : Nat × Nat × Nat} {k : Nat} {E E' : Nat → World → Nat → Nat → α → Prop} {w w' : World} {v : Value} {l : List α} (h : ListO (fun g => own g = c) k E w v l) (ho : ∀ g, own g = c → own' g = c) (hE : ∀ i b o x, own b = c → E i w b o x → E' i w' b o x) : ListO (fun g => own' g = c) k E' w' v l := h.imp ho (fun i b o x hb _ hx => hE i b o x hb hx)
theorem BlockO.own {own own' : OwnF} {i lo : Nat} {w w' : World} {b o b' o' : Nat} {x : BlockD} (h : BlockO own i w b o x) (ho : ∀ g, (own g).1 ≤ 3 → own' g = own g) (hlo : ∀ g, (own g).1 ≤ 3 → lo ≤ g) (hk : Keeps lo w w') (hc : ∀ c, c < 6 → w'.cell? ⟨b', o' + c, none⟩ = w.cell? ⟨b, o + c, none⟩) : BlockO own' i w' b' o' x := by
  obtain ⟨pv, lv, c0, c1, c2, c3, c4, c5, hp, hl⟩ := h
  have hoc : ∀ c : Nat × Nat × Nat, c.1 ≤ 3 → ∀ g, own g = c → own' g = c := fun c h3 g hg => (ho g (by rw [hg]; exact h3)).trans hg
  refine ⟨pv, lv, (hc 0 (by omega)).trans c0, (hc 1 (by omega)).trans c1, (hc 2 (by omega)).trans c2, (hc 3 (by omega)).trans c3, (hc 4 (by omega)).trans c4, (hc 5 (by omega)).trans c5, hp.own (hoc _ (by simp)) (fun j b o x hb hx => ?_), hl.own (hoc _ (by simp)) (fun j b o x hb hx => hx.keep hk (hlo b (by rw [hb]; simp)))⟩
  obtain ⟨h0, av, h1, h2⟩ := hx
  have hlb : lo ≤ b := hlo b (by rw [hb]; simp)
  exact ⟨hk _ _ hlb h0, av, hk _ _ hlb h1, h2.own (hoc _ (by simp)) (fun j b o x hb hx => hx.keep hk (hlo b (by rw [hb]; simp)))⟩
structure CopyUp (w0 w : World) (F : FnD) (X R RB n cap k b0 off0 : Nat) (vals : Int) : Prop where
  bel : Below w0.heap.size w0 w
  bx : w.heap[X]? = some (.cells #[.slice (some ⟨RB, 0, none⟩) n cap, .int .i64 vals] 28 (0, 0))
  br : w.heap[R]? = some (.cells #[.slice none 0 0, .int .i64 0] 28 (0, 0))
  fz : ∀ j, w.frozen? ⟨RB, j, none⟩ = false
  lt : RB < w.heap.size
  done : ∃ own : OwnF, OwnIn own (RB + 1) w ∧ ∀ i x, F.blocks[i]? = some x → i < k → BlockO own i w RB (i * 6) x
  rest : ∀ i j, k ≤ i → i < n → j < 6 → w.cell? ⟨RB, i * 6 + j, none⟩ = w0.cell? ⟨b0, off0 + i * 6 + j, none⟩
theorem CopyUp.next {w0 w w' : World} {F : FnD} {X R RB n cap k b0 off0 : Nat} {vals : Int} (h : CopyUp w0 w F X R RB n cap k b0 off0 vals) (hX : X < RB) (hR : R < RB) (h0 : w0.heap.size ≤ RB) {x : BlockD} (hx : F.blocks[k]? = some x) (bq : Below RB w w') (hlt : RB < w'.heap.size) (hk : Keeps (RB + 1) w w') (hfz : ∀ j, w'.frozen? ⟨RB, j, none⟩ = false)
    (hfk : ∀ g, RB < g → g < w.heap.size → ∀ j, w'.frozen? ⟨g, j, none⟩ = w.frozen? ⟨g, j, none⟩)
    (ho : ∀ o, o ≠ k * 6 → o ≠ k * 6 + 1 → w'.cell? ⟨RB, o, none⟩ = w.cell? ⟨RB, o, none⟩) {pv lv : Value} (t0 : w'.cell? ⟨RB, k * 6, none⟩ = some pv) (t1 : w'.cell? ⟨RB, k * 6 + 1, none⟩ = some lv) (t2 : w.cell? ⟨RB, k * 6 + 2, none⟩ = some (.int .i64 x.term.k)) (t3 : w.cell? ⟨RB, k * 6 + 3, none⟩ = some (.int .i64 x.term.a)) (t4 : w.cell? ⟨RB, k * 6 + 4, none⟩ = some (.int .i64 x.term.t)) (t5 : w.cell? ⟨RB, k * 6 + 5, none⟩ = some (.int .i64 x.term.e))
    {new : OwnF} (hn : OwnIn new w.heap.size w') (hp : ListO (fun g => new g = (1, k, 0)) 2 (PhiO new k) w' pv x.phis) (hl : ListO (fun g => new g = (2, k, 0)) 5 (fun _ => InsAt) w' lv x.list) : CopyUp w0 w' F X R RB n cap (k + 1) b0 off0 vals := by
  have hRB := h.lt
  obtain ⟨own, hown, hdone⟩ := h.done
  have hsz := bq.size
  refine ⟨h.bel.trans (bq.mono h0), (bq.block X hX).trans h.bx, (bq.block R hR).trans h.br, hfz, hlt, ⟨fun g => if g < w.heap.size then own g else new g, fun g hg => ?_, fun i y hy hi => ?_⟩, fun i j hi hin hj => ?_⟩
  · by_cases e : g < w.heap.size
    · simp only [e, if_true] at hg
      obtain ⟨a1, a2, a3⟩ := hown g hg
      exact ⟨a1, by omega, fun j => (hfk g (by omega) e j).trans (a3 j)⟩
    · simp only [e, if_false] at hg
      obtain ⟨a1, a2, a3⟩ := hn g hg
      exact ⟨by omega, a2, a3⟩
  · by_cases e : i = k
    · subst e
      have e2 := hx.symm.trans hy
      cases e2
      have hnew : ∀ c : Nat × Nat × Nat, c.1 ≤ 3 → ∀ g, new g = c → (if g < w.heap.size then own g else new g) = c := fun c h3 g hg => by
        rw [if_neg (by have := (hn g (by rw [hg]; exact h3)).1; omega)]
        exact hg
      exact ⟨pv, lv, t0, t1, (ho _ (by omega) (by omega)).trans t2, (ho _ (by omega) (by omega)).trans t3, (ho _ (by omega) (by omega)).trans t4, (ho _ (by omega) (by omega)).trans t5, hp.own (hnew _ (by simp)) (fun j b o x hb hx => by
        obtain ⟨h0, av, h1, h2⟩ := hx
        exact ⟨h0, av, h1, h2.own (hnew _ (by simp)) (fun _ _ _ _ _ h => h)⟩), hl.own (hnew _ (by simp)) (fun _ _ _ _ _ h => h)⟩
    · exact (hdone i y hy (by omega)).own (lo := RB + 1) (fun g hg => by rw [if_pos (hown g hg).2.1]) (fun g hg => (hown g hg).1) hk (fun c hc => ho _ (by omega) (by omega))
  · rw [ho _ (by omega) (by omega)]
    exact h.rest i j (by omega) hin hj
theorem InsAt.fr {PB : Nat} {w w' : World} {b o : Nat} {x : InsD} (h : InsAt w b o x) (hf : FrB PB w w') (hb : b ≠ PB) : InsAt w' b o x := by
  have hlt := World.block_lt_of_cell? w _ h.1
  exact ⟨(hf.cell (x := ⟨b, o, none⟩) hlt hb).trans h.1, (hf.cell (x := ⟨b, o + 1, none⟩) hlt hb).trans h.2.1, (hf.cell (x := ⟨b, o + 2, none⟩) hlt hb).trans h.2.2.1, (hf.cell (x := ⟨b, o + 3, none⟩) hlt hb).trans h.2.2.2.1, (hf.cell (x := ⟨b, o + 4, none⟩) hlt hb).trans h.2.2.2.2⟩
theorem wp_skips {P : Program} {Q : Exit → Act → World → Prop} {o : Oper} {a : Act} {w w' : World} {K : Act → World → Prop} (h : (execOp a.eval o).run P w = .ok .skip w') (hk : K (a.put o.dst undef) w') : o.wp P a w K Q := by
  unfold Oper.wp
  rw [h]
  exact hk
def GivesNone (w : World) (e : Ending) (w' : World) : Prop := ∃ a c, e = .returned (.slice a 0 c) ∧ Below w.heap.size w w'
theorem clone_none (ba : Option Addr) (cap : Nat) (w : World) : Calls Tryz.prog 97 #[.slice ba 0 cap] w fun e w' => GivesNone w e w' := by
  cases ba with
  | none =>
    refine (clone_block_nil _ _ w).mono ?_
    rintro e w' ⟨rfl, rfl⟩
    exact ⟨none, 0, rfl, Below.refl _ _⟩
  | some ad =>
    refine (clone_block ad 0 cap w (fun j hj => absurd hj (by omega)) (by decide)).mono ?_
    rintro e w' ⟨g, cap', rfl, _, _, _, _, hb⟩
    exact ⟨_, cap', rfl, hb⟩
theorem fnO_none {lo : Nat} {w : World} {F : FnD} (hn : F.blocks.length = 0) (a : Option Addr) (c : Nat) : FnO lo (fun _ => (9, 0, 0)) w (.slice a 0 c) F.blocks := by
  rw [List.eq_nil_of_length_eq_zero hn]
  exact ⟨ListO.nil a c, fun g h => absurd h (by simp), fun g h => absurd h (by simp), fun g h => absurd h (by simp)⟩
theorem LiesAt.keep {α : Type} {k : Nat} {E : World → Nat → Nat → α → Prop} {lo : Nat} {w w' : World} {a : Option Addr} {l : List α} (h : LiesAt k E lo w a l) (hE : ∀ b o x, lo ≤ b → b < w.heap.size → E w b o x → E w' b o x) (hz : ∀ b, lo ≤ b → b < w.heap.size → ∀ j, w'.frozen? ⟨b, j, none⟩ = w.frozen? ⟨b, j, none⟩) (hs : w.heap.size ≤ w'.heap.size) : LiesAt k E lo w' a l := fun hp => by
  obtain ⟨g, ha, h1, h2, h3, h4⟩ := h hp
  exact ⟨g, ha, h1, by omega, fun i x hx => hE _ _ _ h1 h2 (h3 i x hx), fun j => (hz g h1 h2 j).trans (h4 j)⟩
open Classical in
noncomputable def newO (k : Nat) (la : Option Addr) (nl : Nat) (pb : Option Nat) (na : OwnF) : OwnF := fun g => if la = some ⟨g, 0, none⟩ ∧ 0 < nl then (2, k, 0) else if pb = some g then (1, k, 0) else na g
open Classical in
noncomputable def armO (na : OwnF) (sz : Nat) (aa : Option Addr) (an : Nat) (c : Nat × Nat × Nat) : OwnF := fun g => if g < sz then na g else if aa = some ⟨g, 0, none⟩ ∧ 0 < an then c else (9, 0, 0)
theorem LiesAt.listO {α : Type} {k : Nat} {E : World → Nat → Nat → α → Prop} {lo : Nat} {w : World} {a : Option Addr} {l : List α} (h : LiesAt k E lo w a l) (hm : l.length ≤ 1048576) (cap : Nat) {S : Nat → Prop} (hS : ∀ g, a = some ⟨g, 0, none⟩ → 0 < l.length → S g) : ListO S k (fun _ => E) w (.slice a l.length cap) l :=
  ⟨a, cap, rfl, by omega, fun hp => by
    obtain ⟨g, ha, _, _, h3, _⟩ := h hp
    exact ⟨g, 0, ha, hS g ha hp, fun i x hx => by rw [Nat.zero_add]; exact h3 i x hx⟩⟩
theorem copy_box {w w5 : World} {R : Nat} {ba : Option Addr} {n bcap : Nat} {vals : Int} {F : FnD} {own : OwnF} (hR : w.heap.size ≤ R) (x : w5.heap[R]? = some (.cells #[.slice none 0 0, .int .i64 0] 28 (0, 0))) (hF : FnO (R + 1) own w5 (.slice ba n bcap) F.blocks) (hB : Below w.heap.size w w5) :
    ((w5.setCell ⟨R, 0, none⟩ (.slice ba n bcap)).setCell ⟨R, 1, none⟩ (.int .i64 vals)).cell? ⟨R, 0, none⟩ = some (.slice ba n bcap) ∧ ((w5.setCell ⟨R, 0, none⟩ (.slice ba n bcap)).setCell ⟨R, 1, none⟩ (.int .i64 vals)).cell? ⟨R, 1, none⟩ = some (.int .i64 vals) ∧
    FnO w.heap.size own ((w5.setCell ⟨R, 0, none⟩ (.slice ba n bcap)).setCell ⟨R, 1, none⟩ (.int .i64 vals)) (.slice ba n bcap) F.blocks ∧ Below w.heap.size w ((w5.setCell ⟨R, 0, none⟩ (.slice ba n bcap)).setCell ⟨R, 1, none⟩ (.int .i64 vals)) := by
  have y0 : w5.cell? ⟨R, 0, none⟩ = some (.slice none 0 0) := by simp [World.cell?, x]
  have y1 : w5.cell? ⟨R, 1, none⟩ = some (.int .i64 0) := by simp [World.cell?, x]
  refine ⟨?_, World.cell?_setCell_same _ _ _ ((World.cell?_setCell_other _ _ _ _ (by simp)).trans y1), ?_, ?_⟩
  · rw [World.cell?_setCell_other _ _ _ _ (by simp)]
    exact World.cell?_setCell_same _ _ _ y0
  · refine (hF.low' (by omega)).same (fun g hg => ?_) (by simp)
    have hne : g ≠ R := by have := hF.low g hg; omega
    rw [Below.heap_setCell _ _ _ _ (show g ≠ (⟨R, 1, none⟩ : Addr).block from hne), Below.heap_setCell _ _ _ _ (show g ≠ (⟨R, 0, none⟩ : Addr).block from hne)]
  · exact (hB.setCell (p := ⟨R, 0, none⟩) hR _).setCell (p := ⟨R, 1, none⟩) hR _
set_option maxRecDepth 100000 in
set_option maxHeartbeats 16000000 in
theorem fnCopy_any (v : Value) (F : FnD) (w : World) (hF : FnAt w v F) (hs : FnSmall F) :
    Calls Tryz.prog 49 #[v] w fun e w' => GivesO w F e w' := by
  have HF : Hid (FnAt w v F) := hF
  have HSM : Hid (FnSmall F) := hs
  obtain ⟨n, HN⟩ : ∃ n, Hid (F.blocks.length = n) := ⟨_, rfl⟩
  obtain ⟨vals, HV⟩ : ∃ x, Hid (F.values = x) := ⟨_, rfl⟩
  obtain ⟨ba, bcap, rfl⟩ := hF.out HN.out HV.out
  have hnb : n ≤ 1048576 := by rw [← HN.out]; exact hs.1
  clear hF hs
  go_enter Tryz.func49, Tryz.ntmps49
  go_wp2_with fail
  obtain ⟨w1, hw1⟩ : ∃ W, (w.alloc (.cells #[.slice ba n bcap, .int .i64 vals] 28)).alloc (.cells #[.slice none 0 0, .int .i64 0] 28) = W := ⟨_, rfl⟩
  have hs1 : w1.heap.size = w.heap.size + 2 := by rw [← hw1]; simp
  have B1 : Hid (Below w.heap.size w w1) := by show Below _ _ _; rw [← hw1]; repeat (first | exact Below.refl _ _ | apply Below.drew | refine Below.alloc ?_ (by simp <;> omega) _ | refine Below.setCell ?_ (by simp <;> omega) _)
  have X1 : Hid (w1.heap[w.heap.size]? = some (.cells #[.slice ba n bcap, .int .i64 vals] 28 (0, 0))) := by
    show _ = _
    rw [← hw1, Below.heap_alloc _ _ _ (by simp)]
    exact World.alloc_heap_new w _
  have R1 : Hid (w1.heap[w.heap.size + 1]? = some (.cells #[.slice none 0 0, .int .i64 0] 28 (0, 0))) := by
    show _ = _
    rw [← hw1]
    have h := World.alloc_heap_new (w.alloc (.cells #[.slice ba n bcap, .int .i64 vals] 28)) (.cells #[.slice none 0 0, .int .i64 0] 28)
    rw [World.size_alloc] at h
    exact h
  rw [hw1]
  clear hw1
  by_cases hn0 : n = 0
  · subst hn0
    refine (clone_none _ _ _).mono ?_
    rintro e w2 ⟨a2, c2, rfl, b2⟩
    have hX2 : w2.heap[w.heap.size]? = some (.cells #[.slice ba 0 bcap, .int .i64 vals] 28 (0, 0)) := (b2.block _ (by omega)).trans X1.out
    have hR2 : w2.heap[w.heap.size + 1]? = some (.cells #[.slice none 0 0, .int .i64 0] 28 (0, 0)) := (b2.block _ (by omega)).trans R1.out
    have hc20 : w2.cell? ⟨w.heap.size, 0, none⟩ = some (.slice ba 0 bcap) := by simp [World.cell?, hX2]
    have hz20 : w2.frozen? ⟨w.heap.size, 0, none⟩ = false := by simp [World.frozen?, hX2]
    have HX2 : Hid (w2.heap[w.heap.size]? = some (.cells #[.slice ba 0 bcap, .int .i64 vals] 28 (0, 0))) := hX2
    have HR2 : Hid (w2.heap[w.heap.size + 1]? = some (.cells #[.slice none 0 0, .int .i64 0] 28 (0, 0))) := hR2
    have B2 : Hid (Below w.heap.size w w2) := Bel.after B1.out b2
    clear b2 hX2 hR2
    go_wp2_with fail
    obtain ⟨w3, hw3⟩ : ∃ W, w2.setCell ⟨w.heap.size, 0, none⟩ (.slice a2 0 c2) = W := ⟨_, rfl⟩
    have B3 : Hid (Below w.heap.size w w3) := by show Below _ _ _; rw [← hw3]; exact B2.out.setCell (p := ⟨w.heap.size, 0, none⟩) (Nat.le_refl _) _
    have HX3 : Hid (w3.heap[w.heap.size]? = some (.cells #[.slice a2 0 c2, .int .i64 vals] 28 (0, 0))) := by show _ = _; rw [← hw3]; exact box_set0 HX2.out _
    have HR3 : Hid (w3.heap[w.heap.size + 1]? = some (.cells #[.slice none 0 0, .int .i64 0] 28 (0, 0))) := by show _ = _; rw [← hw3]; exact (Below.heap_setCell _ _ _ _ (by show w.heap.size + 1 ≠ w.heap.size; omega)).trans HR2.out
    rw [hw3]
    clear hw3 hc20 hz20
    have x0 : w3.cell? ⟨w.heap.size, 0, none⟩ = some (.slice a2 0 c2) := by simp [World.cell?, HX3.out]
    have x1 : w3.cell? ⟨w.heap.size, 1, none⟩ = some (.int .i64 vals) := by simp [World.cell?, HX3.out]
    have y0 : w3.cell? ⟨w.heap.size + 1, 0, none⟩ = some (.slice none 0 0) := by simp [World.cell?, HR3.out]
    have y1 : w3.cell? ⟨w.heap.size + 1, 1, none⟩ = some (.int .i64 0) := by simp [World.cell?, HR3.out]
    have z0 : w3.frozen? ⟨w.heap.size + 1, 0, none⟩ = false := by simp [World.frozen?, HR3.out]
    have z1 : w3.frozen? ⟨w.heap.size + 1, 1, none⟩ = false := by simp [World.frozen?, HR3.out]
    obtain ⟨r0, r1, hF4, hB4⟩ := copy_box (w := w) (F := F) (vals := vals) (by omega) HR3.out (fnO_none HN.out a2 c2) B3.out
    go_loopw [14] (fun i ws => i = .int .i64 0 ∧ ws = w3) (fun _ _ => 0)
    case atStart => exact ⟨rfl, rfl⟩
    case round =>
      obtain ⟨rfl, hw⟩ := hrel
      have hw := hw.symm
      subst hw
      go_wp2_with fail
      refine bodyPost_ret (v := .agg #[.slice a2 0 c2, .int .i64 vals]) (by simp [results, Tryz.results49, go_sem, r0, r1]) rfl ?_
      exact ⟨_, _, by rw [HV.out], hF4, hB4⟩
  · obtain ⟨b0, off0, hba, hel⟩ : ∃ b off, ba = some ⟨b, off, none⟩ ∧ ∀ i x, F.blocks[i]? = some x → BlockAt 0 w b (off + i * 6) x := by
      obtain ⟨bv, he, a0, cap0, hbv, _, hc⟩ := HF.out
      have e1 : (.slice ba n bcap : Value) = bv := by simp at he; exact he.1
      rw [hbv] at e1
      simp at e1
      obtain ⟨b, off, hb, _, hel⟩ := hc (by have := HN.out; omega)
      exact ⟨b, off, e1.1.trans hb, hel⟩
    subst hba
    have HEL : Hid (∀ i x, F.blocks[i]? = some x → BlockAt 0 w b0 (off0 + i * 6) x) := hel
    have HCE : Hid (CellsAt w1 ⟨b0, off0, none⟩ (n * 6)) := by
      show CellsAt _ _ _
      rw [← HN.out]
      exact block_cells (fun i x hx => (hel i x hx).keep (Keeps.of_below B1.out 0) (Nat.zero_le _))
    clear hel
    refine (clone_block _ n bcap _ HCE.out hnb).mono ?_
    rintro e w2 ⟨RB, cap', rfl, hlo2, hlt2, hcp2, hfz2, b2⟩
    have hX2 : w2.heap[w.heap.size]? = some (.cells #[.slice (some ⟨b0, off0, none⟩) n bcap, .int .i64 vals] 28 (0, 0)) := (b2.block _ (by omega)).trans X1.out
    have HR2 : Hid (w2.heap[w.heap.size + 1]? = some (.cells #[.slice none 0 0, .int .i64 0] 28 (0, 0))) := (b2.block _ (by omega)).trans R1.out
    have hc20 : w2.cell? ⟨w.heap.size, 0, none⟩ = some (.slice (some ⟨b0, off0, none⟩) n bcap) := by simp [World.cell?, hX2]
    have hz20 : w2.frozen? ⟨w.heap.size, 0, none⟩ = false := by simp [World.frozen?, hX2]
    have HX2 : Hid (w2.heap[w.heap.size]? = some (.cells #[.slice (some ⟨b0, off0, none⟩) n bcap, .int .i64 vals] 28 (0, 0))) := hX2
    have HCP : Hid (∀ j, j < n * 6 → w2.cell? ⟨RB, j, none⟩ = w1.cell? ((⟨b0, off0, none⟩ : Addr).add j)) := hcp2
    have HFZ : Hid (∀ j, w2.frozen? ⟨RB, j, none⟩ = false) := hfz2
    have B2 : Hid (Below w.heap.size w w2) := Bel.after B1.out b2
    clear b2 hcp2 hfz2 hX2
    go_wp2_with fail
    obtain ⟨w3, hw3⟩ : ∃ W, w2.setCell ⟨w.heap.size, 0, none⟩ (.slice (some ⟨RB, 0, none⟩) n cap') = W := ⟨_, rfl⟩
    have hb0 : b0 < w.heap.size := by
      obtain ⟨x, hx⟩ : ∃ x, F.blocks[0]? = some x := ⟨_, List.getElem?_eq_getElem (by have := HN.out; omega)⟩
      obtain ⟨_, _, h0, _⟩ := HEL.out 0 x hx
      exact World.block_lt_of_cell? w _ h0
    have CU : Hid (CopyUp w w3 F w.heap.size (w.heap.size + 1) RB n cap' 0 b0 off0 vals) := by
      show CopyUp _ _ _ _ _ _ _ _ _ _ _ _
      rw [← hw3]
      refine ⟨B2.out.setCell (p := ⟨w.heap.size, 0, none⟩) (Nat.le_refl _) _, box_set0 HX2.out _, (Below.heap_setCell _ _ _ _ (by show w.heap.size + 1 ≠ w.heap.size; omega)).trans HR2.out, fun j => by simpa using HFZ.out j, by simpa using hlt2, ⟨fun _ => (9, 0, 0), fun g h => absurd h (by simp), fun i x hx hi => absurd hi (by omega)⟩, fun i j _ hi hj => ?_⟩
      rw [World.cell?_setCell_other _ _ _ _ (by intro e; have := congrArg Addr.block e; simp at this; omega), HCP.out _ (by omega), add_none, ← Nat.add_assoc]
      exact B1.out.cell (p := ⟨b0, off0 + i * 6 + j, none⟩) hb0
    rw [hw3]
    clear hw3 HX2 HR2 HCP HFZ hc20 hz20
    go_loopw [14] (fun i wr => ∃ k : Nat, k ≤ n ∧ i = .int .i64 (k : Int) ∧ CopyUp w wr F w.heap.size (w.heap.size + 1) RB n cap' k b0 off0 vals) (fun i _ => n - (intOf i).toNat)
    case atStart => exact ⟨0, Nat.zero_le _, rfl, CU.out⟩
    case round =>
      obtain ⟨wq, hwq⟩ : ∃ x, x = wr := ⟨_, rfl⟩
      subst hwq
      obtain ⟨k, hk, rfl, hcu⟩ := hrel
      have HCU : Hid (CopyUp w wq F w.heap.size (w.heap.size + 1) RB n cap' k b0 off0 vals) := hcu
      have x0 : wq.cell? ⟨w.heap.size, 0, none⟩ = some (.slice (some ⟨RB, 0, none⟩) n cap') := by simp [World.cell?, hcu.bx]
      have x1 : wq.cell? ⟨w.heap.size, 1, none⟩ = some (.int .i64 vals) := by simp [World.cell?, hcu.bx]
      by_cases hlt : (k : Int) < (n : Int)
      · obtain ⟨x, hx⟩ : ∃ x, F.blocks[k]? = some x := ⟨_, List.getElem?_eq_getElem (by have := HN.out; omega)⟩
        have HX : Hid (F.blocks[k]? = some x) := hx
        have HBS : Hid (BlockSmall x) := HSM.out.2 x (List.mem_of_getElem? hx)
        obtain ⟨pv, lv, o0, o1, o2, o3, o4, o5, hps, hls⟩ := HEL.out k x hx
        have r0 := (hcu.rest k 0 (Nat.le_refl _) (by omega) (by omega)).trans o0
        have r1 := (hcu.rest k 1 (Nat.le_refl _) (by omega) (by omega)).trans o1
        simp only [Nat.add_zero] at r0
        have R2 : Hid (wq.cell? ⟨RB, k * 6 + 2, none⟩ = some (.int .i64 x.term.k)) := (hcu.rest k 2 (Nat.le_refl _) (by omega) (by omega)).trans o2
        have R3 : Hid (wq.cell? ⟨RB, k * 6 + 3, none⟩ = some (.int .i64 x.term.a)) := (hcu.rest k 3 (Nat.le_refl _) (by omega) (by omega)).trans o3
        have R4 : Hid (wq.cell? ⟨RB, k * 6 + 4, none⟩ = some (.int .i64 x.term.t)) := (hcu.rest k 4 (Nat.le_refl _) (by omega) (by omega)).trans o4
        have R5 : Hid (wq.cell? ⟨RB, k * 6 + 5, none⟩ = some (.int .i64 x.term.e)) := (hcu.rest k 5 (Nat.le_refl _) (by omega) (by omega)).trans o5
        have HPS : Hid (ListAt 0 2 (PhiAt 0) w pv x.phis) := hps
        have HLS : Hid (ListAt 0 5 InsAt w lv x.list) := hls
        obtain ⟨np, HNP⟩ : ∃ q, Hid (x.phis.length = q) := ⟨_, rfl⟩
        obtain ⟨nl, HNL⟩ : ∃ q, Hid (x.list.length = q) := ⟨_, rfl⟩
        obtain ⟨pa, pcap, rfl, hpm, _⟩ := hps
        obtain ⟨la, lcap, rfl, hlm, _⟩ := hls
        rw [HNP.out] at r0 hpm HPS
        rw [HNL.out] at r1 hlm HLS
        have hRB : RB < wq.heap.size := hcu.lt
        have hRX : w.heap.size + 2 ≤ RB := by omega
        clear hx o0 o1 o2 o3 o4 o5 hcu
        go_wp2_with fail
        refine (copy_ins _ x.list _ (HLS.out.keep (fun b o z hb h => h.keep (Keeps.of_below HCU.out.bel 0) hb)) HBS.out.2.1).mono ?_
        rintro e w4 ⟨la', lcap', rfl, hl4, b4⟩
        have HL4 : Hid (LiesAt 5 InsAt wq.heap.size w4 la' x.list) := hl4
        clear hl4
        rw [HNL.out]
        have B4 : Hid (Below wq.heap.size wq w4) := b4
        have s1 := Bel.keeps b4 r1
        have z1 : w4.frozen? ⟨RB, k * 6 + 1, none⟩ = false := (b4.frozen (p := ⟨RB, k * 6 + 1, none⟩) hRB).trans (HCU.out.fz _)
        have s0 := Bel.keeps b4 r0
        have hRB4 : RB < w4.heap.size := Nat.lt_of_lt_of_le hRB b4.size
        clear b4 r0 r1 x0 x1
        go_wp2_with fail
        obtain ⟨w5, hw5⟩ : ∃ W, w4.setCell ⟨RB, k * 6 + 1, none⟩ (.slice la' nl lcap') = W := ⟨_, rfl⟩
        have hs5 : w5.heap.size = w4.heap.size := by rw [← hw5]; simp
        have K5 : Hid (Keeps (RB + 1) w4 w5) := by show Keeps _ _ _; rw [← hw5]; exact Keeps.setCell _ _ _ _ _ (by omega)
        have B5 : Hid (Below RB w4 w5) := by show Below _ _ _; rw [← hw5]; exact (Below.refl _ _).setCell (p := ⟨RB, k * 6 + 1, none⟩) (Nat.le_refl _) _
        have O5 : Hid (∀ o, o ≠ k * 6 + 1 → w5.cell? ⟨RB, o, none⟩ = w4.cell? ⟨RB, o, none⟩) := fun o ho => by rw [← hw5]; exact World.cell?_setCell_other _ _ _ _ (by simp <;> omega)
        have T1 : Hid (w5.cell? ⟨RB, k * 6 + 1, none⟩ = some (.slice la' nl lcap')) := by show _ = _; rw [← hw5]; exact World.cell?_setCell_same _ _ _ s1
        have Y45 : Hid (∀ p : Addr, w5.frozen? p = w4.frozen? p) := fun p => by rw [← hw5]; simp
        have Z5 : Hid (∀ j, w5.frozen? ⟨RB, j, none⟩ = w4.frozen? ⟨RB, j, none⟩) := fun j => by rw [← hw5]; simp
        rw [hw5]
        have HB5 : Hid (Below w.heap.size w w5) := (Bel.after HCU.out.bel B4.out).trans (B5.out.mono (by omega))
        clear hw5 s1 z1
        refine (copy_phi _ x.phis w _ HPS.out HB5.out HBS.out.1).mono ?_
        rintro e w6 ⟨pa', pcap', rfl, hph, b6⟩
        have HPH : Hid (0 < x.phis.length → ∃ g, pa' = some ⟨g, 0, none⟩ ∧ w5.heap.size ≤ g ∧ g < w6.heap.size ∧ (∀ i p, x.phis[i]? = some p → ∃ av, w6.cell? ⟨g, i * 2, none⟩ = some (.int .i64 p.d) ∧ w6.cell? ⟨g, i * 2 + 1, none⟩ = some av ∧ ListAt 0 2 ArmAt w av p.arms) ∧ ∀ j, w6.frozen? ⟨g, j, none⟩ = false) := hph
        rw [HNP.out] at HPH ⊢
        have B6 : Hid (Below w5.heap.size w5 w6) := b6
        have s0 := Bel.keeps b6 ((O5.out (k * 6) (by omega)).trans s0)
        have z0 : w6.frozen? ⟨RB, k * 6, none⟩ = false := (b6.frozen (p := ⟨RB, k * 6, none⟩) (by show RB < _; omega)).trans ((Z5.out _).trans ((B4.out.frozen (p := ⟨RB, k * 6, none⟩) hRB).trans (HCU.out.fz _)))
        have hs6 := b6.size
        clear b6 hph
        go_wp2_with fail
        obtain ⟨w7, hw7⟩ : ∃ W, w6.setCell ⟨RB, k * 6, none⟩ (.slice pa' np pcap') = W := ⟨_, rfl⟩
        have hs7 : w7.heap.size = w6.heap.size := by rw [← hw7]; simp
        have K7 : Hid (Keeps (RB + 1) w6 w7) := by show Keeps _ _ _; rw [← hw7]; exact Keeps.setCell _ _ _ _ _ (by omega)
        have BQ7 : Hid (Below RB wq w7) := by
          show Below _ _ _
          rw [← hw7]
          exact (((B4.out.mono (by omega)).trans B5.out).trans (B6.out.mono (by omega))).setCell (p := ⟨RB, k * 6, none⟩) (Nat.le_refl _) _
        have T0 : Hid (w7.cell? ⟨RB, k * 6, none⟩ = some (.slice pa' np pcap')) := by show _ = _; rw [← hw7]; exact World.cell?_setCell_same _ _ _ s0
        have O67 : Hid (∀ o, o ≠ k * 6 → w7.cell? ⟨RB, o, none⟩ = w6.cell? ⟨RB, o, none⟩) := fun o ho => by rw [← hw7]; exact World.cell?_setCell_other _ _ _ _ (by simp <;> omega)
        have Z7 : Hid (∀ j, w7.frozen? ⟨RB, j, none⟩ = false) := fun j => by
          rw [← hw7]
          have h : w6.frozen? ⟨RB, j, none⟩ = false := (B6.out.frozen (p := ⟨RB, j, none⟩) (by show RB < _; omega)).trans ((Z5.out _).trans ((B4.out.frozen (p := ⟨RB, j, none⟩) hRB).trans (HCU.out.fz _)))
          simpa using h
        have W67 : Hid (∀ p : Addr, p.block ≠ RB → w7.cell? p = w6.cell? p) := fun p hp => by rw [← hw7]; exact World.cell?_setCell_other _ _ _ _ (by intro e; exact hp (by rw [← e]))
        have Y67 : Hid (∀ p : Addr, w7.frozen? p = w6.frozen? p) := fun p => by rw [← hw7]; simp
        rw [hw7]
        clear hw7 s0 z0
        have T1' : Hid (w7.cell? ⟨RB, k * 6 + 1, none⟩ = some (.slice la' nl lcap')) := (O67.out _ (by omega)).trans ((B6.out.cell (p := ⟨RB, k * 6 + 1, none⟩) (by show RB < _; omega)).trans T1.out)
        have O7 : Hid (∀ o, o ≠ k * 6 → o ≠ k * 6 + 1 → w7.cell? ⟨RB, o, none⟩ = wq.cell? ⟨RB, o, none⟩) := fun o h1 h2 => (O67.out o h1).trans ((B6.out.cell (p := ⟨RB, o, none⟩) (by show RB < _; omega)).trans ((O5.out o h2).trans (B4.out.cell (p := ⟨RB, o, none⟩) hRB)))
        have KQ7 : Hid (Keeps (RB + 1) wq w7) := (((Keeps.of_below B4.out _).trans K5.out).trans (Keeps.of_below B6.out _)).trans K7.out
        have HL7 : Hid (LiesAt 5 InsAt wq.heap.size w7 la' x.list) := by
          have hb4 := B4.out.size
          refine HL4.out.keep (fun b o z hb hb2 hz => hz.keep ((K5.out.trans (Keeps.of_below B6.out _)).trans K7.out) (by omega)) (fun b hb hb2 j => ?_) (by omega)
          rw [Y67.out, B6.out.frozen (p := ⟨b, j, none⟩) (by show b < _; omega), Y45.out]
        have HF7 : Hid (∀ g, RB < g → g < wq.heap.size → ∀ j, w7.frozen? ⟨g, j, none⟩ = wq.frozen? ⟨g, j, none⟩) := fun g h1 h2 j => by
          have hb4 := B4.out.size
          rw [Y67.out, B6.out.frozen (p := ⟨g, j, none⟩) (by show g < _; omega), Y45.out, B4.out.frozen (p := ⟨g, j, none⟩) h2]
        have hnlb : nl ≤ 1048576 := by have := HBS.out.2.1; have := HNL.out; omega
        have HB7 : Hid (Below w.heap.size w w7) := HCU.out.bel.trans (BQ7.out.mono (by omega))
        by_cases hnp : np = 0
        · subst hnp
          go_loopw [42] (fun i ws => i = .int .i64 0 ∧ ws = w7) (fun _ _ => 0)
          case atStart => exact ⟨rfl, rfl⟩
          case round =>
            obtain ⟨rfl, hw⟩ := hrel
            have hw := hw.symm
            subst hw
            go_wp2_with fail
            go_roundw
            case rel =>
              refine ⟨k + 1, by omega, by go_num, HCU.out.next (by omega) (by omega) (by omega) HX.out BQ7.out (by omega) KQ7.out Z7.out HF7.out O7.out T0.out T1'.out R2.out R3.out R4.out R5.out (new := newO k la' nl none (fun _ => (9, 0, 0))) (fun g hg => ?_) ⟨pa', pcap', by rw [HNP.out], by rw [HNP.out]; omega, fun hp => absurd hp (by have := HNP.out; omega)⟩ ?_⟩
              · by_cases e : la' = some ⟨g, 0, none⟩ ∧ 0 < nl
                · obtain ⟨g2, e1, e2, e3, _, e5⟩ := HL7.out (by have := HNL.out; omega)
                  have e6 := e.1.symm.trans e1
                  simp at e6
                  subst e6
                  exact ⟨e2, e3, e5⟩
                · simp [newO, e] at hg
              · have h := HL7.out.listO (by have := HNL.out; omega) lcap' (S := fun g => newO k la' nl none (fun _ => (9, 0, 0)) g = (2, k, 0)) (fun g ha hp => by
                  have hp2 : 0 < nl := by have := HNL.out; omega
                  simp [newO, ha, hp2])
                rw [HNL.out] at h
                exact h
            case measure => simp [intOf]; omega
        · obtain ⟨PB, hpa, hPB5, hPB6, hph, hpz⟩ := HPH.out (by omega)
          subst hpa
          have HPH6 : Hid (∀ i p, x.phis[i]? = some p → ∃ av, w6.cell? ⟨PB, i * 2, none⟩ = some (.int .i64 p.d) ∧ w6.cell? ⟨PB, i * 2 + 1, none⟩ = some av ∧ ListAt 0 2 ArmAt w av p.arms) := hph
          have HPZ6 : Hid (∀ j, w6.frozen? ⟨PB, j, none⟩ = false) := hpz
          have hPR : RB + 1 ≤ PB := by omega
          clear hph hpz
          go_loopw [42] (fun i ws => ∃ g : Nat, g ≤ np ∧ i = .int .i64 (g : Int) ∧ FrB PB w7 ws ∧ (∀ j, ws.frozen? ⟨PB, j, none⟩ = false) ∧ ∃ na : OwnF, OwnIn na (PB + 1) ws ∧ ∀ i p, x.phis[i]? = some p → (i < g → PhiAt (PB + 1) ws PB (i * 2) p → True) ∧ (i < g → ∃ av, ws.cell? ⟨PB, i * 2, none⟩ = some (.int .i64 p.d) ∧ ws.cell? ⟨PB, i * 2 + 1, none⟩ = some av ∧ ListO (fun b => na b = (3, k, i)) 2 (fun _ => ArmAt) ws av p.arms) ∧ (g ≤ i → ∃ av, ws.cell? ⟨PB, i * 2, none⟩ = some (.int .i64 p.d) ∧ ws.cell? ⟨PB, i * 2 + 1, none⟩ = some av ∧ ListAt 0 2 ArmAt w av p.arms)) (fun i _ => np - (intOf i).toNat)
          case atStart => exact ⟨0, Nat.zero_le _, rfl, FrB.refl _ _, fun j => (Y67.out _).trans (HPZ6.out j), fun _ => (9, 0, 0), fun g h => absurd h (by simp), fun i p hp => ⟨fun _ _ => trivial, fun h => absurd h (by omega), fun _ => by obtain ⟨av, q0, q1, q2⟩ := HPH6.out i p hp; exact ⟨av, (W67.out _ (by show PB ≠ RB; omega)).trans q0, (W67.out _ (by show PB ≠ RB; omega)).trans q1, q2⟩⟩⟩
          case round =>
            obtain ⟨ws, hwq⟩ : ∃ x, x = wr := ⟨_, rfl⟩
            subst hwq
            obtain ⟨g, hg, rfl, hfr, hfz, na, hna, hall⟩ := hrel
            have HNA : Hid (OwnIn na (PB + 1) ws) := hna
            have HFR : Hid (FrB PB w7 ws) := hfr
            have HFZ : Hid (∀ j, ws.frozen? ⟨PB, j, none⟩ = false) := hfz
            have HALL : Hid (∀ i p, x.phis[i]? = some p → (i < g → PhiAt (PB + 1) ws PB (i * 2) p → True) ∧ (i < g → ∃ av, ws.cell? ⟨PB, i * 2, none⟩ = some (.int .i64 p.d) ∧ ws.cell? ⟨PB, i * 2 + 1, none⟩ = some av ∧ ListO (fun b => na b = (3, k, i)) 2 (fun _ => ArmAt) ws av p.arms) ∧ (g ≤ i → ∃ av, ws.cell? ⟨PB, i * 2, none⟩ = some (.int .i64 p.d) ∧ ws.cell? ⟨PB, i * 2 + 1, none⟩ = some av ∧ ListAt 0 2 ArmAt w av p.arms)) := hall
            have hPBs : PB < ws.heap.size := by have := hfr.size; omega
            have HBs : Hid (Below w.heap.size w ws) := HB7.out.trans (hfr.below (by omega) (by omega))
            have t0 : ws.cell? ⟨RB, k * 6, none⟩ = some (.slice (some ⟨PB, 0, none⟩) np pcap') := (hfr.cell (x := ⟨RB, k * 6, none⟩) (by show RB < _; omega) (by show RB ≠ PB; omega)).trans T0.out
            clear hfr hfz hall hna
            by_cases hltg : (g : Int) < (np : Int)
            · obtain ⟨p, hp⟩ : ∃ p, x.phis[g]? = some p := ⟨_, List.getElem?_eq_getElem (by have := HNP.out; omega)⟩
              have HP : Hid (x.phis[g]? = some p) := hp
              obtain ⟨av, q0, q1, q2⟩ := (HALL.out g p hp).2.2 (Nat.le_refl _)
              have HQ2 : Hid (ListAt 0 2 ArmAt w av p.arms) := q2
              have HPS2 : Hid (p.arms.length ≤ 1048576) := HBS.out.2.2 p (List.mem_of_getElem? hp)
              obtain ⟨an, HAN⟩ : ∃ q, Hid (p.arms.length = q) := ⟨_, rfl⟩
              obtain ⟨aa, acap, rfl, _, _⟩ := q2
              rw [HAN.out] at q1 HQ2
              obtain ⟨dv, HDV⟩ : ∃ q, Hid (p.d = q) := ⟨_, rfl⟩
              rw [HDV.out] at q0
              clear hp
              go_wp2_with fail
              obtain ⟨wt, hwt⟩ : ∃ W, ws.alloc (.cells #[.int .i64 dv, .slice aa an acap] 82) = W := ⟨_, rfl⟩
              have BT : Hid (Below ws.heap.size ws wt) := by show Below _ _ _; rw [← hwt]; exact Bel.alloc _ _
              have p1 : wt.cell? ⟨ws.heap.size, 1, none⟩ = some (.slice aa an acap) := by rw [← hwt]; simp [go_sem]
              rw [hwt]
              clear hwt
              obtain ⟨PX, hPX⟩ : ∃ x, ws.heap.size = x := ⟨_, rfl⟩
              rw [hPX] at p1 ⊢
              have y0 := Bel.keeps BT.out t0
              have Q1 : Hid (wt.cell? ⟨PB, g * 2 + 1, none⟩ = some (.slice aa an acap)) := Bel.keeps BT.out q1
              clear q0 q1 t0
              refine wp_noThrow (wp_region_held_drew (S := fun w' => w'.cell? ⟨RB, k * 6, none⟩ = some (.slice (some ⟨PB, 0, none⟩) np pcap') ∧ w'.cell? ⟨PX, 1, none⟩ = some (.slice aa an acap)) (by kernel_rfl) ⟨y0, p1⟩ (fun hHeld => ?_))
              refine wpAnyH_take (i := 0) (oi := { dst := some 47, op := Go.Op.move (Go.Operand.tmp 4), type := 150, pos := "l07_small.go:67", after := #[], guard := none }) (v := ?_) rfl (by kernel_rfl) (by kernel_rfl) (by kernel_rfl) (fun _ _ _ h => h) (Or.inl ⟨by rfl, ?_⟩) (by assumption) ?_
              rotate_left
              · intro w hSw
                (try dsimp only at hSw)
                go_simp
                (try with_reducible rfl)
              try simp only [Act.put, List.setIfInBounds_toArray, List.set_cons_zero, List.set_cons_succ]
              refine wpAnyH_take (i := 1) (oi := { dst := some 48, op := Go.Op.nilCheck (Go.Operand.tmp 47), type := 0, pos := "l07_small.go:67", after := #[{ on := 0, ground := Go.Ground.data }], guard := none }) (v := ?_) rfl (by kernel_rfl) (by kernel_rfl) (by kernel_rfl) (fun _ _ _ h => h) (Or.inl ⟨by rfl, ?_⟩) (by assumption) ?_
              rotate_left
              · intro w hSw
                (try dsimp only at hSw)
                go_simp
                (try with_reducible rfl)
              try simp only [Act.put, List.setIfInBounds_toArray, List.set_cons_zero, List.set_cons_succ]
              refine wpAnyH_take (i := 2) (oi := { dst := some 49, op := Go.Op.fieldAddr 55 (Go.Operand.tmp 48) 0, type := 0, pos := "l07_small.go:67", after := #[{ on := 1, ground := Go.Ground.data }], guard := none }) (v := ?_) rfl (by kernel_rfl) (by kernel_rfl) (by kernel_rfl) (fun _ _ _ h => h) (Or.inl ⟨by rfl, ?_⟩) (by assumption) ?_
              rotate_left
              · intro w hSw
                (try dsimp only at hSw)
                go_simp
                (try with_reducible rfl)
              try simp only [Act.put, List.setIfInBounds_toArray, List.set_cons_zero, List.set_cons_succ]
              refine wpAnyH_take (i := 3) (oi := { dst := some 50, op := Go.Op.load 50 (Go.Operand.tmp 49), type := 50, pos := "l07_small.go:67", after := #[{ on := 2, ground := Go.Ground.data }], guard := none }) (v := ?_) rfl (by kernel_rfl) (by kernel_rfl) (by kernel_rfl) (fun _ _ _ h => h) (Or.inl ⟨by rfl, ?_⟩) (by assumption) ?_
              rotate_left
              · intro w hSw
                (try dsimp only at hSw)
                go_simp
                (try with_reducible rfl)
              try simp only [Act.put, List.setIfInBounds_toArray, List.set_cons_zero, List.set_cons_succ]
              refine wpAnyH_take (i := 4) (oi := { dst := some 51, op := Go.Op.move (Go.Operand.tmp 5), type := 3, pos := "l07_small.go:67", after := #[], guard := none }) (v := ?_) rfl (by kernel_rfl) (by kernel_rfl) (by kernel_rfl) (fun _ _ _ h => h) (Or.inl ⟨by rfl, ?_⟩) (by assumption) ?_
              rotate_left
              · intro w hSw
                (try dsimp only at hSw)
                go_simp
                (try with_reducible rfl)
              try simp only [Act.put, List.setIfInBounds_toArray, List.set_cons_zero, List.set_cons_succ]
              refine wpAnyH_take (i := 5) (oi := { dst := some 52, op := Go.Op.fieldAddr 82 (Go.Operand.tmp 6) 1, type := 0, pos := "l07_small.go:67", after := #[], guard := none }) (v := ?_) rfl (by kernel_rfl) (by kernel_rfl) (by kernel_rfl) (fun _ _ _ h => h) (Or.inl ⟨by rfl, ?_⟩) (by assumption) ?_
              rotate_left
              · intro w hSw
                (try dsimp only at hSw)
                go_simp
                (try with_reducible rfl)
              try simp only [Act.put, List.setIfInBounds_toArray, List.set_cons_zero, List.set_cons_succ]
              refine wpAnyH_take (i := 6) (oi := { dst := some 53, op := Go.Op.load 80 (Go.Operand.tmp 52), type := 80, pos := "l07_small.go:67", after := #[{ on := 5, ground := Go.Ground.data }], guard := none }) (v := ?_) rfl (by kernel_rfl) (by kernel_rfl) (by kernel_rfl) (fun _ _ _ h => h) (Or.inl ⟨by rfl, ?_⟩) (by assumption) ?_
              rotate_left
              · intro w hSw
                (try dsimp only at hSw)
                go_simp
                (try with_reducible rfl)
              try simp only [Act.put, List.setIfInBounds_toArray, List.set_cons_zero, List.set_cons_succ]
              refine ckAnyH_oneK (i := 7) (o := { dst := some 54, op := Go.Op.call { callee := Go.Callee.value (Go.Operand.func 100), args := #[Go.Operand.tmp 53], argTypes := #[80] }, type := 80, pos := "l07_small.go:67", after := #[{ on := 6, ground := Go.Ground.data }], guard := none }) rfl rfl (by kernel_rfl) (fun K9 hK9 => ?_)
              refine wp_call_of (f := 100) (args := #[.slice aa an acap]) (by go_simp) (copy_arm _ p.arms _ (HQ2.out.keep (fun b o z hb h => h.keep (Keeps.of_below (Bel.after HBs.out BT.out.drew) 0) hb)) HPS2.out) ?_
              rintro e w8 ⟨aa', acap', rfl, ha8, b8⟩
              have HA8 : Hid (LiesAt 2 ArmAt wt.heap.size w8 aa' p.arms) := ha8
              clear ha8
              rw [HAN.out]
              have B8 : Hid (Below wt.heap.size wt w8) := Bel.after ((Below.refl _ _).drew) b8
              refine ⟨_, rfl, ?_⟩
              refine hK9 _ _ ⟨⟨Bel.keeps B8.out y0, Bel.keeps B8.out p1⟩, ?_⟩
              try simp only [Act.put, List.setIfInBounds_toArray, List.set_cons_zero, List.set_cons_succ]
              have hH8 : w8.cell? ⟨RB, k * 6, none⟩ = some (.slice (some ⟨PB, 0, none⟩) np pcap') ∧ w8.cell? ⟨PX, 1, none⟩ = some (.slice aa an acap) := ⟨Bel.keeps B8.out y0, Bel.keeps B8.out p1⟩
              clear hK9 b8 hHeld
              refine wpAnyH_take (i := 8) (oi := { dst := some 55, op := Go.Op.indexAddr 50 (Go.Operand.tmp 50) (Go.Operand.tmp 51), type := 0, pos := "l07_small.go:67", after := #[{ on := 3, ground := Go.Ground.data }, { on := 4, ground := Go.Ground.data }, { on := 0, ground := Go.Ground.phase }, { on := 1, ground := Go.Ground.phase }, { on := 2, ground := Go.Ground.phase }, { on := 3, ground := Go.Ground.phase }, { on := 4, ground := Go.Ground.phase }, { on := 5, ground := Go.Ground.phase }, { on := 6, ground := Go.Ground.phase }, { on := 7, ground := Go.Ground.phase }], guard := none }) (v := ?_) rfl (by kernel_rfl) (by kernel_rfl) (by kernel_rfl) (fun _ _ _ h => h) (Or.inl ⟨by rfl, ?_⟩) (by assumption) ?_
              rotate_left
              · intro w hSw
                (try dsimp only at hSw)
                go_simp
                (try with_reducible rfl)
              try simp only [Act.put, List.setIfInBounds_toArray, List.set_cons_zero, List.set_cons_succ]
              refine wpAnyH_take (i := 9) (oi := { dst := some 56, op := Go.Op.fieldAddr 82 (Go.Operand.tmp 55) 1, type := 0, pos := "l07_small.go:67", after := #[{ on := 8, ground := Go.Ground.data }, { on := 0, ground := Go.Ground.phase }, { on := 1, ground := Go.Ground.phase }, { on := 2, ground := Go.Ground.phase }, { on := 3, ground := Go.Ground.phase }, { on := 4, ground := Go.Ground.phase }, { on := 5, ground := Go.Ground.phase }, { on := 6, ground := Go.Ground.phase }, { on := 7, ground := Go.Ground.phase }], guard := none }) (v := ?_) rfl (by kernel_rfl) (by kernel_rfl) (by kernel_rfl) (fun _ _ _ h => h) (Or.inl ⟨by rfl, ?_⟩) (by assumption) ?_
              rotate_left
              · intro w hSw
                (try dsimp only at hSw)
                go_simp
                (try with_reducible rfl)
              try simp only [Act.put, List.setIfInBounds_toArray, List.set_cons_zero, List.set_cons_succ]
              have q8 := Bel.keeps B8.out Q1.out
              have z8 : w8.frozen? ⟨PB, g * 2 + 1, none⟩ = false := ((Bel.after BT.out B8.out).frozen (p := ⟨PB, g * 2 + 1, none⟩) hPBs).trans (HFZ.out _)
              have hPXs : PB < PX := by omega
              have BS8 : Hid (Below ws.heap.size ws w8) := Bel.after BT.out B8.out
              refine ckAnyH_oneK (i := 10) (o := { dst := none, op := Go.Op.store 80 (Go.Operand.tmp 56) (Go.Operand.tmp 54), type := 0, pos := "l07_small.go:67", after := #[{ on := 9, ground := Go.Ground.data }, { on := 7, ground := Go.Ground.data }, { on := 7, ground := Go.Ground.chain }, { on := 0, ground := Go.Ground.phase }, { on := 1, ground := Go.Ground.phase }, { on := 2, ground := Go.Ground.phase }, { on := 3, ground := Go.Ground.phase }, { on := 4, ground := Go.Ground.phase }, { on := 5, ground := Go.Ground.phase }, { on := 6, ground := Go.Ground.phase }, { on := 7, ground := Go.Ground.phase }], guard := none }) rfl rfl (by kernel_rfl) (fun K9 hK9 => ?_)
              refine wp_skips (w' := w8.setCell ⟨PB, g * 2 + 1, none⟩ (.slice aa' an acap')) (by simp [execOp, go_sem, q8, z8]) (hK9 _ _ ⟨⟨(World.cell?_setCell_other _ _ _ _ (by intro e; have := congrArg Addr.block e; simp at this; omega)).trans hH8.1, (World.cell?_setCell_other _ _ _ _ (by intro e; have := congrArg Addr.block e; simp at this; omega)).trans hH8.2⟩, ?_⟩)
              clear hK9 hH8
              refine wpAnyH_done (by kernel_rfl) ?_ _
              simp only [noThrow, Exit.inBlock, Exit.then]
              go_at_K
              go_wp2_with fail
              go_roundw
              case rel =>
                have hsT := BT.out.size
                have hs8 := B8.out.size
                have hsm : p.arms.length ≤ 1048576 := HPS2.out
                have HA9 : LiesAt 2 ArmAt wt.heap.size (w8.setCell ⟨PB, g * 2 + 1, none⟩ (.slice aa' an acap')) aa' p.arms := HA8.out.keep (fun b o z hb _ hz => hz.keep (Keeps.setCell _ _ _ _ _ (show PB < wt.heap.size by omega)) hb) (fun b _ _ j => by simp) (by simp)
                refine ⟨g + 1, by omega, by go_num, (HFR.out.trans (FrB.ofBelow BS8.out)).setCell _ _, fun j => ?_, armO na wt.heap.size aa' an (3, k, g), fun b hb => ?_, fun i p2 hp2 => ⟨fun _ _ => trivial, fun hi => ?_, fun hi => ?_⟩⟩
                · have h : w8.frozen? ⟨PB, j, none⟩ = false := (BS8.out.frozen (p := ⟨PB, j, none⟩) hPBs).trans (HFZ.out j)
                  simpa using h
                · by_cases e : b < wt.heap.size
                  · simp only [armO, e, if_true] at hb
                    obtain ⟨a1, a2, a3⟩ := HNA.out b hb
                    refine ⟨a1, by simp; omega, fun j => ?_⟩
                    have h : w8.frozen? ⟨b, j, none⟩ = false := (BS8.out.frozen (p := ⟨b, j, none⟩) a2).trans (a3 j)
                    simpa using h
                  · simp only [armO, e, if_false] at hb
                    by_cases e2 : aa' = some ⟨b, 0, none⟩ ∧ 0 < an
                    · obtain ⟨g2, e3, e4, e5, _, e6⟩ := HA9 (by have := HAN.out; omega)
                      have e7 := e2.1.symm.trans e3
                      simp at e7
                      subst e7
                      exact ⟨by omega, e5, e6⟩
                    · rw [if_neg e2] at hb
                      simp at hb
                · by_cases e : i = g
                  · subst e
                    have e2 := HP.out.symm.trans hp2
                    cases e2
                    obtain ⟨_, q0, _⟩ := (HALL.out i p HP.out).2.2 (Nat.le_refl _)
                    refine ⟨.slice aa' an acap', (World.cell?_setCell_other _ _ _ _ (by simp)).trans (Bel.keeps BS8.out q0), World.cell?_setCell_same _ _ _ q8, ?_⟩
                    have h := HA9.listO hsm acap' (S := fun b => armO na wt.heap.size aa' an (3, k, i) b = (3, k, i)) (fun b ha hp => by
                      obtain ⟨g2, e3, e4, _, _, _⟩ := HA9 hp
                      have e7 := ha.symm.trans e3
                      simp at e7
                      subst e7
                      have hp2 : 0 < an := by have := HAN.out; omega
                      simp only [armO]
                      rw [if_neg (by omega), if_pos ⟨ha, hp2⟩])
                    rw [HAN.out] at h
                    exact h
                  · obtain ⟨av2, q0, q1, q2⟩ := (HALL.out i p2 hp2).2.1 (by omega)
                    refine ⟨av2, (World.cell?_setCell_other _ _ _ _ (by simp <;> omega)).trans (Bel.keeps BS8.out q0), (World.cell?_setCell_other _ _ _ _ (by simp <;> omega)).trans (Bel.keeps BS8.out q1), q2.own (fun b hb => ?_) (fun _ b o z hb hz => hz.keep ((Keeps.of_below BS8.out _).trans (Keeps.setCell _ _ _ _ _ (show PB < PB + 1 by omega))) (HNA.out b (by rw [hb]; simp)).1)⟩
                    have := (HNA.out b (by rw [hb]; simp)).2.1
                    simp only [armO]
                    rw [if_pos (by omega)]
                    exact hb
                · obtain ⟨av2, q0, q1, q2⟩ := (HALL.out i p2 hp2).2.2 (by omega)
                  exact ⟨av2, (World.cell?_setCell_other _ _ _ _ (by simp <;> omega)).trans (Bel.keeps BS8.out q0), (World.cell?_setCell_other _ _ _ _ (by simp <;> omega)).trans (Bel.keeps BS8.out q1), q2⟩
              case measure => simp [intOf]; omega
            · have hgn : g = np := by omega
              subst hgn
              go_wp2_with fail
              go_roundw
              case rel =>
                have hs7s := HFR.out.size
                have hb4 := B4.out.size
                have HL9 : LiesAt 5 InsAt wq.heap.size ws la' x.list := fun hp => by
                  obtain ⟨g2, e1, e2, e3, e4, e5⟩ := HL4.out hp
                  refine ⟨g2, e1, e2, by omega, fun i z hz => ?_, fun j => ?_⟩
                  · exact ((e4 i z hz).keep ((K5.out.trans (Keeps.of_below B6.out _)).trans K7.out) (by omega)).fr HFR.out (by omega)
                  · rw [HFR.out.frozen (x := ⟨g2, j, none⟩) (by show g2 < _; omega) (by show g2 ≠ PB; omega), Y67.out, B6.out.frozen (p := ⟨g2, j, none⟩) (by show g2 < _; omega), Y45.out]
                    exact e5 j
                have hLB : ∀ g2, la' = some ⟨g2, 0, none⟩ → 0 < nl → g2 < PB := fun g2 h1 h2 => by
                  obtain ⟨g3, e1, e2, e3, _⟩ := HL4.out (by have := HNL.out; omega)
                  have e7 := h1.symm.trans e1
                  simp at e7
                  omega
                refine ⟨k + 1, by omega, by go_num, HCU.out.next (by omega) (by omega) (by omega) HX.out (BQ7.out.trans (HFR.out.below (by omega) (by omega))) (by omega) (fun p v hp hv => ?_) (fun j => (HFR.out.frozen (x := ⟨RB, j, none⟩) (by show RB < _; omega) (by show RB ≠ PB; omega)).trans (Z7.out j)) (fun g2 h1 h2 j => (HFR.out.frozen (x := ⟨g2, j, none⟩) (by show g2 < _; omega) (by show g2 ≠ PB; omega)).trans (HF7.out g2 h1 h2 j)) (fun o h1 h2 => (HFR.out.cell (x := ⟨RB, o, none⟩) (by show RB < _; omega) (by show RB ≠ PB; omega)).trans (O7.out o h1 h2)) t0 ((HFR.out.cell (x := ⟨RB, k * 6 + 1, none⟩) (by show RB < _; omega) (by show RB ≠ PB; omega)).trans T1'.out) R2.out R3.out R4.out R5.out (new := newO k la' nl (some PB) na) (fun g2 hg2 => ?_) ⟨_, pcap', by rw [HNP.out], by rw [HNP.out]; omega, fun _ => ⟨PB, 0, rfl, ?_, fun i p hp => ?_⟩⟩ ?_⟩
                · have hlt0 := World.block_lt_of_cell? wq p hv
                  rw [HFR.out.cell (x := p) (by omega) (by omega)]
                  exact KQ7.out p v hp hv
                · by_cases e : la' = some ⟨g2, 0, none⟩ ∧ 0 < nl
                  · obtain ⟨g3, e1, e2, e3, _, e5⟩ := HL9 (by have := HNL.out; omega)
                    have e6 := e.1.symm.trans e1
                    simp at e6
                    subst e6
                    exact ⟨e2, e3, e5⟩
                  · by_cases e8 : PB = g2
                    · subst e8
                      exact ⟨by omega, hPBs, HFZ.out⟩
                    · simp only [newO] at hg2
                      rw [if_neg e, if_neg (by simpa using e8)] at hg2
                      obtain ⟨a1, a2, a3⟩ := HNA.out g2 hg2
                      exact ⟨by omega, a2, a3⟩
                · simp only [newO]
                  rw [if_neg (fun e => by have := hLB PB e.1 e.2; omega)]
                  simp
                · obtain ⟨av2, q0, q1, q2⟩ := (HALL.out i p hp).2.1 (by have := (List.getElem?_eq_some_iff.1 hp).1; have := HNP.out; omega)
                  rw [Nat.zero_add]
                  refine ⟨q0, av2, q1, q2.own (fun b hb => ?_) (fun _ _ _ _ _ h => h)⟩
                  have hbP := (HNA.out b (by rw [hb]; simp)).1
                  simp only [newO]
                  rw [if_neg (fun e => by have := hLB b e.1 e.2; omega), if_neg (by simp; omega)]
                  exact hb
                · have h := HL9.listO (by have := HNL.out; omega) lcap' (S := fun g2 => newO k la' nl (some PB) na g2 = (2, k, 0)) (fun g2 ha hp => by
                    have hp2 : 0 < nl := by have := HNL.out; omega
                    simp [newO, ha, hp2])
                  rw [HNL.out] at h
                  exact h
              case measure => simp [intOf]; omega
      · have hkn : k = n := by omega
        subst hkn
        obtain ⟨own, hown, hdone⟩ := hcu.done
        have hF5 : FnO (w.heap.size + 1 + 1) (fun g => if g = RB then (0, 0, 0) else own g) wq (.slice (some ⟨RB, 0, none⟩) k cap') F.blocks := by
          have hne : ∀ g, (own g).1 ≤ 3 → g ≠ RB := fun g hg e => by have := (hown g hg).1; omega
          refine ⟨⟨_, cap', by rw [HN.out], by rw [HN.out]; omega, fun _ => ⟨RB, 0, rfl, by simp, fun i x hx => ?_⟩⟩, fun g hg => ?_, fun g hg => ?_, fun g hg => ?_⟩
          · rw [Nat.zero_add]
            exact (hdone i x hx (by have := (List.getElem?_eq_some_iff.1 hx).1; have := HN.out; omega)).own (lo := 0) (fun g hg => by rw [if_neg (hne g hg)]) (fun g hg => Nat.zero_le _) (fun _ _ _ h => h) (fun _ _ => rfl)
          · by_cases e : g = RB
            · omega
            · simp only [e, if_false] at hg
              have := (hown g hg).1
              omega
          · by_cases e : g = RB
            · rw [e]; exact hcu.lt
            · simp only [e, if_false] at hg
              exact (hown g hg).2.1
          · by_cases e : g = RB
            · rw [e]; exact hcu.fz
            · simp only [e, if_false] at hg
              exact (hown g hg).2.2
        have HF5 : Hid (FnO (w.heap.size + 1 + 1) (fun g => if g = RB then (0, 0, 0) else own g) wq (.slice (some ⟨RB, 0, none⟩) k cap') F.blocks) := hF5
        obtain ⟨r0, r1, hF4, hB4⟩ := copy_box (w := w) (vals := vals) (by omega) HCU.out.br HF5.out HCU.out.bel
        have y0 : wq.cell? ⟨w.heap.size + 1, 0, none⟩ = some (.slice none 0 0) := by simp [World.cell?, hcu.br]
        have y1 : wq.cell? ⟨w.heap.size + 1, 1, none⟩ = some (.int .i64 0) := by simp [World.cell?, hcu.br]
        have z0 : wq.frozen? ⟨w.heap.size + 1, 0, none⟩ = false := by simp [World.frozen?, hcu.br]
        have z1 : wq.frozen? ⟨w.heap.size + 1, 1, none⟩ = false := by simp [World.frozen?, hcu.br]
        clear hF5 hcu hown hdone
        go_wp2_with fail
        refine bodyPost_ret (v := .agg #[.slice (some ⟨RB, 0, none⟩) k cap', .int .i64 vals]) (by simp [results, Tryz.results49, go_sem, r0, r1]) rfl ?_
        exact ⟨_, _, by rw [HV.out], hF4, hB4⟩
end Go.Proofs.YtfmdnjnmbkgmjaaGreatDoor
