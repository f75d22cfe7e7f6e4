/- A program in memory each of whose lists has a block of memory of its own. A program each of whose lists has a block of its own: the places of its numbers, no two of them one. -/
import Derived.Test.YtfmdnjnmbkgmjaaGreatDoorKSpot
import Derived.Test.YtfmdnjnmbkgmjaaGreatDoorKEq
namespace Go.Proofs.YtfmdnjnmbkgmjaaGreatDoor
open Go.ChangeShapes Go.WideShapes Go.ChangeAt Go.RowKit
set_option linter.unusedVariables false
abbrev OwnF := Nat → Nat × Nat × Nat
def ListO {α : Type} (S : Nat → Prop) (k : Nat) (E : Nat → World → Nat → Nat → α → Prop) (w : World) (v : Value) (l : List α) : Prop :=
  ∃ (a : Option Addr) (cap : Nat), v = .slice a l.length cap ∧ l.length ≤ 9223372036854775807 ∧ (0 < l.length → ∃ b off, a = some ⟨b, off, none⟩ ∧ S b ∧ ∀ i x, l[i]? = some x → E i w b (off + i * k) x)
theorem ListO.imp {α : Type} {S S' : Nat → Prop} {k : Nat} {E E' : Nat → World → Nat → Nat → α → Prop} {w w' : World} {v : Value} {l : List α} (h : ListO S k E w v l) (hS : ∀ b, S b → S' b) (hE : ∀ i b o x, S b → l[i]? = some x → E i w b o x → E' i w' b o x) : ListO S' k E' w' v l := by
  obtain ⟨a, cap, rfl, hm, hc⟩ := h
  refine ⟨a, cap, rfl, hm, fun hp => ?_⟩
  obtain ⟨b, off, rfl, hb, hd⟩ := hc hp
  exact ⟨b, off, rfl, hS b hb, fun i x hi => hE _ _ _ _ hb hi (hd i x hi)⟩
theorem ListO.nil {α : Type} {S : Nat → Prop} {k : Nat} {E : Nat → World → Nat → Nat → α → Prop} {w : World} (a : Option Addr) (c : Nat) : ListO S k E w (.slice a 0 c) ([] : List α) :=
  ⟨a, c, rfl, by simp, fun h => absurd h (by simp)⟩
theorem ListO.is {α : Type} {S : Nat → Prop} {k : Nat} {E : Nat → World → Nat → Nat → α → Prop} {w : World} {v : Value} {l : List α} (h : ListO S k E w v l) : ∃ a cap, v = .slice a l.length cap := by
  obtain ⟨a, cap, rfl, _⟩ := h
  exact ⟨a, cap, rfl⟩
theorem ListO.get {α : Type} {S : Nat → Prop} {k : Nat} {E : Nat → World → Nat → Nat → α → Prop} {w : World} {a : Option Addr} {n cap : Nat} {l : List α} (h : ListO S k E w (.slice a n cap) l) {i : Nat} {x : α} (hx : l[i]? = some x) : ∃ b off, a = some ⟨b, off, none⟩ ∧ S b ∧ E i w b (off + i * k) x := by
  obtain ⟨a0, cap0, e, _, hc⟩ := h
  simp at e
  have hk := (List.getElem?_eq_some_iff.1 hx).1
  obtain ⟨b, off, ha, hS, hd⟩ := hc (by omega)
  exact ⟨b, off, e.1.trans ha, hS, hd i x hx⟩
theorem ListO.at {α : Type} {S : Nat → Prop} {k : Nat} {E : Nat → World → Nat → Nat → α → Prop} {lo : Nat} {E' : World → Nat → Nat → α → Prop} {w : World} {v : Value} {l : List α} (h : ListO S k E w v l) (hS : ∀ b, S b → lo ≤ b) (hE : ∀ i b o x, S b → E i w b o x → E' w b o x) : ListAt lo k E' w v l := by
  obtain ⟨a, cap, rfl, hm, hc⟩ := h
  refine ⟨a, cap, rfl, hm, fun hp => ?_⟩
  obtain ⟨b, off, rfl, hb, hd⟩ := hc hp
  exact ⟨b, off, rfl, hS b hb, fun i x hi => hE _ _ _ _ hb (hd i x hi)⟩
def PhiO (own : OwnF) (i j : Nat) (w : World) (b o : Nat) (x : PhiD) : Prop := w.cell? ⟨b, o, none⟩ = some (.int .i64 x.d) ∧ ∃ av, w.cell? ⟨b, o + 1, none⟩ = some av ∧ ListO (fun g => own g = (3, i, j)) 2 (fun _ => ArmAt) w av x.arms
def BlockO (own : OwnF) (i : Nat) (w : World) (b o : Nat) (x : BlockD) : Prop :=
  ∃ pv lv, w.cell? ⟨b, o, none⟩ = some pv ∧ w.cell? ⟨b, o + 1, none⟩ = some lv ∧ w.cell? ⟨b, o + 2, none⟩ = some (.int .i64 x.term.k) ∧ w.cell? ⟨b, o + 3, none⟩ = some (.int .i64 x.term.a) ∧ w.cell? ⟨b, o + 4, none⟩ = some (.int .i64 x.term.t) ∧ w.cell? ⟨b, o + 5, none⟩ = some (.int .i64 x.term.e) ∧
    ListO (fun g => own g = (1, i, 0)) 2 (PhiO own i) w pv x.phis ∧ ListO (fun g => own g = (2, i, 0)) 5 (fun _ => InsAt) w lv x.list
structure FnO (lo : Nat) (own : OwnF) (w : World) (bv : Value) (bs : List BlockD) : Prop where
  rows : ListO (fun g => own g = (0, 0, 0)) 6 (BlockO own) w bv bs
  low : ∀ g, (own g).1 ≤ 3 → lo ≤ g
  high : ∀ g, (own g).1 ≤ 3 → g < w.heap.size
  thaw : ∀ g, (own g).1 ≤ 3 → ∀ j, w.frozen? ⟨g, j, none⟩ = false
theorem cell_same {w w' : World} {g : Nat} (h : w'.heap[g]? = w.heap[g]?) (o : Nat) : w'.cell? ⟨g, o, none⟩ = w.cell? ⟨g, o, none⟩ := by simp only [World.cell?, h]
theorem frozen_same {w w' : World} {g : Nat} (h : w'.heap[g]? = w.heap[g]?) (o : Nat) : w'.frozen? ⟨g, o, none⟩ = w.frozen? ⟨g, o, none⟩ := by simp only [World.frozen?, h]
theorem ArmAt.same {w w' : World} {b o : Nat} {x : ArmD} (h : ArmAt w b o x) (hs : w'.heap[b]? = w.heap[b]?) : ArmAt w' b o x := ⟨(cell_same hs _).trans h.1, (cell_same hs _).trans h.2⟩
theorem InsAt.same {w w' : World} {b o : Nat} {x : InsD} (h : InsAt w b o x) (hs : w'.heap[b]? = w.heap[b]?) : InsAt w' b o x := ⟨(cell_same hs _).trans h.1, (cell_same hs _).trans h.2.1, (cell_same hs _).trans h.2.2.1, (cell_same hs _).trans h.2.2.2.1, (cell_same hs _).trans h.2.2.2.2⟩
theorem arms_same {own : OwnF} {c : Nat × Nat × Nat} {w w' : World} {v : Value} {l : List ArmD} (h : ListO (fun g => own g = c) 2 (fun _ => ArmAt) w v l) (hs : ∀ g, own g = c → w'.heap[g]? = w.heap[g]?) : ListO (fun g => own g = c) 2 (fun _ => ArmAt) w' v l := h.imp (fun _ h => h) (fun i b o x hb _ hx => hx.same (hs b hb))
theorem ins_same {own : OwnF} {c : Nat × Nat × Nat} {w w' : World} {v : Value} {l : List InsD} (h : ListO (fun g => own g = c) 5 (fun _ => InsAt) w v l) (hs : ∀ g, own g = c → w'.heap[g]? = w.heap[g]?) : ListO (fun g => own g = c) 5 (fun _ => InsAt) w' v l := h.imp (fun _ h => h) (fun i b o x hb _ hx => hx.same (hs b hb))
theorem PhiO.same {own : OwnF} {i j : Nat} {w w' : World} {b o : Nat} {x : PhiD} (h : PhiO own i j w b o x) (hb : w'.heap[b]? = w.heap[b]?) (hs : ∀ g, own g = (3, i, j) → w'.heap[g]? = w.heap[g]?) : PhiO own i j w' b o x := by
  obtain ⟨h0, av, h1, h2⟩ := h
  exact ⟨(cell_same hb _).trans h0, av, (cell_same hb _).trans h1, arms_same h2 hs⟩
theorem phis_same {own : OwnF} {i : Nat} {w w' : World} {v : Value} {l : List PhiD} (h : ListO (fun g => own g = (1, i, 0)) 2 (PhiO own i) w v l) (hb : ∀ g, own g = (1, i, 0) → w'.heap[g]? = w.heap[g]?) (hs : ∀ g j, own g = (3, i, j) → w'.heap[g]? = w.heap[g]?) : ListO (fun g => own g = (1, i, 0)) 2 (PhiO own i) w' v l :=
  h.imp (fun _ h => h) (fun j b o x hS _ hx => hx.same (hb b hS) (fun g hg => hs g j hg))
theorem FnO.same {lo : Nat} {own : OwnF} {w w' : World} {bv : Value} {bs : List BlockD} (h : FnO lo own w bv bs) (hs : ∀ g, (own g).1 ≤ 3 → w'.heap[g]? = w.heap[g]?) (hz : w.heap.size ≤ w'.heap.size) : FnO lo own w' bv bs := by
  refine ⟨h.rows.imp (fun _ h => h) (fun i b o x hb _ hx => ?_), h.low, fun g hg => Nat.lt_of_lt_of_le (h.high g hg) hz, fun g hg j => (frozen_same (hs g hg) j).trans (h.thaw g hg j)⟩
  obtain ⟨pv, lv, c0, c1, c2, c3, c4, c5, hp, hl⟩ := hx
  have hr : w'.heap[b]? = w.heap[b]? := hs b (by rw [hb]; simp)
  exact ⟨pv, lv, (cell_same hr _).trans c0, (cell_same hr _).trans c1, (cell_same hr _).trans c2, (cell_same hr _).trans c3, (cell_same hr _).trans c4, (cell_same hr _).trans c5, phis_same hp (fun g hg => hs g (by rw [hg]; simp)) (fun g j hg => hs g (by rw [hg]; simp)), ins_same hl (fun g hg => hs g (by rw [hg]; simp))⟩
theorem FnO.keep {lo : Nat} {own : OwnF} {w w' : World} {bv : Value} {bs : List BlockD} (h : FnO lo own w bv bs) (hb : Below w.heap.size w w') : FnO lo own w' bv bs :=
  h.same (fun g hg => hb.block g (h.high g hg)) hb.size
theorem FnO.blocks {lo : Nat} {own : OwnF} {w : World} {bv : Value} {bs : List BlockD} (h : FnO lo own w bv bs) : ListAt lo 6 (BlockAt lo) w bv bs :=
  h.rows.at (fun b hb => h.low b (by rw [hb]; simp)) (fun i b o x hb hx => by
    obtain ⟨pv, lv, c0, c1, c2, c3, c4, c5, hp, hl⟩ := hx
    exact ⟨pv, lv, c0, c1, c2, c3, c4, c5, hp.at (fun b hb => h.low b (by rw [hb]; simp)) (fun j b o x hb hx => by
      obtain ⟨h0, av, h1, h2⟩ := hx
      exact ⟨h0, av, h1, h2.at (fun b hb => h.low b (by rw [hb]; simp)) (fun _ _ _ _ _ h => h)⟩), hl.at (fun b hb => h.low b (by rw [hb]; simp)) (fun _ _ _ _ _ h => h)⟩)
theorem FnO.fnAt {lo : Nat} {own : OwnF} {w : World} {bv : Value} {F : FnD} (h : FnO lo own w bv F.blocks) {vals : Int} (hv : F.values = vals) : FnAtLo lo w (.agg #[bv, .int .i64 vals]) F := ⟨bv, by rw [hv], h.blocks⟩
theorem FnO.low' {lo lo' : Nat} {own : OwnF} {w : World} {bv : Value} {bs : List BlockD} (h : FnO lo own w bv bs) (hl : lo' ≤ lo) : FnO lo' own w bv bs := ⟨h.rows, fun g hg => Nat.le_trans hl (h.low g hg), h.high, h.thaw⟩
theorem FnO.list {lo : Nat} {own : OwnF} {w w' : World} {bv : Value} {bs : List BlockD} (h : FnO lo own w bv bs) {i : Nat} {x : BlockD} (hx : bs[i]? = some x) {l' : List InsD} (hs : ∀ g, (own g).1 ≤ 3 → own g ≠ (2, i, 0) → w'.heap[g]? = w.heap[g]?) (hz : w.heap.size ≤ w'.heap.size) (hf : ∀ g, own g = (2, i, 0) → ∀ j, w'.frozen? ⟨g, j, none⟩ = w.frozen? ⟨g, j, none⟩)
    (hl : ∀ lv, (∀ rb roff n cap, bv = .slice (some ⟨rb, roff, none⟩) n cap → w.cell? ⟨rb, roff + i * 6 + 1, none⟩ = some lv) → ListO (fun g => own g = (2, i, 0)) 5 (fun _ => InsAt) w lv x.list → ListO (fun g => own g = (2, i, 0)) 5 (fun _ => InsAt) w' lv l') : FnO lo own w' bv (bs.set i { x with list := l' }) := by
  have hi : i < bs.length := (List.getElem?_eq_some_iff.1 hx).1
  refine ⟨?_, h.low, fun g hg => Nat.lt_of_lt_of_le (h.high g hg) hz, fun g hg j => ?_⟩
  · obtain ⟨a, cap, rfl, hm, hc⟩ := h.rows
    refine ⟨a, cap, by rw [List.length_set], by rw [List.length_set]; exact hm, fun hp => ?_⟩
    rw [List.length_set] at hp
    obtain ⟨b, off, rfl, hb, hd⟩ := hc hp
    refine ⟨b, off, rfl, hb, fun j y hy => ?_⟩
    have hr : w'.heap[b]? = w.heap[b]? := hs b (by rw [hb]; simp) (by rw [hb]; simp)
    by_cases e : j = i
    · subst e
      rw [List.getElem?_set_self hi] at hy
      cases hy
      obtain ⟨pv, lv, c0, c1, c2, c3, c4, c5, hp, hl0⟩ := hd j x hx
      exact ⟨pv, lv, (cell_same hr _).trans c0, (cell_same hr _).trans c1, (cell_same hr _).trans c2, (cell_same hr _).trans c3, (cell_same hr _).trans c4, (cell_same hr _).trans c5, phis_same hp (fun g hg => hs g (by rw [hg]; simp) (by rw [hg]; simp)) (fun g j hg => hs g (by rw [hg]; simp) (by rw [hg]; simp)), hl _ (fun rb roff n cap e => by simp at e; obtain ⟨⟨rfl, rfl⟩, _⟩ := e; exact c1) hl0⟩
    · rw [List.getElem?_set_ne (by omega)] at hy
      obtain ⟨pv, lv, c0, c1, c2, c3, c4, c5, hp, hl0⟩ := hd j y hy
      exact ⟨pv, lv, (cell_same hr _).trans c0, (cell_same hr _).trans c1, (cell_same hr _).trans c2, (cell_same hr _).trans c3, (cell_same hr _).trans c4, (cell_same hr _).trans c5, phis_same hp (fun g hg => hs g (by rw [hg]; simp) (by rw [hg]; simp)) (fun g j hg => hs g (by rw [hg]; simp) (by rw [hg]; simp)), ins_same hl0 (fun g hg => hs g (by rw [hg]; simp) (by rw [hg]; simp; omega))⟩
  · by_cases e : own g = (2, i, 0)
    · exact (hf g e j).trans (h.thaw g hg j)
    · exact (frozen_same (hs g hg e) j).trans (h.thaw g hg j)
def putIns (w : World) (b o : Nat) (y : InsD) : World := ((((w.setCell ⟨b, o, none⟩ (.int .i64 y.op)).setCell ⟨b, o + 1, none⟩ (.int .i64 y.d)).setCell ⟨b, o + 2, none⟩ (.int .i64 y.a)).setCell ⟨b, o + 3, none⟩ (.int .i64 y.b)).setCell ⟨b, o + 4, none⟩ (.int .i64 y.n)
theorem putIns_other {w : World} {b o : Nat} {y : InsD} {g : Nat} (h : g ≠ b) : (putIns w b o y).heap[g]? = w.heap[g]? := by
  unfold putIns
  simp only [Below.heap_setCell _ _ _ _ (show g ≠ (⟨b, _, none⟩ : Addr).block from h)]
theorem putIns_size (w : World) (b o : Nat) (y : InsD) : (putIns w b o y).heap.size = w.heap.size := by simp [putIns]
theorem putIns_frozen (w : World) (b o : Nat) (y : InsD) (p : Addr) : (putIns w b o y).frozen? p = w.frozen? p := by simp [putIns]
theorem putIns_cell {w : World} {b o o' : Nat} {y : InsD} (h : o' < o ∨ o + 5 ≤ o') : (putIns w b o y).cell? ⟨b, o', none⟩ = w.cell? ⟨b, o', none⟩ := by
  have hne : ∀ c, c < 5 → (⟨b, o + c, none⟩ : Addr) ≠ ⟨b, o', none⟩ := fun c hc e => by have := congrArg Addr.off e; simp at this; omega
  have h0 : (⟨b, o, none⟩ : Addr) ≠ ⟨b, o', none⟩ := hne 0 (by omega)
  unfold putIns
  rw [World.cell?_setCell_other _ _ _ _ (hne 4 (by omega)), World.cell?_setCell_other _ _ _ _ (hne 3 (by omega)), World.cell?_setCell_other _ _ _ _ (hne 2 (by omega)), World.cell?_setCell_other _ _ _ _ (hne 1 (by omega)), World.cell?_setCell_other _ _ _ _ h0]
theorem putIns_at {w : World} {b o : Nat} {x : InsD} (h : InsAt w b o x) (y : InsD) : InsAt (putIns w b o y) b o y := by
  obtain ⟨h0, h1, h2, h3, h4⟩ := h
  unfold putIns
  refine ⟨?_, ?_, ?_, ?_, ?_⟩
  · rw [World.cell?_setCell_other _ _ _ _ (by simp), World.cell?_setCell_other _ _ _ _ (by simp), World.cell?_setCell_other _ _ _ _ (by simp), World.cell?_setCell_other _ _ _ _ (by simp)]
    exact World.cell?_setCell_same _ _ _ h0
  · rw [World.cell?_setCell_other _ _ _ _ (by simp), World.cell?_setCell_other _ _ _ _ (by simp), World.cell?_setCell_other _ _ _ _ (by simp)]
    exact World.cell?_setCell_same _ _ _ ((World.cell?_setCell_other _ _ _ _ (by simp)).trans h1)
  · rw [World.cell?_setCell_other _ _ _ _ (by simp), World.cell?_setCell_other _ _ _ _ (by simp)]
    exact World.cell?_setCell_same _ _ _ ((World.cell?_setCell_other _ _ _ _ (by simp)).trans ((World.cell?_setCell_other _ _ _ _ (by simp)).trans h2))
  · rw [World.cell?_setCell_other _ _ _ _ (by simp)]
    exact World.cell?_setCell_same _ _ _ ((World.cell?_setCell_other _ _ _ _ (by simp)).trans ((World.cell?_setCell_other _ _ _ _ (by simp)).trans ((World.cell?_setCell_other _ _ _ _ (by simp)).trans h3)))
  · exact World.cell?_setCell_same _ _ _ ((World.cell?_setCell_other _ _ _ _ (by simp)).trans ((World.cell?_setCell_other _ _ _ _ (by simp)).trans ((World.cell?_setCell_other _ _ _ _ (by simp)).trans ((World.cell?_setCell_other _ _ _ _ (by simp)).trans h4))))
theorem FnO.puts {lo : Nat} {own : OwnF} {w : World} {bv : Value} {bs : List BlockD} (h : FnO lo own w bv bs) {i k : Nat} {x : BlockD} (hx : bs[i]? = some x) {z : InsD} (hz : x.list[k]? = some z) {rb roff lb loff n cap lcap m : Nat} (hv : bv = .slice (some ⟨rb, roff, none⟩) n cap)
    (hlv : w.cell? ⟨rb, roff + i * 6 + 1, none⟩ = some (.slice (some ⟨lb, loff, none⟩) m lcap)) (y : InsD) : FnO lo own (putIns w lb (loff + k * 5) y) bv (bs.set i { x with list := x.list.set k y }) := by
  have hk := (List.getElem?_eq_some_iff.1 hz).1
  have hlb : own lb = (2, i, 0) ∧ ListO (fun g => own g = (2, i, 0)) 5 (fun _ => InsAt) w (.slice (some ⟨lb, loff, none⟩) m lcap) x.list := by
    have hr := h.rows
    rw [hv] at hr
    obtain ⟨b, off, e, hb, pv, lv, c0, c1, c2, c3, c4, c5, hp, hl⟩ := hr.get hx
    simp at e
    obtain ⟨rfl, rfl⟩ := e
    have e2 := c1.symm.trans hlv
    simp at e2
    subst e2
    obtain ⟨b2, off2, e3, hb2, _⟩ := hl.get hz
    simp at e3
    obtain ⟨rfl, rfl⟩ := e3
    exact ⟨hb2, hl⟩
  refine h.list hx (fun g hg hne => putIns_other (fun e => hne (by rw [e]; exact hlb.1))) (by rw [putIns_size]; exact Nat.le_refl _) (fun g hg j => putIns_frozen _ _ _ _ _) (fun lv hc hl => ?_)
  have e2 := (hc _ _ _ _ hv).symm.trans hlv
  simp at e2
  subst e2
  obtain ⟨a, cap0, e3, hm, hcc⟩ := hl
  simp at e3
  obtain ⟨e3, e4, e5⟩ := e3
  refine ⟨a, cap0, by rw [List.length_set, e3, e4, e5], by rw [List.length_set]; exact hm, fun hp => ?_⟩
  rw [List.length_set] at hp
  obtain ⟨b2, off2, ha, hb2, hd⟩ := hcc hp
  rw [ha] at e3
  simp at e3
  obtain ⟨rfl, rfl⟩ := e3
  refine ⟨_, _, ha, hb2, fun q u hu => ?_⟩
  by_cases e : q = k
  · subst e
    rw [List.getElem?_set_self hk] at hu
    cases hu
    exact putIns_at (hd _ _ hz) y
  · rw [List.getElem?_set_ne (by omega)] at hu
    obtain ⟨q0, q1, q2, q3, q4⟩ := hd _ _ hu
    have hq : ∀ c, c < 5 → (putIns w lb (loff + k * 5) y).cell? ⟨lb, loff + q * 5 + c, none⟩ = w.cell? ⟨lb, loff + q * 5 + c, none⟩ := fun c hc => putIns_cell (by omega)
    exact ⟨(hq 0 (by omega)).trans q0, (hq 1 (by omega)).trans q1, (hq 2 (by omega)).trans q2, (hq 3 (by omega)).trans q3, (hq 4 (by omega)).trans q4⟩
end Go.Proofs.YtfmdnjnmbkgmjaaGreatDoor
namespace Go.Proofs.YtfmdnjnmbkgmjaaGreatDoor
open Go.ChangeShapes Go.WideShapes Go.ChangeAt Go.RowKit
set_option linter.unusedVariables false
def vB : Value → Nat
  | .slice (some a) _ _ => a.block
  | _ => 0
def vOff : Value → Nat
  | .slice (some a) _ _ => a.off
  | _ => 0
def vN : Value → Nat
  | .slice _ n _ => n
  | _ => 0
def rowT (v : Value) : RowT := ⟨vB v, vOff v, vN v⟩
def cellV (w : World) (b o : Nat) : Value := (w.cell? ⟨b, o, none⟩).getD undef
def phisT (w : World) (v : Value) : PhisT := ⟨vB v, vOff v, vN v, fun j => rowT (cellV w (vB v) (vOff v + j * 2 + 1))⟩
def blocksT (w : World) (v : Value) : BlocksT := ⟨vB v, vOff v, vN v, fun i => phisT w (cellV w (vB v) (vOff v + i * 6)), fun i => rowT (cellV w (vB v) (vOff v + i * 6 + 1))⟩
theorem armsTr {lo hi : Nat} {own : OwnF} {c : Nat × Nat × Nat} {w : World} {v : Value} {l : List ArmD} (h : ListO (fun g => own g = c) 2 (fun _ => ArmAt) w v l) (hs : l.length ≤ 1048576) (hb : ∀ g, own g = c → lo ≤ g ∧ g < hi ∧ ∀ j, w.frozen? ⟨g, j, none⟩ = false) : ArmsTr lo hi w v (rowT v) ∧ (0 < (rowT v).n → own (rowT v).b = c) := by
  obtain ⟨a, cap, rfl, hm, hc⟩ := h
  by_cases h0 : 0 < l.length
  · obtain ⟨b, off, rfl, hS, hd⟩ := hc h0
    obtain ⟨h1, h2, h3⟩ := hb b hS
    refine ⟨⟨⟨_, cap, rfl, fun _ => rfl⟩, hs, fun _ => ⟨h1, h2⟩, fun _ => h3, fun i hi => ?_⟩, fun _ => hS⟩
    obtain ⟨q0, q1⟩ := hd i _ (List.getElem?_eq_getElem hi)
    exact ⟨⟨_, q0⟩, ⟨_, q1⟩⟩
  · have e : l.length = 0 := by omega
    have hn : (rowT (Value.slice a l.length cap)).n = 0 := e
    refine ⟨⟨⟨a, cap, rfl, fun h => absurd h (by omega)⟩, hs, fun h => absurd h (by omega), fun h => absurd h (by omega), fun i hi => absurd hi (by omega)⟩, fun h => absurd h (by omega)⟩
theorem insTr {lo hi : Nat} {own : OwnF} {c : Nat × Nat × Nat} {w : World} {v : Value} {l : List InsD} (h : ListO (fun g => own g = c) 5 (fun _ => InsAt) w v l) (hs : l.length ≤ 1048576) (hb : ∀ g, own g = c → lo ≤ g ∧ g < hi ∧ ∀ j, w.frozen? ⟨g, j, none⟩ = false) : InsTr lo hi w v (rowT v) ∧ (0 < (rowT v).n → own (rowT v).b = c) := by
  obtain ⟨a, cap, rfl, hm, hc⟩ := h
  by_cases h0 : 0 < l.length
  · obtain ⟨b, off, rfl, hS, hd⟩ := hc h0
    obtain ⟨h1, h2, h3⟩ := hb b hS
    refine ⟨⟨⟨_, cap, rfl, fun _ => rfl⟩, hs, fun _ => ⟨h1, h2⟩, fun _ => h3, fun i hi => ?_⟩, fun _ => hS⟩
    obtain ⟨q0, q1, q2, q3, q4⟩ := hd i _ (List.getElem?_eq_getElem hi)
    exact ⟨⟨_, q0⟩, ⟨_, q1⟩, ⟨_, q2⟩, ⟨_, q3⟩, ⟨_, q4⟩⟩
  · have e : l.length = 0 := by omega
    have hn : (rowT (Value.slice a l.length cap)).n = 0 := e
    refine ⟨⟨⟨a, cap, rfl, fun h => absurd h (by omega)⟩, hs, fun h => absurd h (by omega), fun h => absurd h (by omega), fun i hi => absurd hi (by omega)⟩, fun h => absurd h (by omega)⟩
theorem phisTr {lo hi : Nat} {own : OwnF} {i : Nat} {w : World} {v : Value} {l : List PhiD} (h : ListO (fun g => own g = (1, i, 0)) 2 (PhiO own i) w v l) (hs : l.length ≤ 1048576) (hs2 : ∀ p ∈ l, p.arms.length ≤ 1048576) (hb : ∀ g, (own g).1 ≤ 3 → lo ≤ g ∧ g < hi ∧ ∀ j, w.frozen? ⟨g, j, none⟩ = false) :
    PhisTr lo hi w v (phisT w v) ∧ (0 < (phisT w v).n → own (phisT w v).b = (1, i, 0)) ∧ ∀ j, j < (phisT w v).n → 0 < ((phisT w v).arms j).n → own ((phisT w v).arms j).b = (3, i, j) := by
  obtain ⟨a, cap, rfl, hm, hc⟩ := h
  by_cases h0 : 0 < l.length
  · obtain ⟨b, off, rfl, hS, hd⟩ := hc h0
    obtain ⟨h1, h2, h3⟩ := hb b (by rw [hS]; simp)
    have hall : ∀ j, j < l.length → ∃ sv, w.cell? ⟨b, off + j * 2 + 1, none⟩ = some sv ∧ (∃ z, w.cell? ⟨b, off + j * 2, none⟩ = some (.int .i64 z)) ∧ cellV w b (off + j * 2 + 1) = sv ∧ ArmsTr lo hi w sv (rowT sv) ∧ (0 < (rowT sv).n → own (rowT sv).b = (3, i, j)) := fun j hj => by
      obtain ⟨q0, av, q1, q2⟩ := hd j _ (List.getElem?_eq_getElem hj)
      exact ⟨av, q1, ⟨_, q0⟩, by simp [cellV, q1], armsTr q2 (hs2 _ (List.getElem_mem hj)) (fun g hg => hb g (by rw [hg]; simp))⟩
    refine ⟨⟨⟨_, cap, rfl, fun _ => rfl⟩, hs, fun _ => ⟨h1, h2⟩, fun _ => h3, fun j hj => ?_, fun j hj => ?_⟩, fun _ => hS, fun j hj => ?_⟩
    · obtain ⟨sv, _, h, _⟩ := hall j hj
      exact h
    · obtain ⟨sv, h, _, e, ha, _⟩ := hall j hj
      refine ⟨sv, h, ?_⟩
      show ArmsTr lo hi w sv (rowT (cellV w b (off + j * 2 + 1)))
      rw [e]
      exact ha
    · obtain ⟨sv, h, _, e, _, ho⟩ := hall j hj
      show 0 < (rowT (cellV w b (off + j * 2 + 1))).n → own (rowT (cellV w b (off + j * 2 + 1))).b = (3, i, j)
      rw [e]
      exact ho
  · have e : l.length = 0 := by omega
    have hn : (phisT w (Value.slice a l.length cap)).n = 0 := e
    refine ⟨⟨⟨a, cap, rfl, fun h => absurd h (by omega)⟩, hs, fun h => absurd h (by omega), fun h => absurd h (by omega), fun i hi => absurd hi (by omega), fun i hi => absurd hi (by omega)⟩, fun h => absurd h (by omega), fun i hi => absurd hi (by omega)⟩
theorem FnO.tree {lo hi : Nat} {own : OwnF} {w : World} {bv : Value} {F : FnD} (h : FnO lo own w bv F.blocks) (hs : FnSmall F) (hh : ∀ g, (own g).1 ≤ 3 → g < hi) : BlocksTr lo hi w bv (blocksT w bv) ∧ (blocksSp (blocksT w bv)).Nodup := by
  have hb : ∀ g, (own g).1 ≤ 3 → lo ≤ g ∧ g < hi ∧ ∀ j, w.frozen? ⟨g, j, none⟩ = false := fun g hg => ⟨h.low g hg, hh g hg, h.thaw g hg⟩
  obtain ⟨a, cap, rfl, hm, hc⟩ := h.rows
  by_cases h0 : 0 < F.blocks.length
  · obtain ⟨b, off, rfl, hS, hd⟩ := hc h0
    obtain ⟨h1, h2, h3⟩ := hb b (by rw [hS]; simp)
    have hall : ∀ i, i < F.blocks.length → (NumAt w b (off + i * 6 + 2) ∧ NumAt w b (off + i * 6 + 3) ∧ NumAt w b (off + i * 6 + 4) ∧ NumAt w b (off + i * 6 + 5)) ∧
        (∃ pv, w.cell? ⟨b, off + i * 6, none⟩ = some pv ∧ cellV w b (off + i * 6) = pv ∧ PhisTr lo hi w pv (phisT w pv) ∧ (0 < (phisT w pv).n → own (phisT w pv).b = (1, i, 0)) ∧ ∀ j, j < (phisT w pv).n → 0 < ((phisT w pv).arms j).n → own ((phisT w pv).arms j).b = (3, i, j)) ∧
        ∃ lv, w.cell? ⟨b, off + i * 6 + 1, none⟩ = some lv ∧ cellV w b (off + i * 6 + 1) = lv ∧ InsTr lo hi w lv (rowT lv) ∧ (0 < (rowT lv).n → own (rowT lv).b = (2, i, 0)) := fun i hi => by
      obtain ⟨pv, lv, c0, c1, c2, c3, c4, c5, hp, hl⟩ := hd i _ (List.getElem?_eq_getElem hi)
      obtain ⟨s1, s2, s3⟩ := hs.2 _ (List.getElem_mem hi)
      exact ⟨⟨⟨_, c2⟩, ⟨_, c3⟩, ⟨_, c4⟩, ⟨_, c5⟩⟩, ⟨pv, c0, by simp [cellV, c0], phisTr hp s1 s3 hb⟩, ⟨lv, c1, by simp [cellV, c1], insTr hl s2 (fun g hg => hb g (by rw [hg]; simp))⟩⟩
    have hO : OwnT own (blocksT w (.slice (some ⟨b, off, none⟩) F.blocks.length cap)) := by
      refine ⟨fun _ => hS, fun i hi => ?_, fun i hi => ?_, fun i hi => ?_⟩
      · obtain ⟨_, ⟨pv, _, e, _, ho, _⟩, _⟩ := hall i hi
        show 0 < (phisT w (cellV w b (off + i * 6))).n → own (phisT w (cellV w b (off + i * 6))).b = (1, i, 0)
        rw [e]; exact ho
      · obtain ⟨_, _, ⟨lv, _, e, _, ho⟩⟩ := hall i hi
        show 0 < (rowT (cellV w b (off + i * 6 + 1))).n → own (rowT (cellV w b (off + i * 6 + 1))).b = (2, i, 0)
        rw [e]; exact ho
      · obtain ⟨_, ⟨pv, _, e, _, _, ho⟩, _⟩ := hall i hi
        show ∀ j, j < (phisT w (cellV w b (off + i * 6))).n → 0 < ((phisT w (cellV w b (off + i * 6))).arms j).n → own ((phisT w (cellV w b (off + i * 6))).arms j).b = (3, i, j)
        rw [e]; exact ho
    refine ⟨⟨⟨_, cap, rfl, fun _ => rfl⟩, hs.1, fun _ => ⟨h1, h2⟩, fun _ => h3, fun i hi => (hall i hi).1, fun i hi => ?_, fun i hi => ?_⟩, hO.nodup⟩
    · obtain ⟨_, ⟨pv, c, e, ht, _, _⟩, _⟩ := hall i hi
      refine ⟨pv, c, ?_⟩
      show PhisTr lo _ w pv (phisT w (cellV w b (off + i * 6)))
      rw [e]; exact ht
    · obtain ⟨_, _, ⟨lv, c, e, ht, _⟩⟩ := hall i hi
      refine ⟨lv, c, ?_⟩
      show InsTr lo _ w lv (rowT (cellV w b (off + i * 6 + 1)))
      rw [e]; exact ht
  · have e : F.blocks.length = 0 := by omega
    have hn : (blocksT w (Value.slice a F.blocks.length cap)).n = 0 := e
    refine ⟨⟨⟨a, cap, rfl, fun h => absurd h (by omega)⟩, hs.1, fun h => absurd h (by omega), fun h => absurd h (by omega), fun i hi => absurd hi (by omega), fun i hi => absurd hi (by omega), fun i hi => absurd hi (by omega)⟩, ?_⟩
    simp [blocksSp, blocksT, vN, e, rowS]
end Go.Proofs.YtfmdnjnmbkgmjaaGreatDoor
