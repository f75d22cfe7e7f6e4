/- A program renamed to its homes: the model's. -/
import Derived.Test.YtldcohhifmpedaaGreatKOwR
import Derived.Test.YtldcohhifmpedaaGreatKHmO
import Derived.Test.YtldcohhifmpedaaGreatHmOkK
import Derived.Maps.AppendAt
import Derived.Deep.DeepCutAuto
namespace Go.Proofs.YtldcohhifmpedaaGreat
open Go.ChangeShapes Go.WideShapes Go.ChangeAt Go.RowKit Go.Shelf
set_option linter.unusedVariables false

theorem results_fn2 {fn : Func} {t u : Tmp} (h : fn.results = #[.cell t 26, .tmp u]) (tmps : Array Value) (w : World) {B : Nat} {x y z : Value} (hp : tmps.getD t undef = .pointer (some ⟨B, 0, none⟩)) (hz : tmps.getD u undef = z) (r0 : w.cell? ⟨B, 0, none⟩ = some x) (r1 : w.cell? ⟨B, 1, none⟩ = some y) : (results fn tmps).run Tryz.prog w = .ok (.tuple #[.agg #[x, y], z]) w := by
  have hp' : tmps[t]?.getD undef = .pointer (some ⟨B, 0, none⟩) := by simpa using hp
  have hz' : tmps[u]?.getD undef = z := by simpa using hz
  simp [results, h, hp', hz', go_sem, r0, r1]
theorem cells_newL (w : World) (l : List Value) (T : TypeId) : ∀ j u, l[j]? = some u → (w.alloc (.cells l.toArray T)).cell? ((⟨w.heap.size, 0, none⟩ : Addr).add j) = some u := fun j u hu => by
  have e : (⟨w.heap.size, 0, none⟩ : Addr).add j = ⟨w.heap.size, j, none⟩ := by
    unfold Addr.add
    split <;> simp_all
  rw [e]
  simp only [World.cell?]
  rw [World.alloc_heap_new]
  simpa using hu
theorem hinfo_ins : (Tryz.prog.info? 59).map (fun i => (i.zero, i.size, i.bytes)) = some (some (.agg #[.int .i64 0, .int .i64 0, .int .i64 0, .int .i64 0, .int .i64 0]), 5, 40) := by kernel_rfl
theorem hinfo_block : (Tryz.prog.info? 56).map (fun i => (i.zero, i.size, i.bytes)) = some (some (.agg #[.slice none 0 0, .slice none 0 0, .int .i64 0, .int .i64 0, .int .i64 0, .int .i64 0]), 6, 80) := by kernel_rfl
def GivesRen (w : World) (F : FnD) (r : Bool) (e : Ending) (w' : World) : Prop := ∃ bv own, e = .returned (.tuple #[.agg #[bv, .int .i64 F.values], .bool r]) ∧ FnO w.heap.size own w' bv F.blocks ∧ Below w.heap.size w w'
theorem fnO_empty (lo : Nat) (w : World) (a : Option Addr) (c : Nat) : FnO lo (fun _ => (9, 0, 0)) w (.slice a 0 c) [] := ⟨ListO.nil _ _, fun g h => absurd h (by simp), fun g h => absurd h (by simp), fun g h => absurd h (by simp)⟩
/-- What was renamed so far. -/
structure RenTo (w1 w : World) (OB : Nat) (own : OwnF) (bv : Value) (bs : List BlockD) : Prop where
  bel : Below OB w1 w
  lt : OB < w.heap.size
  box : w.heap[OB]? = some (.cells #[bv, .int .i64 40] 26 (0, 0))
  fn : FnO (OB + 1) own w bv bs
  room : RowRoom own w (OB + 1) bv bs.length
theorem RenTo.keep {w1 w w' : World} {OB : Nat} {own : OwnF} {bv : Value} {bs : List BlockD} (h : RenTo w1 w OB own bv bs) (hb : Below w.heap.size w w') : RenTo w1 w' OB own bv bs :=
  ⟨h.bel.trans (hb.mono (Nat.le_of_lt h.lt)), Nat.lt_of_lt_of_le h.lt hb.size, (hb.block OB h.lt).trans h.box, h.fn.keep hb, h.room.keep hb⟩
/-- A block while its list is filled. -/
structure RenAt (wq w : World) (XB : Nat) (lv : Value) (ys : List InsD) (t : TermD) : Prop where
  bel : Below XB wq w
  lt : XB < w.heap.size
  box : w.heap[XB]? = some (.cells #[.slice none 0 0, lv, .int .i64 t.k, .int .i64 t.a, .int .i64 t.t, .int .i64 t.e] 56 (0, 0))
  list : OwnIns w (XB + 1) lv ys
theorem RenAt.keep {wq w w' : World} {XB : Nat} {lv : Value} {ys : List InsD} {t : TermD} (h : RenAt wq w XB lv ys t) (hb : Below w.heap.size w w') : RenAt wq w' XB lv ys t :=
  ⟨h.bel.trans (hb.mono (Nat.le_of_lt h.lt)), Nat.lt_of_lt_of_le h.lt hb.size, (hb.block XB h.lt).trans h.box, h.list.keep hb⟩
theorem RenAt.set {wq w : World} {XB : Nat} {lv : Value} {ys : List InsD} {t : TermD} (h : RenAt wq w XB lv ys t) {B : Nat} (hB : XB < B) (hne : ∀ g, lv.ownBlock = some g → g < B) (j : Nat) (u : Value) : RenAt wq (w.setCell ⟨B, j, none⟩ u) XB lv ys t :=
  ⟨h.bel.setCell (p := ⟨B, j, none⟩) (Nat.le_of_lt hB) _, by simpa using h.lt, (Below.heap_setCell _ _ _ XB (by show XB ≠ B; omega)).trans h.box, h.list.same (fun g hg => Below.heap_setCell _ _ _ g (by have := hne g hg; show g ≠ B; omega))⟩
/-- A place in a box, put anew. -/
theorem insBox_set {w : World} {B : Nat} {op d a b n : Int} {T : TypeId} {z : Nat × Nat} (h : w.heap[B]? = some (.cells #[.int .i64 op, .int .i64 d, .int .i64 a, .int .i64 b, .int .i64 n] T z)) :
    (∀ x : Int, (w.setCell ⟨B, 1, none⟩ (.int .i64 x)).heap[B]? = some (.cells #[.int .i64 op, .int .i64 x, .int .i64 a, .int .i64 b, .int .i64 n] T z)) ∧ (∀ x : Int, (w.setCell ⟨B, 2, none⟩ (.int .i64 x)).heap[B]? = some (.cells #[.int .i64 op, .int .i64 d, .int .i64 x, .int .i64 b, .int .i64 n] T z)) ∧ (∀ x : Int, (w.setCell ⟨B, 3, none⟩ (.int .i64 x)).heap[B]? = some (.cells #[.int .i64 op, .int .i64 d, .int .i64 a, .int .i64 x, .int .i64 n] T z)) := by
  refine ⟨fun x => ?_, fun x => ?_, fun x => ?_⟩ <;> simp [World.setCell, Array.getElem?_modify, h]
theorem insBox_cells {w : World} {B : Nat} {op d a b n : Int} {T : TypeId} (h : w.heap[B]? = some (.cells #[.int .i64 op, .int .i64 d, .int .i64 a, .int .i64 b, .int .i64 n] T (0, 0))) : (w.cell? ⟨B, 0, none⟩ = some (.int .i64 op) ∧ w.cell? ⟨B, 1, none⟩ = some (.int .i64 d) ∧ w.cell? ⟨B, 2, none⟩ = some (.int .i64 a) ∧ w.cell? ⟨B, 3, none⟩ = some (.int .i64 b) ∧ w.cell? ⟨B, 4, none⟩ = some (.int .i64 n)) ∧ ∀ j, w.frozen? ⟨B, j, none⟩ = false := by
  refine ⟨⟨?_, ?_, ?_, ?_, ?_⟩, fun j => ?_⟩ <;> simp [World.cell?, World.frozen?, h]
theorem blockBox_cells {w : World} {B : Nat} {pv lv : Value} {k a t e : Int} {T : TypeId} (h : w.heap[B]? = some (.cells #[pv, lv, .int .i64 k, .int .i64 a, .int .i64 t, .int .i64 e] T (0, 0))) : (w.cell? ⟨B, 0, none⟩ = some pv ∧ w.cell? ⟨B, 1, none⟩ = some lv ∧ w.cell? ⟨B, 2, none⟩ = some (.int .i64 k) ∧ w.cell? ⟨B, 3, none⟩ = some (.int .i64 a) ∧ w.cell? ⟨B, 4, none⟩ = some (.int .i64 t) ∧ w.cell? ⟨B, 5, none⟩ = some (.int .i64 e)) ∧ ∀ j, w.frozen? ⟨B, j, none⟩ = false := by
  refine ⟨⟨?_, ?_, ?_, ?_, ?_, ?_⟩, fun j => ?_⟩ <;> simp [World.cell?, World.frozen?, h]
theorem blockBox_set {w : World} {B : Nat} {pv lv : Value} {k a t e : Int} {T : TypeId} {z : Nat × Nat} (h : w.heap[B]? = some (.cells #[pv, lv, .int .i64 k, .int .i64 a, .int .i64 t, .int .i64 e] T z)) : (∀ x : Int, (w.setCell ⟨B, 3, none⟩ (.int .i64 x)).heap[B]? = some (.cells #[pv, lv, .int .i64 k, .int .i64 x, .int .i64 t, .int .i64 e] T z)) ∧ ∀ u : Value, (w.setCell ⟨B, 1, none⟩ u).heap[B]? = some (.cells #[pv, u, .int .i64 k, .int .i64 a, .int .i64 t, .int .i64 e] T z) := by
  refine ⟨fun x => ?_, fun x => ?_⟩ <;> simp [World.setCell, Array.getElem?_modify, h]
theorem fnBox_cells {w : World} {B : Nat} {x y : Value} {T : TypeId} (h : w.heap[B]? = some (.cells #[x, y] T (0, 0))) : (w.cell? ⟨B, 0, none⟩ = some x ∧ w.cell? ⟨B, 1, none⟩ = some y) ∧ ∀ j, w.frozen? ⟨B, j, none⟩ = false := by
  refine ⟨⟨?_, ?_⟩, fun j => ?_⟩ <;> simp [World.cell?, World.frozen?, h]
theorem fnBox_set0 {w : World} {B : Nat} {x y : Value} {T : TypeId} {z : Nat × Nat} (h : w.heap[B]? = some (.cells #[x, y] T z)) (u : Value) : (w.setCell ⟨B, 0, none⟩ u).heap[B]? = some (.cells #[u, y] T z) := by
  simp [World.setCell, Array.getElem?_modify, h]
/-- The list has grown. -/
theorem RenAt.more {wq w wa : World} {XB n : Nat} {ys : List InsD} {t : TermD} {lv v' : Value} {y : InsD} {o : Obj} (h : RenAt wq w XB lv ys t) (hn : ys.length = n)
    (hown : wa.ownsRow (XB + 1) 59 5 v' (n + 1) (insC ys ++ [.int .i64 y.op, .int .i64 y.d, .int .i64 y.a, .int .i64 y.b, .int .i64 y.n])) (hg : (w.alloc o).grownBy wa lv.ownBlock) : RenAt wq (wa.setCell ⟨XB, 1, none⟩ v') XB v' (ys ++ [y]) t ∧ wa.cell? ⟨XB, 1, none⟩ = some lv ∧ wa.frozen? ⟨XB, 1, none⟩ = false := by
  have hne : ∀ g, lv.ownBlock = some g → XB < g := fun g hg => (h.list.lt hg).1
  have hx := h.lt
  have hsz := hg.size
  have hsa : (w.alloc o).heap.size = w.heap.size + 1 := by simp
  have hXa : wa.heap[XB]? = w.heap[XB]? := (hg.block XB (by omega) (fun e => by have := hne XB e.symm; omega)).trans (Below.heap_alloc w o XB hx)
  have hv : ∀ g, v'.ownBlock = some g → XB < g := fun g hg => by
    rcases hown.2 with ⟨h0, _⟩ | ⟨g', c, cur, h0, hlo, _⟩
    · rw [h0] at hg; simp [Value.ownBlock] at hg
    · rw [h0] at hg; simp [Value.ownBlock] at hg; omega
  have hb := blockBox_cells (hXa.trans h.box)
  refine ⟨⟨?_, by simp; omega, (blockBox_set (hXa.trans h.box)).2 v', (ownIns_next hn hown).same (fun g hg => Below.heap_setCell _ _ _ g (by have := hv g hg; show g ≠ XB; omega))⟩, hb.1.2.1, hb.2 1⟩
  refine (h.bel.trans ⟨hg.os, hg.tape, hg.output, by omega, fun b hb => (hg.block b (by omega) (fun e => by have := hne b e.symm; omega)).trans (Below.heap_alloc w o b (by omega))⟩).setCell (p := ⟨XB, 1, none⟩) (Nat.le_refl _) _
/-- A block is added. -/
theorem RenTo.more {w1 w wa : World} {OB n : Nat} {bs : List BlockD} {ys : List InsD} {t : TermD} {lv v' bv : Value} {own : OwnF} {xs : List Value} {o : Obj} (h : RenTo w1 w OB own bv bs) (hn : bs.length = n) (hxs : w.ownsRow (OB + 1) 56 6 bv n xs) (hlv : OwnIns w (OB + 1) lv ys) (hno : ∀ g, lv.ownBlock = some g → 3 < (own g).1) (hm : n ≤ 100000)
    (hown : wa.ownsRow (OB + 1) 56 6 v' (n + 1) (xs ++ [.slice none 0 0, lv, .int .i64 t.k, .int .i64 t.a, .int .i64 t.t, .int .i64 t.e])) (hg : (w.alloc o).grownBy wa bv.ownBlock) (ho : v'.ownBlock = bv.ownBlock ∨ v'.ownBlock = some (w.alloc o).heap.size) : (∃ own', RenTo w1 (wa.setCell ⟨OB, 0, none⟩ v') OB own' v' (bs ++ [⟨[], ys, t⟩])) ∧ wa.cell? ⟨OB, 0, none⟩ = some bv ∧ wa.frozen? ⟨OB, 0, none⟩ = false := by
  subst hn
  have hO := h.lt
  have hsa : (w.alloc o).heap.size = w.heap.size + 1 := by simp
  have hsz := hg.size
  have bA : Below w.heap.size w (w.alloc o) := Bel.alloc _ _
  have hne : ∀ g, bv.ownBlock = some g → OB < g := fun g hg => by
    have h1 := h.room.blk hg
    have := h.fn.low g (by rw [h1]; simp)
    omega
  have hxs2 : (w.alloc o).ownsRow (OB + 1) 56 6 bv bs.length xs := World.ownsRow.alloc hxs _
  obtain ⟨g', own', hv', hF', hR'⟩ := (h.fn.keep bA).snocL (h.room.keep bA) hxs2 lv ys (hlv.keep bA) hno t hown hg ho (by omega)
  have hg' : OB < g' := by
    have := hR'.blk hv'
    have := hF'.low g' (by rw [this]; simp)
    omega
  have hOa : wa.heap[OB]? = w.heap[OB]? := (hg.block OB (by omega) (fun e => by have := hne OB e.symm; omega)).trans (Below.heap_alloc w o OB hO)
  have hb := fnBox_cells (hOa.trans h.box)
  refine ⟨⟨own', ?_, by simp; omega, fnBox_set0 (hOa.trans h.box) v', hF'.same (fun g hg => Below.heap_setCell _ _ _ g (by have := hF'.low g hg; show g ≠ OB; omega)) (by simp), ?_⟩, hb.1.1, hb.2 0⟩
  · refine (h.bel.trans ⟨hg.os, hg.tape, hg.output, by omega, fun b hb => (hg.block b (by omega) (fun e => by have := hne b e.symm; omega)).trans (Below.heap_alloc w o b (by omega))⟩).setCell (p := ⟨OB, 0, none⟩) (Nat.le_refl _) _
  · rw [List.length_append]
    exact hR'.same (fun g hg => Below.heap_setCell _ _ _ g (by have := hF'.low g (by rw [hg]; simp); show g ≠ OB; omega))
theorem cells_newB {w : World} {B : Nat} (hB : w.heap.size = B) (l : List Value) (T : TypeId) : ∀ j u, l[j]? = some u → (w.alloc (.cells l.toArray T)).cell? ((⟨B, 0, none⟩ : Addr).add j) = some u := by
  subst hB
  exact cells_newL w l T
theorem own_slice {w : World} {lo n k : Nat} {T : TypeId} {v : Value} {xs : List Value} (h : w.ownsRow lo T k v (n + 1) xs) : ∃ a c, v = .slice a (n + 1) c := by
  rcases h.2 with ⟨_, h0⟩ | ⟨g2, c2, _, h2, _⟩
  · omega
  · exact ⟨_, c2, h2⟩
/-- A place is added to the list. -/
theorem wpList_addIns {ops : Array Oper} {rest : List Oper} {o : Oper} {a : Act} {Q : Exit → Act → World → Prop} {wq W0 : World} {XB m : Nat} {la : Option Addr} {lcap : Nat} {ys : List InsD} {t : TermD} (y : InsD) (hgd : o.guard = none) (s x : Operand) (ho : o.op = .call { callee := .builtin .append, args := #[s, x], argTypes := #[52, 52] }) (hs : a.eval s = .slice la m lcap) (B : Nat) (hB : W0.heap.size = B) (hx : a.eval x = .slice (some ⟨B, 0, none⟩) 1 1) (hra : RenAt wq W0 XB (.slice la m lcap) ys t) (hn : ys.length = m) (hm : m ≤ 100000)
    (h : ∀ (a' : Option Addr) (c' : Nat) (wa : World), wa.cell? ⟨XB, 1, none⟩ = some (.slice la m lcap) → wa.frozen? ⟨XB, 1, none⟩ = false → RenAt wq (wa.setCell ⟨XB, 1, none⟩ (.slice a' (m + 1) c')) XB (.slice a' (m + 1) c') (ys ++ [y]) t → wpList Tryz.prog ops Q rest (a.put o.dst (.slice a' (m + 1) c')) wa) :
    wpList Tryz.prog ops Q (o :: rest) a (W0.alloc (.cells #[.int .i64 y.op, .int .i64 y.d, .int .i64 y.a, .int .i64 y.b, .int .i64 y.n] 59)) := by
  obtain ⟨i0, hi, hz0, hz1, hz2⟩ := info_parts hinfo_ins
  have hmx : 2000000 ≤ maxLen := by decide
  have hown := hra.list
  unfold OwnIns at hown
  rw [hn] at hown
  have hlt := hra.lt
  refine wpList_append_own_at _ hgd s x 52 ho (XB + 1) 59 i0 (.agg #[.int .i64 0, .int .i64 0, .int .i64 0, .int .i64 0, .int .i64 0]) 5 40 Tryz.underlying52 hi hz0 hz1 hz2 rfl (by decide) (.slice la m lcap) m (insC ys) hs (World.ownsRow.alloc hown _) ⟨B, 0, none⟩ 1 1 [.int .i64 y.op, .int .i64 y.d, .int .i64 y.a, .int .i64 y.b, .int .i64 y.n] hx rfl (cells_newB hB _ _) (by simp [Value.oneCell']) (by omega) (by omega) (by simp; omega) ?_
  intro v' wa hown' hgrow _ _
  obtain ⟨a', c', rfl⟩ := own_slice hown'
  obtain ⟨k1, k2, k3⟩ := hra.more hn hown' hgrow
  exact h a' c' wa k2 k3 k1
/-- A block is added to the program. -/
theorem wpList_addBlock {ops : Array Oper} {rest : List Oper} {o : Oper} {a : Act} {Q : Exit → Act → World → Prop} {w1 W0 : World} {OB m : Nat} {la : Option Addr} {lcap : Nat} {own : OwnF} {bs : List BlockD} {ys : List InsD} {lv : Value} (t : TermD) (hgd : o.guard = none) (s x : Operand) (ho : o.op = .call { callee := .builtin .append, args := #[s, x], argTypes := #[24, 24] }) (hs : a.eval s = .slice la m lcap) (B : Nat) (hB : W0.heap.size = B) (hx : a.eval x = .slice (some ⟨B, 0, none⟩) 1 1) (hra : RenTo w1 W0 OB own (.slice la m lcap) bs) (hlv : OwnIns W0 (OB + 1) lv ys) (hno : ∀ g, lv.ownBlock = some g → 3 < (own g).1) (h1 : lv.oneCell' = true) (hn : bs.length = m) (hm : m ≤ 100000)
    (h : ∀ (a' : Option Addr) (c' : Nat) (wa : World), wa.cell? ⟨OB, 0, none⟩ = some (.slice la m lcap) → wa.frozen? ⟨OB, 0, none⟩ = false → (∃ own', RenTo w1 (wa.setCell ⟨OB, 0, none⟩ (.slice a' (m + 1) c')) OB own' (.slice a' (m + 1) c') (bs ++ [⟨[], ys, t⟩])) → wpList Tryz.prog ops Q rest (a.put o.dst (.slice a' (m + 1) c')) wa) :
    wpList Tryz.prog ops Q (o :: rest) a (W0.alloc (.cells #[.slice none 0 0, lv, .int .i64 t.k, .int .i64 t.a, .int .i64 t.t, .int .i64 t.e] 56)) := by
  obtain ⟨i0, hi, hz0, hz1, hz2⟩ := info_parts hinfo_block
  have hmx : 2000000 ≤ maxLen := by decide
  obtain ⟨xs, hxs⟩ := hra.room.owns
  rw [hn] at hxs
  have hlt := hra.lt
  refine wpList_append_own_at _ hgd s x 24 ho (OB + 1) 56 i0 (.agg #[.slice none 0 0, .slice none 0 0, .int .i64 0, .int .i64 0, .int .i64 0, .int .i64 0]) 6 80 Tryz.underlying24 hi hz0 hz1 hz2 rfl (by decide) (.slice la m lcap) m xs hs (World.ownsRow.alloc hxs _) ⟨B, 0, none⟩ 1 1 [.slice none 0 0, lv, .int .i64 t.k, .int .i64 t.a, .int .i64 t.t, .int .i64 t.e] hx rfl (cells_newB hB _ _) (by simp [Value.oneCell'] at h1 ⊢; exact h1) (by omega) (by omega) (by simp; omega) ?_
  intro v' wa hown' hgrow _ hob
  obtain ⟨a', c', rfl⟩ := own_slice hown'
  obtain ⟨k1, k2, k3⟩ := hra.more hn hxs hlv hno (by omega) hown' hgrow hob
  exact h a' c' wa k2 k3 k1


def RenInR (wq : World) (l : List Int) (xl : List InsD) (t : TermD) (nl : Nat) (i : Value) (wr : World) : Prop := ∃ (j : Nat) (lv : Value), j ≤ nl ∧ i = .int .i64 j ∧ RenAt wq wr wq.heap.size lv (renL l (xl.take j)) t
def RenOutR (w2 : World) (F : FnD) (l : List Int) (n : Nat) (i : Value) (wr : World) : Prop := ∃ (k : Nat) (own : OwnF) (bv : Value), k ≤ n ∧ i = .int .i64 k ∧ RenTo w2 wr w2.heap.size own bv ((F.blocks.take k).map (renB l))
/-- The place in its box, beside the block. -/
structure RenY (wq w : World) (YB : Nat) (lv : Value) (ys : List InsD) (t : TermD) (y : InsD) : Prop where
  at' : RenAt wq w wq.heap.size lv ys t
  box : w.heap[YB]? = some (.cells #[.int .i64 y.op, .int .i64 y.d, .int .i64 y.a, .int .i64 y.b, .int .i64 y.n] 59 (0, 0))
theorem RenY.cells {wq w : World} {YB : Nat} {lv : Value} {ys : List InsD} {t : TermD} {y : InsD} (h : RenY wq w YB lv ys t y) : (w.cell? ⟨YB, 0, none⟩ = some (.int .i64 y.op) ∧ w.cell? ⟨YB, 1, none⟩ = some (.int .i64 y.d) ∧ w.cell? ⟨YB, 2, none⟩ = some (.int .i64 y.a) ∧ w.cell? ⟨YB, 3, none⟩ = some (.int .i64 y.b) ∧ w.cell? ⟨YB, 4, none⟩ = some (.int .i64 y.n)) ∧ ∀ j, w.frozen? ⟨YB, j, none⟩ = false := insBox_cells h.box
theorem RenY.set {wq w : World} {YB : Nat} {lv : Value} {ys : List InsD} {t : TermD} {op d a b n : Int} (h : RenY wq w YB lv ys t ⟨op, d, a, b, n⟩) (hY : wq.heap.size < YB) (hl : ∀ g, lv.ownBlock = some g → g < YB) : (∀ x : Int, RenY wq (w.setCell ⟨YB, 1, none⟩ (.int .i64 x)) YB lv ys t ⟨op, x, a, b, n⟩) ∧ (∀ x : Int, RenY wq (w.setCell ⟨YB, 2, none⟩ (.int .i64 x)) YB lv ys t ⟨op, d, x, b, n⟩) ∧ (∀ x : Int, RenY wq (w.setCell ⟨YB, 3, none⟩ (.int .i64 x)) YB lv ys t ⟨op, d, a, x, n⟩) :=
  ⟨fun x => ⟨h.at'.set hY hl _ _, (insBox_set h.box).1 x⟩, fun x => ⟨h.at'.set hY hl _ _, (insBox_set h.box).2.1 x⟩, fun x => ⟨h.at'.set hY hl _ _, (insBox_set h.box).2.2 x⟩⟩

set_option maxRecDepth 100000 in
set_option maxHeartbeats 16000000 in
theorem spec_renamed (v : Value) (F : FnD) (a : Option Addr) (ln cap : Nat) (l : List Int) (w : World) (hF : FnAt w v F) (hl : IntsAt w (.slice a ln cap) l) :
    Calls Tryz.prog 16 #[v, .slice a ln cap] w fun e w' => GivesRen w (renamedOf F l) (homesOkOf F l) e w' := by
  have HF : Hid (FnAt w v F) := hF
  have HL : Hid (IntsAt w (.slice a ln cap) l) := hl
  have HLN : Hid (l.length = ln) := intsAt_len hl
  obtain ⟨n, HN⟩ : ∃ n, Hid (F.blocks.length = n) := ⟨_, rfl⟩
  obtain ⟨vals, HV⟩ : ∃ x, Hid (F.values = x) := ⟨_, rfl⟩
  obtain ⟨ba, bcap, rfl⟩ := hF.out HN.out HV.out
  clear hF hl
  obtain ⟨wA, hwA⟩ : ∃ wA, w.alloc (.cells #[.slice ba n bcap, .int .i64 vals] 26) = wA := ⟨_, rfl⟩
  have BA : Hid (Below w.heap.size w wA) := by rw [← hwA]; exact Bel.alloc _ _
  have hsA : wA.heap.size = w.heap.size + 1 := by rw [← hwA]; simp
  have a0 : wA.cell? ⟨w.heap.size, 0, none⟩ = some (.slice ba n bcap) := by rw [← hwA]; simp [go_sem]
  have a1 : wA.cell? ⟨w.heap.size, 1, none⟩ = some (.int .i64 vals) := by rw [← hwA]; simp [go_sem]
  obtain ⟨wB, hwB⟩ : ∃ wB, wA.alloc (.cells #[.slice none 0 0, .int .i64 0] 26) = wB := ⟨_, rfl⟩
  have BB : Hid (Below w.heap.size w wB) := by rw [← hwB]; exact Bel.after BA.out (Bel.alloc _ _)
  have bAB : Below wA.heap.size wA wB := by rw [← hwB]; exact Bel.alloc _ _
  have hsB : wB.heap.size = w.heap.size + 2 := by rw [← hwB]; simp; omega
  have HRB : Hid (wB.heap[w.heap.size + 1]? = some (.cells #[.slice none 0 0, .int .i64 0] 26 (0, 0))) := by
    have h9 := World.alloc_heap_new wA (.cells #[.slice none 0 0, .int .i64 0] 26)
    rw [hwB, hsA] at h9
    exact h9
  replace a0 := Bel.keeps bAB a0
  replace a1 := Bel.keeps bAB a1
  go_enter Tryz.func16, Tryz.ntmps16
  go_wp2_with fail
  try rw [hwA]
  try rw [hwB]
  clear hwA hwB bAB BA hsA
  refine (spec_homesOk _ F a ln cap l wB (HF.out.later BB.out) (HL.out.keep BB.out)).mono ?_
  rintro e w2 ⟨s, rfl, hs, b2⟩
  have HS : Hid (s = true ↔ HomesOkP F l) := hs
  have HRS : Hid (homesOkOf F l = s) := homesOkOf_eq hs
  have B2 : Hid (Below w.heap.size w w2) := Bel.after BB.out b2
  have c0 := Bel.keeps b2 a0
  have c1 := Bel.keeps b2 a1
  have hs2 : w.heap.size + 1 < w2.heap.size := by have := b2.size; omega
  have HR2 : Hid (w2.heap[w.heap.size + 1]? = some (.cells #[.slice none 0 0, .int .i64 0] 26 (0, 0))) := (b2.block _ (by omega)).trans HRB.out
  obtain ⟨⟨r0, r1⟩, rz⟩ := fnBox_cells HR2.out
  have rz0 := rz 0
  have rz1 := rz 1
  clear hs b2 a0 a1 BB HRB rz
  cases s
  · go_wp2_with fail
    have k0 : ((w2.setCell ⟨w.heap.size + 1, 0, none⟩ (.slice none 0 0)).setCell ⟨w.heap.size + 1, 1, none⟩ (.int .i64 0)).cell? ⟨w.heap.size + 1, 0, none⟩ = some (.slice none 0 0) := (World.cell?_setCell_other _ _ _ _ (by simp)).trans (World.cell?_setCell_same _ _ _ r0)
    have k1 : ((w2.setCell ⟨w.heap.size + 1, 0, none⟩ (.slice none 0 0)).setCell ⟨w.heap.size + 1, 1, none⟩ (.int .i64 0)).cell? ⟨w.heap.size + 1, 1, none⟩ = some (.int .i64 0) := World.cell?_setCell_same _ _ _ ((World.cell?_setCell_other _ _ _ _ (by simp)).trans r1)
    refine bodyPost_ret (v := .tuple #[.agg #[.slice none 0 0, .int .i64 0], .bool false]) (results_fn2 rfl _ _ rfl rfl k0 k1) rfl ?_
    rw [HRS.out, renamedOf_no (fun h => by have := HS.out.2 h; cases this)]
    exact ⟨.slice none 0 0, fun _ => (9, 0, 0), rfl, fnO_empty _ _ none 0, (B2.out.setCell (p := ⟨w.heap.size + 1, 0, none⟩) (by show w.heap.size ≤ w.heap.size + 1; omega) _).setCell (p := ⟨w.heap.size + 1, 1, none⟩) (by show w.heap.size ≤ w.heap.size + 1; omega) _⟩
  · have HOK : Hid (HomesOkP F l) := HS.out.1 rfl
    obtain ⟨n', V, hv⟩ := plainV_of HOK.out.1
    have en : n' = n := hv.len.symm.trans HN.out
    subst en
    have HPV : Hid (PlainV F n' V) := hv
    have hV8 := hv.v80
    have hn16 := hv.n16
    have elV : V = ln := by have h1 := HOK.out.2.1; have h2 := hv.vals; have h3 := HLN.out; omega
    subst elV
    have HRO : Hid (renamedOf F l = renF l F) := renamedOf_yes HOK.out
    have HL24 : Hid (∀ (k : Nat) (x : BlockD), F.blocks[k]? = some x → x.list.length ≤ 24) := plain24h HOK.out.1
    clear hv HS
    go_wp2_with fail
    obtain ⟨wO, hwO⟩ : ∃ W, w2.alloc (.cells #[.slice none 0 0, .int .i64 40] 26) = W := ⟨_, rfl⟩
    have RT0 : Hid (RenTo w2 wO w2.heap.size (fun _ => (9, 0, 0)) (.slice none 0 0) []) := by
      rw [← hwO]
      exact ⟨Bel.alloc _ _, by simp, World.alloc_heap_new w2 _, fnO_empty _ _ none 0, .inl ⟨rfl, rfl⟩⟩
    rw [hwO]
    clear hwO r0 r1 rz0 rz1
    go_loopw [7] (fun i wr => RenOutR w2 F l n' i wr) (fun i _ => n' - (intOf i).toNat)
    case atStart => exact ⟨0, _, _, Nat.zero_le _, rfl, by simpa using RT0.out⟩
    case round =>
      clear RT0
      obtain ⟨wq, hwq⟩ : ∃ x, x = wr := ⟨_, rfl⟩
      subst hwq
      obtain ⟨k, own, bv, hk, rfl, hrt⟩ := hrel
      have hltq := hrt.lt
      have BQ : Hid (Below w.heap.size w wq) := B2.out.trans (hrt.bel.mono (by omega))
      have q0 : wq.cell? ⟨w.heap.size, 0, none⟩ = some (.slice ba n' bcap) := (hrt.bel.cell (p := ⟨w.heap.size, 0, none⟩) (by show w.heap.size < w2.heap.size; omega)).trans c0
      have HQ0 : Hid (wq.cell? ⟨w.heap.size, 0, none⟩ = some (.slice ba n' bcap)) := q0
      obtain ⟨oa, ocap, hbv⟩ : ∃ oa ocap, bv = .slice oa k ocap := by
        obtain ⟨oa, ocap, e⟩ := hrt.fn.rows.is
        rw [List.length_map, List.length_take, show min k F.blocks.length = k by have := HN.out; omega] at e
        exact ⟨oa, ocap, e⟩
      subst hbv
      obtain ⟨⟨o0, o1⟩, oz⟩ := fnBox_cells hrt.box
      have hqz := BQ.out.size
      have hwq1 : w.heap.size < wq.heap.size := by omega
      have RT : Hid (RenTo w2 wq w2.heap.size own (.slice oa k ocap) ((F.blocks.take k).map (renB l))) := hrt
      clear hrt
      by_cases hlt : (k : Int) < (n' : Int)
      · have hkn : k < n' := by omega
        clear o0 o1 oz
        obtain ⟨x, HX⟩ : ∃ x, Hid (F.blocks[k]? = some x) := ⟨F.blocks[k]'(by have := HN.out; omega), List.getElem?_eq_getElem _⟩
        obtain ⟨b0, off0, hba, pv, lv0, t0, t1, t2, t3, t4, t5, hpv, hlv⟩ := FnAt.blockC (HF.out.later BQ.out) HN.out hkn HX.out
        subst hba
        have HB24 : Hid (x.list.length ≤ 24) := HL24.out k x HX.out
        have HUS : Hid (∀ y ∈ x.list, (∀ z ∈ usesV y.op y.a y.b, 0 ≤ z ∧ z < (V : Int)) ∧ (insDefV y.op y.d = -1 ∨ (0 ≤ insDefV y.op y.d ∧ insDefV y.op y.d < V))) := HPV.out.uses k x HX.out
        have HEN : Hid (∀ z ∈ endsV x.term.k x.term.a, 0 ≤ z ∧ z < (V : Int)) := HPV.out.ends k x HX.out
        obtain ⟨xp, xl, ⟨tk, ta, tt, te⟩⟩ := x
        dsimp only at t2 t3 t4 t5 hpv hlv HB24 HUS HEN
        have HT0 : Hid (wq.cell? ⟨b0, off0 + k * 6 + 1, none⟩ = some lv0) := t1
        obtain ⟨nl, HNL⟩ : ∃ q, Hid (xl.length = q) := ⟨_, rfl⟩
        have HLV : Hid (ListAt 0 5 InsAt wq lv0 xl) := hlv
        obtain ⟨la, lcap, rfl, hlm, _⟩ := hlv
        rw [HNL.out] at HT0 HLV hlm HB24
        have hnl : nl ≤ 24 := HB24.out
        clear t0 t1 hpv
        go_wp2_with fail
        obtain ⟨wX, hwX⟩ : ∃ W, wq.alloc (.cells #[.slice none 0 0, .slice none 0 0, .int .i64 tk, .int .i64 ta, .int .i64 tt, .int .i64 te] 56) = W := ⟨_, rfl⟩
        have RX : Hid (RenAt wq wX wq.heap.size (.slice none 0 0) [] ⟨tk, ta, tt, te⟩) := by
          rw [← hwX]
          exact ⟨Bel.alloc _ _, by simp, World.alloc_heap_new wq _, ownIns_nil _ _⟩
        rw [hwX]
        clear hwX t2 t3 t4 t5 q0
        refine (spec_termUses tk ta tt te wX).mono ?_
        rintro e w4 ⟨uv, uk, rfl, _, hrow, b4⟩
        obtain ⟨rfl, _⟩ := hrow
        have RX4 : Hid (RenAt wq w4 wq.heap.size (.slice none 0 0) [] ⟨tk, ta, tt, te⟩) := RX.out.keep b4
        obtain ⟨⟨y0, y1, y2, y3, y4, y5⟩, yz⟩ := blockBox_cells RX4.out.box
        dsimp only at y2 y3 y4 y5
        have yz3 := yz 3
        have hx4 := RX4.out.lt
        clear b4 RX yz
        go_upto_if 36 with fail
        go_cut [] (fun wx => ∃ h : Int, renT l ⟨tk, ta, tt, te⟩ = ⟨tk, h, tt, te⟩ ∧ RenAt wq wx wq.heap.size (.slice none 0 0) [] ⟨tk, h, tt, te⟩)
        case first =>
          rcases endsV_forms tk ta with e9 | e9
          · obtain ⟨z, hz, hzV, hget⟩ := homeAt_get HLN.out (HEN.out ta (by rw [e9]; simp)).1 (HEN.out ta (by rw [e9]; simp)).2
            obtain ⟨h, HH⟩ : ∃ h, Hid (homeAt l ta = h) := ⟨_, rfl⟩
            rw [HH.out] at hget
            have HTA : Hid (renT l ⟨tk, ta, tt, te⟩ = ⟨tk, h, tt, te⟩) := by
              show renT l ⟨tk, ta, tt, te⟩ = ⟨tk, h, tt, te⟩
              simp [renT, e9, HH.out]
            obtain ⟨sb, soff, rfl, hc⟩ := intsAt_cell (HL.out.keep (Bel.after BQ.out RX4.out.bel)) hget
            subst hz
            have hzI : (z : Int) < (V : Int) := by omega
            rw [e9, List.length_singleton]
            go_wp2_with fail
            go_meet
            exact ⟨h, HTA.out, RX4.out.bel.setCell (p := ⟨wq.heap.size, 3, none⟩) (Nat.le_refl _) _, by simpa using RX4.out.lt, (blockBox_set RX4.out.box).1 h, ownIns_nil _ _⟩
          · rw [e9, List.length_nil]
            go_wp2_with fail
            go_meet
            exact ⟨ta, by simp [renT, e9], RX4.out⟩
        case rest =>
          obtain ⟨h, hta, hrz⟩ := hcut
          have HTA : Hid (renT l ⟨tk, ta, tt, te⟩ = ⟨tk, h, tt, te⟩) := hta
          have RZ : Hid (RenAt wq wc wq.heap.size (.slice none 0 0) [] ⟨tk, h, tt, te⟩) := hrz
          clear hta hrz y0 y1 y2 y3 y4 y5 yz3 RX4 hx4
          go_wp2_with fail
          go_loopw [9] (fun i wr => RenInR wq l xl ⟨tk, h, tt, te⟩ nl i wr) (fun i _ => nl - (intOf i).toNat)
          case atStart => exact ⟨0, _, Nat.zero_le _, rfl, by rw [renL_nil]; exact RZ.out⟩
          case round =>
            clear RZ
            obtain ⟨wy, hwy⟩ : ∃ x, x = wr := ⟨_, rfl⟩
            subst hwy
            obtain ⟨j, lv, hj, rfl, hra⟩ := hrel
            obtain ⟨m, HM⟩ : ∃ m, Hid ((renL l (xl.take j)).length = m) := ⟨_, rfl⟩
            have hmj : m ≤ 24 := by have h1 := renL_len l (xl.take j); have h2 := HM.out; rw [List.length_take] at h1; omega
            obtain ⟨ra, rcap, hlv9⟩ := hra.list.form
            rw [HM.out] at hlv9
            subst hlv9
            have RY : Hid (RenAt wq wy wq.heap.size (.slice ra m rcap) (renL l (xl.take j)) ⟨tk, h, tt, te⟩) := hra
            have hlty := hra.lt
            have BY : Hid (Below wq.heap.size wq wy) := hra.bel
            have p0 := Bel.keeps BY.out HQ0.out
            have p1 := Bel.keeps BY.out HT0.out
            have HOL : Hid (∀ g, (Value.slice ra m rcap).ownBlock = some g → g < wy.heap.size) := fun g hg => (hra.list.lt hg).2.1
            clear hra
            by_cases hlj : (j : Int) < (nl : Int)
            · obtain ⟨y, HY⟩ : ∃ y, Hid (xl[j]? = some y) := ⟨xl[j]'(by have := HNL.out; omega), List.getElem?_eq_getElem _⟩
              obtain ⟨lb, lo2, hla, hin⟩ := placeAt HLV.out HY.out
              subst hla
              have HUY : Hid ((∀ z ∈ usesV y.op y.a y.b, 0 ≤ z ∧ z < (V : Int)) ∧ (insDefV y.op y.d = -1 ∨ (0 ≤ insDefV y.op y.d ∧ insDefV y.op y.d < V))) := HUS.out y (List.mem_of_getElem? HY.out)
              obtain ⟨i0, i1, i2, i3, i4⟩ := hin
              replace i0 := Bel.keeps BY.out i0
              replace i1 := Bel.keeps BY.out i1
              replace i2 := Bel.keeps BY.out i2
              replace i3 := Bel.keeps BY.out i3
              replace i4 := Bel.keeps BY.out i4
              obtain ⟨yop, yd, ya, yb, yn⟩ := y
              dsimp only at i0 i1 i2 i3 i4 HUY
              go_wp2_with fail
              obtain ⟨wC, hwC⟩ : ∃ W, wy.alloc (.cells #[.int .i64 yop, .int .i64 yd, .int .i64 ya, .int .i64 yb, .int .i64 yn] 59) = W := ⟨_, rfl⟩
              have RC : Hid (RenAt wq wC wq.heap.size (.slice ra m rcap) (renL l (xl.take j)) ⟨tk, h, tt, te⟩) := by rw [← hwC]; exact RY.out.keep (Bel.alloc _ _)
              have YC : Hid (wC.heap[wy.heap.size]? = some (.cells #[.int .i64 yop, .int .i64 yd, .int .i64 ya, .int .i64 yb, .int .i64 yn] 59 (0, 0))) := by rw [← hwC]; exact World.alloc_heap_new wy _
              have hsC : wC.heap.size = wy.heap.size + 1 := by rw [← hwC]; simp
              rw [hwC]
              clear hwC i0 i1 i2 i3 i4 p0 p1 RY
              refine (spec_insUses yop yd ya yb yn wC).mono ?_
              rintro e w5 ⟨uv, uk, rfl, _, hrow, b5⟩
              obtain ⟨rfl, _⟩ := hrow
              have R5 : Hid (RenAt wq w5 wq.heap.size (.slice ra m rcap) (renL l (xl.take j)) ⟨tk, h, tt, te⟩) := RC.out.keep b5
              have Y5 : Hid (w5.heap[wy.heap.size]? = some (.cells #[.int .i64 yop, .int .i64 yd, .int .i64 ya, .int .i64 yb, .int .i64 yn] 59 (0, 0))) := (b5.block _ (by omega)).trans YC.out
              have hs5 : wy.heap.size < w5.heap.size := by have := b5.size; omega
              obtain ⟨⟨g0, g1, g2, g3, g4⟩, _⟩ := insBox_cells Y5.out
              clear b5 RC YC hsC
              obtain ⟨ul, HUL⟩ : ∃ q, Hid ((usesV yop ya yb).length = q) := ⟨_, rfl⟩
              rw [HUL.out]
              go_wp2_with fail
              refine (spec_insDef yop yd ya yb yn w5).mono ?_
              rintro e w6 ⟨rfl, b6⟩
              have R6 : Hid (RenAt wq w6 wq.heap.size (.slice ra m rcap) (renL l (xl.take j)) ⟨tk, h, tt, te⟩) := R5.out.keep b6
              have Y6 : Hid (w6.heap[wy.heap.size]? = some (.cells #[.int .i64 yop, .int .i64 yd, .int .i64 ya, .int .i64 yb, .int .i64 yn] 59 (0, 0))) := (b6.block _ (by omega)).trans Y5.out
              have hs6 : wy.heap.size < w6.heap.size := by have := b6.size; omega
              have B6 : Hid (Below wq.heap.size wq w6) := R6.out.bel
              clear b6 R5 Y5 hs5 g0 g1 g2 g3 g4
              have RY6 : Hid (RenY wq w6 wy.heap.size (.slice ra m rcap) (renL l (xl.take j)) ⟨tk, h, tt, te⟩ ⟨yop, yd, ya, yb, yn⟩) := ⟨R6.out, Y6.out⟩
              obtain ⟨⟨g0, g1, g2, g3, g4⟩, gz⟩ := insBox_cells Y6.out
              have gz1 := gz 1
              clear gz
              obtain ⟨dv, HDV⟩ : ∃ q, Hid (insDefV yop yd = q) := ⟨_, rfl⟩
              rw [HDV.out]
              have hX6 := R6.out.lt
              obtain ⟨y', HY'⟩ : ∃ q, Hid (renX l ⟨yop, yd, ya, yb, yn⟩ = q) := ⟨_, rfl⟩
              obtain ⟨rop, rd, ra', rb, rn⟩ := y'
              have HRX : Hid (yop = rop ∧ (if 0 ≤ dv then homeAt l yd else yd) = rd ∧ (if 0 < ul then homeAt l ya else ya) = ra' ∧ (if 1 < ul then homeAt l yb else yb) = rb ∧ yn = rn) := by
                have h9 := HY'.out
                simp only [renX, InsD.mk.injEq] at h9
                rw [HDV.out, HUL.out] at h9
                exact h9
              obtain ⟨hrop, hrd, hra', hrb, hrn⟩ := HRX.out
              subst hrop
              subst hrn
              have HRD : Hid ((if 0 ≤ dv then homeAt l yd else yd) = rd) := hrd
              have HRA : Hid ((if 0 < ul then homeAt l ya else ya) = ra') := hra'
              have HRB : Hid ((if 1 < ul then homeAt l yb else yb) = rb) := hrb
              clear hrd hra' hrb HRX
              have hul : ul = 0 ∨ ul = 1 ∨ ul = 2 := by rw [← HUL.out]; rcases usesV_forms yop ya yb with e | e | e <;> rw [e] <;> simp
              have HUA : Hid (0 < ul → 0 ≤ ya ∧ ya < (V : Int)) := fun h9 => HUY.out.1 ya (by
                rw [← HUL.out] at h9
                rcases usesV_forms yop ya yb with e | e | e
                · rw [e]; simp
                · rw [e]; simp
                · rw [e] at h9; simp at h9)
              have HUB : Hid (1 < ul → 0 ≤ yb ∧ yb < (V : Int)) := fun h9 => HUY.out.1 yb (by
                rw [← HUL.out] at h9
                rcases usesV_forms yop ya yb with e | e | e
                · rw [e]; simp
                · rw [e] at h9; simp at h9
                · rw [e] at h9; simp at h9)
              have HUD : Hid (0 ≤ dv → 0 ≤ yd ∧ yd < (V : Int)) := fun h9 => by
                rcases insDefV_forms yop yd with e | e
                · have h8 := HUY.out.2
                  rw [e] at h8
                  have h7 := HDV.out
                  omega
                · have h7 := HDV.out
                  omega
              have hXY : wq.heap.size < wy.heap.size := hlty
              have HCELL : Hid (∀ (z : Int) (W : World), Below wq.heap.size wq W → 0 ≤ z → z < (V : Int) → ∃ (k9 sb soff : Nat), z = (k9 : Int) ∧ k9 < V ∧ a = some ⟨sb, soff, none⟩ ∧ W.cell? ⟨sb, soff + k9, none⟩ = some (.int .i64 (homeAt l z)) ∧ sb < wy.heap.size) := fun z W hW h1 h2 => by
                obtain ⟨k9, e9, hk9, hget⟩ := homeAt_get HLN.out h1 h2
                obtain ⟨sb, soff, ea, hc⟩ := intsAt_cell (HL.out.keep BQ.out) hget
                have hlt9 := World.block_lt_of_cell? wq _ hc
                exact ⟨k9, sb, soff, e9, hk9, ea, Bel.keeps hW hc, Nat.lt_trans hlt9 hXY⟩
              go_upto_if 69 with fail
              go_cut [] (fun wx => RenY wq wx wy.heap.size (.slice ra m rcap) (renL l (xl.take j)) ⟨tk, h, tt, te⟩ ⟨yop, rd, ya, yb, yn⟩ ∧ w6.heap.size ≤ wx.heap.size)
              case first =>
                by_cases hdn : 0 ≤ dv
                · have hrd := HRD.out
                  rw [if_pos hdn] at hrd
                  obtain ⟨kd, sb, soff, ekd, hkV, rfl, cd, hsb⟩ := HCELL.out yd w6 R6.out.bel (HUD.out hdn).1 (HUD.out hdn).2
                  rw [hrd] at cd
                  have hkdV : (kd : Int) < (V : Int) := by omega
                  subst ekd
                  clear hrd
                  go_wp2_with fail
                  go_meet
                  exact ⟨(RY6.out.set hXY HOL.out).1 rd, by simp⟩
                · have hrd := HRD.out
                  rw [if_neg hdn] at hrd
                  subst hrd
                  go_wp2_with fail
                  go_meet
                  exact ⟨RY6.out, Nat.le_refl _⟩
              case rest =>
                obtain ⟨w7, hw7⟩ : ∃ x, x = wc := ⟨_, rfl⟩
                subst hw7
                obtain ⟨ry7, hs7⟩ := hcut
                have RY7 : Hid (RenY wq w7 wy.heap.size (.slice ra m rcap) (renL l (xl.take j)) ⟨tk, h, tt, te⟩ ⟨yop, rd, ya, yb, yn⟩) := ry7
                clear g0 g1 g2 g3 g4 gz1 ry7
                obtain ⟨⟨g0, g1, g2, g3, g4⟩, gz⟩ := RY7.out.cells
                dsimp only at g0 g1 g2 g3 g4
                have gz2 := gz 2
                clear gz
                go_upto_if 78 with fail
                go_cut [] (fun wx => RenY wq wx wy.heap.size (.slice ra m rcap) (renL l (xl.take j)) ⟨tk, h, tt, te⟩ ⟨yop, rd, ra', yb, yn⟩ ∧ w6.heap.size ≤ wx.heap.size)
                case first =>
                  by_cases hun : 0 < ul
                  · have hrd := HRA.out
                    rw [if_pos hun] at hrd
                    obtain ⟨kd, sb, soff, ekd, hkV, rfl, cd, hsb⟩ := HCELL.out ya w7 RY7.out.at'.bel (HUA.out hun).1 (HUA.out hun).2
                    rw [hrd] at cd
                    have hkdV : (kd : Int) < (V : Int) := by omega
                    subst ekd
                    have hunI : (0 : Int) < (ul : Int) := by omega
                    clear hrd
                    go_wp2_with fail
                    go_meet
                    exact ⟨(RY7.out.set hXY HOL.out).2.1 ra', by simpa using hs7⟩
                  · have hrd := HRA.out
                    rw [if_neg hun] at hrd
                    subst hrd
                    have hu0 : ul = 0 := by omega
                    subst hu0
                    go_wp2_with fail
                    go_meet
                    exact ⟨RY7.out, hs7⟩
                case rest =>
                  obtain ⟨w8, hw8⟩ : ∃ x, x = wc := ⟨_, rfl⟩
                  subst hw8
                  obtain ⟨ry8, hs8⟩ := hcut
                  have RY8 : Hid (RenY wq w8 wy.heap.size (.slice ra m rcap) (renL l (xl.take j)) ⟨tk, h, tt, te⟩ ⟨yop, rd, ra', yb, yn⟩) := ry8
                  clear g0 g1 g2 g3 g4 gz2 ry8
                  obtain ⟨⟨g0, g1, g2, g3, g4⟩, gz⟩ := RY8.out.cells
                  dsimp only at g0 g1 g2 g3 g4
                  have gz3 := gz 3
                  clear gz
                  go_upto_if 87 with fail
                  go_cut [] (fun wx => RenY wq wx wy.heap.size (.slice ra m rcap) (renL l (xl.take j)) ⟨tk, h, tt, te⟩ ⟨yop, rd, ra', rb, yn⟩ ∧ w6.heap.size ≤ wx.heap.size)
                  case first =>
                    by_cases hun : 1 < ul
                    · have hrd := HRB.out
                      rw [if_pos hun] at hrd
                      obtain ⟨kd, sb, soff, ekd, hkV, rfl, cd, hsb⟩ := HCELL.out yb w8 RY8.out.at'.bel (HUB.out hun).1 (HUB.out hun).2
                      rw [hrd] at cd
                      have hkdV : (kd : Int) < (V : Int) := by omega
                      subst ekd
                      have hu2 : ul = 2 := by omega
                      subst hu2
                      clear hrd
                      go_wp2_with fail
                      go_meet
                      exact ⟨(RY8.out.set hXY HOL.out).2.2 rb, by simpa using hs8⟩
                    · have hrd := HRB.out
                      rw [if_neg hun] at hrd
                      subst hrd
                      have hunI : ¬ (1 : Int) < (ul : Int) := by omega
                      go_wp2_with fail
                      go_meet
                      exact ⟨RY8.out, hs8⟩
                  case rest =>
                    obtain ⟨w9, hw9⟩ : ∃ x, x = wc := ⟨_, rfl⟩
                    subst hw9
                    obtain ⟨ry9, hs9⟩ := hcut
                    have RY9 : Hid (RenY wq w9 wy.heap.size (.slice ra m rcap) (renL l (xl.take j)) ⟨tk, h, tt, te⟩ ⟨yop, rd, ra', rb, yn⟩) := ry9
                    clear g0 g1 g2 g3 g4 gz3 ry9
                    obtain ⟨⟨g0, g1, g2, g3, g4⟩, gz⟩ := RY9.out.cells
                    dsimp only at g0 g1 g2 g3 g4
                    obtain ⟨⟨x0, x1, x2, x3, x4, x5⟩, xz⟩ := blockBox_cells RY9.out.at'.box
                    have hX9 := RY9.out.at'.lt
                    clear gz x0 x2 x3 x4 x5 xz
                    have HADD : Hid (selfC ⟨yop, rd, ra', rb, yn⟩ = false → renL l (xl.take j) ++ [⟨yop, rd, ra', rb, yn⟩] = renL l (xl.take (j + 1))) := fun hs9 => by
                      rw [← HY'.out] at hs9 ⊢
                      exact (renL_more HY.out hs9).symm
                    have HSTAY : Hid (selfC ⟨yop, rd, ra', rb, yn⟩ = true → renL l (xl.take j) = renL l (xl.take (j + 1))) := fun hs9 => by
                      rw [← HY'.out] at hs9
                      exact (renL_stay HY.out hs9).symm
                    by_cases h25 : yop = 25
                    · by_cases hself : rd = ra'
                      · have f25 : (yop != 25) = false := by simp [h25]
                        have f26 : (rd != ra') = false := by simp [hself]
                        have HSELF : Hid (selfC ⟨yop, rd, ra', rb, yn⟩ = true) := by show selfC _ = true; simp [selfC, h25, hself]
                        clear h25 hself
                        go_wp2_with fail
                        go_roundw
                        case rel =>
                          first
                            | exact (show RenInR wq l xl ⟨tk, h, tt, te⟩ nl _ _ from ⟨j + 1, _, by omega, by simp, by rw [← HSTAY.out HSELF.out]; exact RY9.out.at'⟩)
                            | ((repeat apply Exists.intro); exact ⟨(show RenInR wq l xl ⟨tk, h, tt, te⟩ nl _ _ from ⟨j + 1, _, by omega, by simp, by rw [← HSTAY.out HSELF.out]; exact RY9.out.at'⟩), rfl⟩)
                        case measure => simp [intOf]; omega
                      · have f25 : (yop != 25) = false := by simp [h25]
                        have f26 : (rd != ra') = true := by simp [hself]
                        have HSELF : Hid (selfC ⟨yop, rd, ra', rb, yn⟩ = false) := by show selfC _ = false; simp [selfC, hself]
                        clear h25 hself
                        go_wp2_with (at_builtin; refine wpList_addIns (wq := wq) (XB := wq.heap.size) (ys := renL l (xl.take j)) (t := ⟨tk, h, tt, te⟩) ⟨yop, rd, ra', rb, yn⟩ rfl _ _ rfl rfl w9.heap.size rfl rfl RY9.out.at' HM.out (by omega) ?_; intro a9 c9 wa9 j1 j2 j3; rw [HADD.out HSELF.out] at j3; have J3 : Hid (RenAt wq (wa9.setCell ⟨wq.heap.size, 1, none⟩ (.slice a9 (m + 1) c9)) wq.heap.size (.slice a9 (m + 1) c9) (renL l (xl.take (j + 1))) ⟨tk, h, tt, te⟩) := j3; clear j3)
                        go_roundw
                        case rel =>
                          first
                            | exact (show RenInR wq l xl ⟨tk, h, tt, te⟩ nl _ _ from ⟨j + 1, _, by omega, by simp, J3.out⟩)
                            | ((repeat apply Exists.intro); exact ⟨(show RenInR wq l xl ⟨tk, h, tt, te⟩ nl _ _ from ⟨j + 1, _, by omega, by simp, J3.out⟩), rfl⟩)
                        case measure => simp [intOf]; omega
                    · have f25 : (yop != 25) = true := by simp [h25]
                      have HSELF : Hid (selfC ⟨yop, rd, ra', rb, yn⟩ = false) := by show selfC _ = false; simp [selfC, h25]
                      clear h25
                      go_wp2_with (at_builtin; refine wpList_addIns (wq := wq) (XB := wq.heap.size) (ys := renL l (xl.take j)) (t := ⟨tk, h, tt, te⟩) ⟨yop, rd, ra', rb, yn⟩ rfl _ _ rfl rfl w9.heap.size rfl rfl RY9.out.at' HM.out (by omega) ?_; intro a9 c9 wa9 j1 j2 j3; rw [HADD.out HSELF.out] at j3; have J3 : Hid (RenAt wq (wa9.setCell ⟨wq.heap.size, 1, none⟩ (.slice a9 (m + 1) c9)) wq.heap.size (.slice a9 (m + 1) c9) (renL l (xl.take (j + 1))) ⟨tk, h, tt, te⟩) := j3; clear j3)
                      go_roundw
                      case rel =>
                        first
                          | exact (show RenInR wq l xl ⟨tk, h, tt, te⟩ nl _ _ from ⟨j + 1, _, by omega, by simp, J3.out⟩)
                          | ((repeat apply Exists.intro); exact ⟨(show RenInR wq l xl ⟨tk, h, tt, te⟩ nl _ _ from ⟨j + 1, _, by omega, by simp, J3.out⟩), rfl⟩)
                      case measure => simp [intOf]; omega
            · have ejn : nl = j := by omega
              subst ejn
              have exl : renL l (xl.take nl) = renL l xl := by rw [List.take_of_length_le (by have := HNL.out; omega)]
              rw [exl] at RY
              have RTY : Hid (RenTo w2 wy w2.heap.size own (.slice oa k ocap) ((F.blocks.take k).map (renB l))) := RT.out.keep BY.out
              obtain ⟨⟨x0, x1, x2, x3, x4, x5⟩, xz⟩ := blockBox_cells RY.out.box
              dsimp only at x2 x3 x4 x5
              obtain ⟨⟨o0, o1⟩, oz⟩ := fnBox_cells RTY.out.box
              have hOq : w2.heap.size < wq.heap.size := hltq
              have HOW : Hid (OwnIns wy (w2.heap.size + 1) (.slice ra m rcap) (renL l xl)) := RY.out.list.low (by omega)
              have HNO : Hid (∀ g, (Value.slice ra m rcap).ownBlock = some g → 3 < (own g).1) := fun g hg => by
                have h1 := (RY.out.list.lt hg).1
                rcases Nat.lt_or_ge 3 (own g).1 with h2 | h2
                · exact h2
                · have := RT.out.fn.high g h2
                  omega
              have HNX : Hid ((F.blocks.take k).map (renB l) ++ [⟨[], renL l xl, ⟨tk, h, tt, te⟩⟩] = (F.blocks.take (k + 1)).map (renB l)) := by
                show _ = _
                rw [renB_next HX.out, HTA.out]
              have HKL : Hid (((F.blocks.take k).map (renB l)).length = k) := by
                show _ = _
                rw [List.length_map, List.length_take]
                have := HN.out
                omega
              clear xz oz
              go_wp2_with (at_builtin; refine wpList_addBlock (w1 := w2) (OB := w2.heap.size) (own := own) (bs := (F.blocks.take k).map (renB l)) (ys := renL l xl) (lv := .slice ra m rcap) ⟨tk, h, tt, te⟩ rfl _ _ rfl rfl wy.heap.size rfl rfl RTY.out HOW.out HNO.out rfl HKL.out (by omega) ?_; intro a9 c9 wa9 j1 j2 j3; rw [HNX.out] at j3; obtain ⟨own9, j3⟩ := j3; have J3 : Hid (RenTo w2 (wa9.setCell ⟨w2.heap.size, 0, none⟩ (.slice a9 (k + 1) c9)) w2.heap.size own9 (.slice a9 (k + 1) c9) ((F.blocks.take (k + 1)).map (renB l))) := j3; clear j3)
              go_roundw
              case rel =>
                first
                  | exact (show RenOutR w2 F l n' _ _ from ⟨k + 1, own9, _, by omega, by simp, J3.out⟩)
                  | ((repeat apply Exists.intro); exact ⟨(show RenOutR w2 F l n' _ _ from ⟨k + 1, own9, _, by omega, by simp, J3.out⟩), rfl⟩)
              case measure => simp [intOf]; omega
      · have ekn : n' = k := by omega
        subst ekn
        have ebs : (F.blocks.take n').map (renB l) = F.blocks.map (renB l) := by rw [List.take_of_length_le (by have := HN.out; omega)]
        rw [ebs] at RT
        have R1q : Hid (wq.heap[w.heap.size + 1]? = some (.cells #[.slice none 0 0, .int .i64 0] 26 (0, 0))) := (RT.out.bel.block _ (by omega)).trans HR2.out
        obtain ⟨⟨r0, r1⟩, rz⟩ := fnBox_cells R1q.out
        have rz0 := rz 0
        have rz1 := rz 1
        go_wp2_with fail
        have k0 : ((wq.setCell ⟨w.heap.size + 1, 0, none⟩ (.slice oa n' ocap)).setCell ⟨w.heap.size + 1, 1, none⟩ (.int .i64 40)).cell? ⟨w.heap.size + 1, 0, none⟩ = some (.slice oa n' ocap) := (World.cell?_setCell_other _ _ _ _ (by simp)).trans (World.cell?_setCell_same _ _ _ r0)
        have k1 : ((wq.setCell ⟨w.heap.size + 1, 0, none⟩ (.slice oa n' ocap)).setCell ⟨w.heap.size + 1, 1, none⟩ (.int .i64 40)).cell? ⟨w.heap.size + 1, 1, none⟩ = some (.int .i64 40) := World.cell?_setCell_same _ _ _ ((World.cell?_setCell_other _ _ _ _ (by simp)).trans r1)
        refine bodyPost_ret (v := .tuple #[.agg #[.slice oa n' ocap, .int .i64 40], .bool true]) (results_fn2 rfl _ _ rfl rfl k0 k1) rfl ?_
        rw [HRS.out, HRO.out]
        refine ⟨.slice oa n' ocap, own, rfl, ?_, (BQ.out.setCell (p := ⟨w.heap.size + 1, 0, none⟩) (by show w.heap.size ≤ w.heap.size + 1; omega) _).setCell (p := ⟨w.heap.size + 1, 1, none⟩) (by show w.heap.size ≤ w.heap.size + 1; omega) _⟩
        refine (FnO.same (w := wq) (RT.out.fn.low' (by omega)) (fun g hg => ?_) (by simp))
        have := RT.out.fn.low g hg
        exact (Below.heap_setCell _ _ _ g (by show g ≠ w.heap.size + 1; omega)).trans (Below.heap_setCell _ _ _ g (by show g ≠ w.heap.size + 1; omega))
end Go.Proofs.YtldcohhifmpedaaGreat
