/- A step of a line, read by the model. -/
import Derived.Test.YtjcocpdicogecaaGreatDoorTxPs4
import Derived.Test.YtjcocpdicogecaaGreatDoorTxSp
namespace Go.Proofs.YtjcocpdicogecaaGreatDoor
open Go.ChangeShapes Go.WideShapes Go.ChangeAt Go.RowKit
set_option linter.unusedVariables false

theorem ownsRow_belowB {w w' : World} {lo B : Nat} {e : TypeId} {s : Nat} {v : Value} {k : Nat} {xs : List Value} (h : w.ownsRow lo e s v k xs) (hb : Below B w w') (hv : ∀ g, v.ownBlock = some g → g < B) : w'.ownsRow lo e s v k xs := by
  obtain ⟨h0, h1⟩ := h
  refine ⟨h0, ?_⟩
  rcases h1 with h1 | ⟨g, cap, cur, rfl, hlo, hg, h2⟩
  · exact .inl h1
  · exact .inr ⟨g, cap, cur, rfl, hlo, (hb.block g (hv g rfl)).trans hg, h2⟩
/-- A box of a step. -/
def SBx (w : World) (B : Nat) (x0 x1 x2 x3 x4 : Int) : Prop := w.heap[B]? = some (.cells #[.int .i64 x0, .int .i64 x1, .int .i64 x2, .int .i64 x3, .int .i64 x4] 36 (0, 0))
theorem SBx.at {w : World} {B : Nat} {x0 x1 x2 x3 x4 : Int} (h : SBx w B x0 x1 x2 x3 x4) : w.cell? ⟨B, 0, none⟩ = some (.int .i64 x0) ∧ w.cell? ⟨B, 1, none⟩ = some (.int .i64 x1) ∧ w.cell? ⟨B, 2, none⟩ = some (.int .i64 x2) ∧ w.cell? ⟨B, 3, none⟩ = some (.int .i64 x3) ∧ w.cell? ⟨B, 4, none⟩ = some (.int .i64 x4) := by
  unfold SBx at h
  refine ⟨?_, ?_, ?_, ?_, ?_⟩ <;> simp [World.cell?, h]
theorem SBx.fz {w : World} {B : Nat} {x0 x1 x2 x3 x4 : Int} (h : SBx w B x0 x1 x2 x3 x4) (j : Nat) : w.frozen? ⟨B, j, none⟩ = false := by
  unfold SBx at h
  simp [World.frozen?, h]
theorem SBx.lt {w : World} {B : Nat} {x0 x1 x2 x3 x4 : Int} (h : SBx w B x0 x1 x2 x3 x4) : B < w.heap.size := (Array.getElem?_eq_some_iff.1 h).1
theorem SBx.keep {w w' : World} {B : Nat} {x0 x1 x2 x3 x4 : Int} (h : SBx w B x0 x1 x2 x3 x4) (hb : Below w.heap.size w w') : SBx w' B x0 x1 x2 x3 x4 := (hb.block B h.lt).trans h
theorem SBx.under {w w' : World} {B C : Nat} {x0 x1 x2 x3 x4 : Int} (h : SBx w B x0 x1 x2 x3 x4) (hb : Below C w w') (hB : B < C) : SBx w' B x0 x1 x2 x3 x4 := (hb.block B hB).trans h
theorem SBx.other {w : World} {B R j : Nat} {x0 x1 x2 x3 x4 : Int} (h : SBx w B x0 x1 x2 x3 x4) (hB : B ≠ R) (v : Value) : SBx (w.setCell ⟨R, j, none⟩ v) B x0 x1 x2 x3 x4 := (Below.heap_setCell _ _ _ B hB).trans h
theorem SBx.num {w : World} {B : Nat} {x0 x1 x2 x3 x4 : Int} (h : SBx w B x0 x1 x2 x3 x4) (y : Int) : SBx (w.setCell ⟨B, 4, none⟩ (.int .i64 y)) B x0 x1 x2 x3 y := by
  unfold SBx at *
  simp [World.setCell, Array.getElem?_modify, h]
theorem SBx.new (w : World) (x0 x1 x2 x3 x4 : Int) : SBx (w.alloc (.cells #[.int .i64 x0, .int .i64 x1, .int .i64 x2, .int .i64 x3, .int .i64 x4] 36)) w.heap.size x0 x1 x2 x3 x4 := World.alloc_heap_new w _

/-- What the reading of a line knows: S: where its own memory begins (the answer's box lies there); R: the step's box; the words lie between, the registers behind. -/
structure LineSt (l : List UInt8) (w : World) (S R : Nat) (wv : Value) (op : Int) (k : Nat) (rs : List Int) (n : Int) (ov : Value) (wr : World) : Prop where
  k1 : k ≤ (spl 32 l).tail.length
  k4 : k ≤ 4
  regs : OwnInts wr (R + 1) ov rs
  len : rs.length ≤ k
  says : WordsTo ((spl 32 l).tail.take k) rs n
  words : OwnTxts wr (S + 1) wv (spl 32 l)
  wlt : ∀ g, wv.ownBlock = some g → g < R
  box : SBx wr R op 0 0 0 n
  ans : SBx wr S 0 0 0 0 0
  lo : S < R
  below : Below S w wr
theorem LineSt.keep {l : List UInt8} {w wr wn : World} {S R k : Nat} {wv ov : Value} {op n : Int} {rs : List Int} (h : LineSt l w S R wv op k rs n ov wr) (hb : Below wr.heap.size wr wn) : LineSt l w S R wv op k rs n ov wn :=
  ⟨h.k1, h.k4, h.regs.keep hb, h.len, h.says, h.words.keep hb, h.wlt, h.box.keep hb, h.ans.keep hb, h.lo, h.below.trans (hb.mono (Nat.le_of_lt h.ans.lt))⟩
theorem LineSt.word {l : List UInt8} {w wr : World} {S R k : Nat} {wv ov : Value} {op n : Int} {rs : List Int} (h : LineSt l w S R wv op k rs n ov wr) (hk : k < (spl 32 l).tail.length) : ∃ wd, (spl 32 l)[k + 1]? = some wd ∧ (spl 32 l).tail[k]? = some wd := by
  refine ⟨(spl 32 l).tail[k], ?_, List.getElem?_eq_getElem hk⟩
  rw [← List.getElem?_tail]
  exact List.getElem?_eq_getElem hk
theorem take_word {W : List (List UInt8)} {k : Nat} {wd : List UInt8} (h : W[k]? = some wd) : W.take (k + 1) = W.take k ++ [wd] := by
  rw [List.take_add_one, h]
  rfl
/-- A register is added. -/
theorem LineSt.reg {l wd : List UInt8} {w wr wb : World} {S R k : Nat} {wv ov v' : Value} {op n x : Int} {rs : List Int} {b : Obj} (h : LineSt l w S R wv op k rs n ov wr) (hw : (spl 32 l).tail[k]? = some wd) (hk : k < 4) (hx : R64 x ∧ wd = 114 :: Lib.itoa x)
    (ho : OwnInts wb (R + 1) v' (rs ++ [x])) (hg : Below (R + 1) (wr.alloc b) wb) : LineSt l w S R wv op (k + 1) (rs ++ [x]) n v' wb := by
  have ha : Below wr.heap.size wr (wr.alloc b) := Bel.alloc _ _
  have h1 := h.keep ha
  have hlt : ∀ g, wv.ownBlock = some g → g < R + 1 := fun g hg => Nat.lt_succ_of_lt (h.wlt g hg)
  have hlo := h.lo
  refine ⟨(List.getElem?_eq_some_iff.1 hw).1, hk, ho, ?_, ?_, ownsRow_belowB h1.words hg hlt, h.wlt, h1.box.under hg (Nat.lt_succ_self _), h1.ans.under hg (by omega), h.lo, h1.below.trans (hg.mono (by omega))⟩
  · have := h.len; simp; omega
  · rw [take_word hw, hx.2]
    exact .reg h.says hx.1
/-- A number is kept. -/
theorem LineSt.num {l wd : List UInt8} {w wr : World} {S R k : Nat} {wv ov : Value} {op n x : Int} {rs : List Int} (h : LineSt l w S R wv op k rs n ov wr) (hw : (spl 32 l).tail[k]? = some wd) (hk : k < 4) (hx : R64 x ∧ (wd = 115 :: Lib.itoa x ∨ Lib.itoa x = wd)) : LineSt l w S R wv op (k + 1) rs x ov (wr.setCell ⟨R, 4, none⟩ (.int .i64 x)) := by
  have hlo := h.lo
  have hs := h.box.lt
  refine ⟨(List.getElem?_eq_some_iff.1 hw).1, hk, ownsRow_setCell_other h.regs (fun e => ?_) _, Nat.le_succ_of_le h.len, ?_, ownsRow_setCell_other h.words (fun e => ?_) _, h.wlt, h.box.num x, h.ans.other (by omega) _, h.lo, h.below.setCell (p := ⟨R, 4, none⟩) (by show S ≤ R; omega) _⟩
  · have h9 : R + 1 ≤ R := (h.regs.lt _ e).1
    omega
  · rw [take_word hw]
    rcases hx.2 with e | e
    · rw [e]; exact .slot h.says hx.1
    · rw [← e]; exact .num h.says hx.1
  · have h9 : R < R := h.wlt _ e
    omega
theorem SBx.five {W0 : World} {B : Nat} {x0 x1 x2 x3 x4 : Int} (h : SBx W0 B x0 x1 x2 x3 x4) (k0 k1 k2 k3 k4 : Int) : SBx (((((W0.setCell ⟨B, 0, none⟩ (.int .i64 k0)).setCell ⟨B, 1, none⟩ (.int .i64 k1)).setCell ⟨B, 2, none⟩ (.int .i64 k2)).setCell ⟨B, 3, none⟩ (.int .i64 k3)).setCell ⟨B, 4, none⟩ (.int .i64 k4)) B k0 k1 k2 k3 k4 := by
  unfold SBx at *
  simp [World.setCell, Array.getElem?_modify, h]
theorem below_fiveB {w0 w : World} {b B : Nat} (h : Below b w0 w) (hB : b ≤ B) (k0 k1 k2 k3 k4 : Value) : Below b w0 (((((w.setCell ⟨B, 0, none⟩ k0).setCell ⟨B, 1, none⟩ k1).setCell ⟨B, 2, none⟩ k2).setCell ⟨B, 3, none⟩ k3).setCell ⟨B, 4, none⟩ k4) :=
  ((((h.setCell (p := ⟨B, 0, none⟩) hB _).setCell (p := ⟨B, 1, none⟩) hB _).setCell (p := ⟨B, 2, none⟩) hB _).setCell (p := ⟨B, 3, none⟩) hB _).setCell (p := ⟨B, 4, none⟩) hB _
theorem results_line {fn : Func} {t u : Tmp} (h : fn.results = #[.cell t 36, .tmp u]) (tmps : Array Value) (w : World) {B : Nat} {x0 x1 x2 x3 x4 : Int} {ok : Bool} (hp : tmps.getD t undef = .pointer (some ⟨B, 0, none⟩)) (hu : tmps.getD u undef = .bool ok) (hb : SBx w B x0 x1 x2 x3 x4) : (results fn tmps).run Tryz.prog w = .ok (.tuple #[.agg #[.int .i64 x0, .int .i64 x1, .int .i64 x2, .int .i64 x3, .int .i64 x4], .bool ok]) w := by
  have hp' : tmps[t]?.getD undef = .pointer (some ⟨B, 0, none⟩) := by simpa using hp
  have hu' : tmps[u]?.getD undef = .bool ok := by simpa using hu
  obtain ⟨r0, r1, r2, r3, r4⟩ := hb.at
  simp [results, h, hp', hu', go_sem, r0, r1, r2, r3, r4]
theorem OwnTxts.cellAt {w : World} {lo g n c : Nat} {L : List (List UInt8)} (h : OwnTxts w lo (.slice (some ⟨g, 0, none⟩) n c) L) {i : Nat} {wd : List UInt8} (hi : L[i]? = some wd) : w.cell? ⟨g, i, none⟩ = some (.string (bs wd)) := by
  obtain ⟨a, cap, e, hr⟩ := h.row
  obtain ⟨g', ha, _, _, hc⟩ := hr (by have := (List.getElem?_eq_some_iff.1 hi).1; omega)
  simp at e
  obtain ⟨e1, _⟩ := e
  rw [ha] at e1
  cases e1
  exact hc i wd hi
theorem OwnInts.len {w : World} {lo : Nat} {a : Option Addr} {n c : Nat} {l : List Int} (h : OwnInts w lo (.slice a n c) l) : n = l.length := by
  obtain ⟨a9, c9, e9, _⟩ := h.row
  simp at e9
  exact e9.2.1
theorem OwnInts.more {w : World} {lo n : Nat} {v : Value} {l : List Int} {x : Int} (hn : l.length = n) (h : w.ownsRow lo 3 1 v (n + 1) (l.map (fun x => Value.int .i64 x) ++ [.int .i64 x])) : OwnInts w lo v (l ++ [x]) := by
  unfold OwnInts
  rw [List.length_append, List.length_singleton, hn]
  simpa using h
theorem OwnInts.form {w : World} {lo : Nat} {v : Value} {l : List Int} (h : OwnInts w lo v l) : ∃ a c, v = .slice a l.length c := by
  obtain ⟨a, c, e, _⟩ := h.row
  exact ⟨a, c, e⟩
theorem info_intP : (Tryz.prog.info? 3).map (fun i => (i.zero, i.size, i.bytes)) = some (some (.int .i64 0), 1, 8) := by kernel_rfl
theorem regs_max {n k : Nat} (h : n ≤ k) (h4 : k ≤ 4) : n + 1 ≤ maxLen ∧ (n + 1) * 8 ≤ 140737488355328 := by
  have : maxLen = 9223372036854775807 := rfl
  omega
theorem line_end {w w' : World} {l T : List UInt8} {rs : List Int} {n op d a b : Int} {ok : Bool} (ho : ((opOfL ((spl 32 l).headD []) : Nat) : Int) = op) (hw : WordsTo ((spl 32 l).tail.take 4) rs n) (hs : stepW op rs n = ⟨op, d, a, b, n⟩) (hT : textX ⟨op, d, a, b, n⟩ = T)
    (hok : ok = (!(bs T).toList.isEmpty && (bs T).toList == (bs l).toList)) (hb : Below w.heap.size w w') : GivesLine w l (.returned (.tuple #[.agg #[.int .i64 op, .int .i64 d, .int .i64 a, .int .i64 b, .int .i64 n], .bool ok])) w' := by
  rw [bsl, bsl] at hok
  refine ⟨⟨op, d, a, b, n⟩, ok, rfl, fun h => ?_, fun h => ?_, hb⟩
  · rw [h] at hok
    simp at hok
    rw [← hs]
    exact line_yes (wordsTo_r hw) (by rw [hs, hT]; intro e; rw [e] at hok; simp at hok) (by rw [hs, hT]; exact hok.2)
  · refine line_no hw ?_
    rw [ho, hs, hT]
    rw [h] at hok
    intro h1 h2
    rw [h2] at hok h1
    cases l with
    | nil => exact h1 rfl
    | cons c r => simp at hok
/-- The loop's state. -/
def LineRel (l : List UInt8) (w : World) (S R : Nat) (wv : Value) (op : Int) (ov iv : Value) (wr : World) : Prop := ∃ (k : Nat) (rs : List Int) (n : Int) (va : Option Addr) (vn vc : Nat), iv = .int .i64 ((k + 1 : Nat) : Int) ∧ ov = .slice va vn vc ∧ LineSt l w S R wv op k rs n (.slice va vn vc) wr
theorem LineRel.reg {l wd : List UInt8} {w wr wb : World} {S R k j : Nat} {wv ov v' : Value} {op n x : Int} {rs : List Int} {b : Obj} (h : LineSt l w S R wv op k rs n ov wr) (hj : k + 1 = j) (hw : (spl 32 l).tail[k]? = some wd) (hk : k < 4) (hx : R64 x ∧ wd = 114 :: Lib.itoa x)
    (ho : OwnInts wb (R + 1) v' (rs ++ [x])) (hg : Below (R + 1) (wr.alloc b) wb) : LineRel l w S R wv op v' (.int .i64 ((j : Int) + 1)) wb := by
  obtain ⟨a, c, e⟩ := ho.form
  subst hj
  have h9 := h.reg hw hk hx ho hg
  rw [e] at h9
  exact ⟨k + 1, rs ++ [x], n, a, _, c, num_up _, e, h9⟩
theorem LineRel.num {l wd : List UInt8} {w wr : World} {S R k j vn vc : Nat} {wv : Value} {va : Option Addr} {op n x : Int} {rs : List Int} (h : LineSt l w S R wv op k rs n (.slice va vn vc) wr) (hj : k + 1 = j) (hw : (spl 32 l).tail[k]? = some wd) (hk : k < 4) (hx : R64 x ∧ (wd = 115 :: Lib.itoa x ∨ Lib.itoa x = wd)) : LineRel l w S R wv op (.slice va vn vc) (.int .i64 ((j : Int) + 1)) (wr.setCell ⟨R, 4, none⟩ (.int .i64 x)) := by
  subst hj
  exact ⟨k + 1, rs, x, va, vn, vc, num_up _, rfl, h.num hw hk hx⟩
theorem meas_ten {j : Nat} (h : j < 5) : 10 - (intOf (.int .i64 ((j : Int) + 1))).toNat < 10 - (intOf (.int .i64 (j : Int))).toNat := by simp [intOf]; omega
theorem cells_threeI (w : World) (T : TypeId) : ∀ j u, [Value.int .i64 0, .int .i64 0, .int .i64 0][j]? = some u → (w.alloc (.cells #[.int .i64 0, .int .i64 0, .int .i64 0] T)).cell? ((⟨w.heap.size, 0, none⟩ : Addr).add j) = some u := fun j u hu => by
  rw [addF, Nat.zero_add, World.cell?_alloc_new]
  simpa using hu
theorem regs_max3 {n k : Nat} (h : n ≤ k) (h4 : k ≤ 4) : n + 3 ≤ maxLen ∧ (n + 3) * 8 ≤ 140737488355328 := by
  have : maxLen = 9223372036854775807 := rfl
  omega
theorem three_lt {n M : Nat} (h : n + 3 = M) : (0 : Int) < (M : Int) ∧ (1 : Int) < (M : Int) ∧ (2 : Int) < (M : Int) := by omega
theorem apart_of {R g : Nat} (h : R + 1 ≤ g) : ¬ R = g ∧ ¬ g = R := by omega
theorem regs_cells {w : World} {lo M : Nat} {v : Value} {rs : List Int} (hM : rs.length + 3 = M) (h : w.ownsRow lo 3 1 v (rs.length + 3) (rs.map (fun x => Value.int .i64 x) ++ [.int .i64 0, .int .i64 0, .int .i64 0])) :
    ∃ g c, v = .slice (some ⟨g, 0, none⟩) M c ∧ lo ≤ g ∧ w.cell? ⟨g, 0, none⟩ = some (.int .i64 (regW rs 0)) ∧ w.cell? ⟨g, 1, none⟩ = some (.int .i64 (regW rs 1)) ∧ w.cell? ⟨g, 2, none⟩ = some (.int .i64 (regW rs 2)) := by
  have h9 : OwnInts w lo v (rs ++ [0, 0, 0]) := by
    unfold OwnInts
    rw [List.length_append, List.map_append]
    exact h
  obtain ⟨a, c, rfl, hr⟩ := h9.row
  obtain ⟨g, rfl, hlo, _, hc, _⟩ := hr (by simp)
  subst hM
  exact ⟨g, c, by simp, hlo, hc 0 (by simp), hc 1 (by simp), hc 2 (by simp)⟩
theorem LineSt.boxB {l : List UInt8} {w wr wb : World} {S R k : Nat} {wv ov : Value} {op n : Int} {rs : List Int} {b : Obj} (h : LineSt l w S R wv op k rs n ov wr) (hg : Below (R + 1) (wr.alloc b) wb) : SBx wb R op 0 0 0 n := (h.box.keep (Bel.alloc _ _)).under hg (Nat.lt_succ_self _)
theorem LineSt.ansB {l : List UInt8} {w wr wb : World} {S R k : Nat} {wv ov : Value} {op n : Int} {rs : List Int} {b : Obj} (h : LineSt l w S R wv op k rs n ov wr) (hg : Below (R + 1) (wr.alloc b) wb) : SBx wb S 0 0 0 0 0 := (h.ans.keep (Bel.alloc _ _)).under hg (by have := h.lo; omega)
theorem LineSt.belowB {l : List UInt8} {w wr wb : World} {S R k : Nat} {wv ov : Value} {op n : Int} {rs : List Int} {b : Obj} (h : LineSt l w S R wv op k rs n ov wr) (hg : Below (R + 1) (wr.alloc b) wb) : Below S w wb := (h.below.trans ((Bel.alloc wr b).mono (Nat.le_of_lt h.ans.lt))).trans (hg.mono (by have := h.lo; omega))
theorem LineSt.full {l : List UInt8} {w wr : World} {S R k : Nat} {wv ov : Value} {op n : Int} {rs : List Int} (h : LineSt l w S R wv op k rs n ov wr) (hk : k < (spl 32 l).tail.length → ¬ k < 4) : WordsTo ((spl 32 l).tail.take 4) rs n := by
  have h1 := h.k1
  have h4 := h.k4
  have hs := h.says
  by_cases e : k = 4
  · rw [← e]; exact hs
  · have e9 : k = (spl 32 l).tail.length := by
      by_cases e2 : k < (spl 32 l).tail.length
      · exact absurd (by omega) (hk e2)
      · omega
    rw [e9, List.take_of_length_le (Nat.le_refl _)] at hs
    rw [List.take_of_length_le (by omega)]
    exact hs
theorem opOfL_le (b : List UInt8) : opOfL b ≤ 21 := by
  unfold opOfL
  cases h : (List.range 22).find? (fun k => decide (1 ≤ k) && decide (opNm k = b)) with
  | none => simp
  | some k => have := List.mem_range.1 (List.mem_of_find?_eq_some h); simp; omega
theorem op_r {b : List UInt8} {op : Int} (h : ((opOfL b : Nat) : Int) = op) : -9223372036854775808 ≤ op ∧ op ≤ 9223372036854775807 := by
  have := opOfL_le b
  omega
theorem ne_of_beq {a b : Int} (h : (a == b) = false) : ¬ a = b := by simpa using h
theorem op_ways (op : Int) : op = 1 ∨ op = 3 ∨ op = 8 ∨ op = 2 ∨ op = 5 ∨ op = 4 ∨ op = 7 ∨ op = 10 ∨ op = 11 ∨ op = 6 ∨ ((op == 1) = false ∧ (op == 2) = false ∧ (op == 3) = false ∧ (op == 4) = false ∧ (op == 5) = false ∧ (op == 6) = false ∧ (op == 7) = false ∧ (op == 8) = false ∧ (op == 10) = false ∧ (op == 11) = false) := by
  simp only [beq_eq_false_iff_ne]
  omega
/-- The answer's box stays when the step's is written. -/
inductive Sets (R : Nat) (w : World) : World → Prop where
  | none : Sets R w w
  | more {w' : World} (h : Sets R w w') (j : Nat) (v : Value) : Sets R w (w'.setCell ⟨R, j, none⟩ v)
theorem SBx.sets {w w' : World} {B R : Nat} {x0 x1 x2 x3 x4 : Int} (h : SBx w B x0 x1 x2 x3 x4) (hB : B < R) (hs : Sets R w w') : SBx w' B x0 x1 x2 x3 x4 := by
  induction hs with
  | none => exact h
  | more _ j v ih => exact ih.other (by omega) v
theorem Below.sets {w0 w w' : World} {S R : Nat} (h : Below S w0 w) (hB : S < R) (hs : Sets R w w') : Below S w0 w' := by
  induction hs with
  | none => exact h
  | more _ j v ih => exact ih.setCell (p := ⟨R, j, none⟩) (by show S ≤ R; omega) v
end Go.Proofs.YtjcocpdicogecaaGreatDoor
