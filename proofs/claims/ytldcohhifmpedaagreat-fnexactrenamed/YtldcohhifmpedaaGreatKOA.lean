/- What a program tells, as mathematics: values, cells, what is read, what was told, the way, and fuel. Lists of numbers of the call's own, number by number. The model's cursor of drawn bytes: whatever the bytes, each draw returns a number within its bounds, turns nothing but the cursor's own block, and leaves a cursor. A list of numbers that came in is copied: the laws' toIntS. -/
import Derived.Test.YtldcohhifmpedaaGreatKIns
import Derived.Test.YtldcohhifmpedaaGreatKSeq
import Derived.Deep.OwnRows
import Derived.Test.YtldcohhifmpedaaGreatRows
import Derived.WalkKit
import Derived.ProofKit
import Derived.OpenShut
import Derived.Laws.Shifts
import Derived.Below
import Derived.Deep.QuietTactic
import Derived.BigQuiet
namespace Go.Proofs.YtldcohhifmpedaaGreat
set_option linter.unusedVariables false

/-- Where a run is. -/
structure RunS where
  vals : Nat → Int
  cells : Nat → Int
  reads : List Int
  told : List Int
  path : List Int
  fuel : Nat

def updN (f : Nat → Int) (k : Nat) (x : Int) : Nat → Int := fun i => if i = k then x else f i

def RunS.setV (s : RunS) (d x : Int) : RunS := { s with vals := updN s.vals d.toNat x }
def RunS.val (s : RunS) (v : Int) : Int := s.vals v.toNat
/-- Is it the number of a cell? -/
def cellOk (a : Int) : Prop := 0 ≤ a ∧ a ≤ 7
instance (a : Int) : Decidable (cellOk a) := inferInstanceAs (Decidable (0 ≤ a ∧ a ≤ 7))

/-- What a place does: how it ends, and the run behind it. -/
def insDo (W : Int → Int → Int → Int) (x : InsD) (s : RunS) : Int × RunS :=
  if 1 ≤ x.op ∧ x.op ≤ 10 then (0, s.setV x.d (W x.op (s.val x.a) (s.val x.b)))
  else if x.op = 20 then (0, s.setV x.d x.n)
  else if x.op = 21 then (if cellOk (s.val x.a) then (0, s.setV x.d (s.cells (s.val x.a).toNat)) else (2, s))
  else if x.op = 22 then (if cellOk (s.val x.a) then (0, { s with cells := updN s.cells (s.val x.a).toNat (s.val x.b) }) else (2, s))
  else if x.op = 23 then (0, { s with told := s.told ++ [s.val x.a] })
  else if x.op = 24 then (0, { s.setV x.d (s.reads.headD 0) with reads := s.reads.tail })
  else if x.op = 25 then (0, s.setV x.d (s.val x.a))
  else (0, s)

def armsDo (fr : Int) (before : Nat → Int) (d : Int) (l : List ArmD) (v : Nat → Int) : Nat → Int :=
  l.foldl (fun v a => if a.fr = fr then updN v d.toNat (before a.v.toNat) else v) v
def phisDo (fr : Int) (before : Nat → Int) (ps : List PhiD) (v : Nat → Int) : Nat → Int :=
  ps.foldl (fun v p => armsDo fr before p.d p.arms v) v

/-- The places of a list, one behind the other. -/
def placesDo (W : Int → Int → Int → Int) : List InsD → RunS → Int × RunS
  | [], s => (0, s)
  | x :: xs, s => if s.fuel = 0 then (1, s) else
    let r := insDo W x { s with fuel := s.fuel - 1 }
    if r.1 = 0 then placesDo W xs r.2 else r

def enterDo (b : BlockD) (at_ : Nat) (fr : Int) (s : RunS) : RunS := { s with vals := phisDo fr s.vals b.phis s.vals, path := s.path ++ [(at_ : Int)] }

/-- Where one goes. -/
def nextDo (t : TermD) (s : RunS) : Int := if t.k = 2 ∧ s.val t.a = 0 then t.e else t.t

/-- A run from a block on: how, what the end is, and where it is then. -/
def tellN (W : Int → Int → Int → Int) (F : FnD) : Nat → Nat → Int → RunS → Int × Int × RunS
  | 0, _, _, s => (1, 0, s)
  | k + 1, at_, fr, s => match F.blocks[at_]? with
    | none => (1, 0, s)
    | some b =>
      let r := placesDo W b.list (enterDo b at_ fr s)
      if r.1 ≠ 0 then (r.1, 0, r.2)
      else if r.2.fuel = 0 then (1, 0, r.2)
      else if b.term.k = 3 then (0, r.2.val b.term.a, { r.2 with fuel := r.2.fuel - 1 })
      else tellN W F k (nextDo b.term r.2).toNat at_ { r.2 with fuel := r.2.fuel - 1 }

def startDo (reads : List Int) (fuel : Int) : RunS := ⟨fun _ => 0, fun _ => 0, reads, [], [], (min fuel 5000).toNat⟩
def runDo (W : Int → Int → Int → Int) (F : FnD) (reads : List Int) (fuel : Int) : Int × Int × RunS := tellN W F 5001 0 (-1) (startDo reads fuel)

theorem insDo_fuel (W : Int → Int → Int → Int) (x : InsD) (s : RunS) : (insDo W x s).2.fuel = s.fuel := by
  unfold insDo
  repeat' split
  all_goals rfl
theorem placesDo_fuel (W : Int → Int → Int → Int) (xs : List InsD) (s : RunS) : (placesDo W xs s).2.fuel ≤ s.fuel := by
  induction xs generalizing s with
  | nil => exact Nat.le_refl _
  | cons x xs ih =>
    unfold placesDo
    split
    · exact Nat.le_refl _
    · have h := insDo_fuel W x { s with fuel := s.fuel - 1 }
      dsimp only at h ⊢
      split
      · have := ih (insDo W x { s with fuel := s.fuel - 1 }).2
        omega
      · omega
theorem placesDo_cons (W : Int → Int → Int → Int) (x : InsD) (xs : List InsD) (s : RunS) : placesDo W (x :: xs) s = if s.fuel = 0 then (1, s) else (if (insDo W x { s with fuel := s.fuel - 1 }).1 = 0 then placesDo W xs (insDo W x { s with fuel := s.fuel - 1 }).2 else insDo W x { s with fuel := s.fuel - 1 }) := rfl
end Go.Proofs.YtldcohhifmpedaaGreat

namespace Go.Proofs.YtldcohhifmpedaaGreat
open Go.ChangeShapes Go.WideShapes Go.ChangeAt Go.RowKit
set_option linter.unusedVariables false

theorem cell_of_heap {w w' : World} {b : Nat} (h : w'.heap[b]? = w.heap[b]?) (o : Nat) : w'.cell? ⟨b, o, none⟩ = w.cell? ⟨b, o, none⟩ := by simp [World.cell?, h]
theorem frozen_of_cells {w : World} {b : Nat} {t : TypeId} (h : ∃ c, w.heap[b]? = some (.cells c t (0, 0))) (o : Nat) : w.frozen? ⟨b, o, none⟩ = false := by
  obtain ⟨c, h⟩ := h
  simp [World.frozen?, h]
/-- The first n of f. -/
def listN (n : Nat) (f : Nat → Int) : List Int := (List.range n).map f
theorem listN_len (n : Nat) (f : Nat → Int) : (listN n f).length = n := by simp [listN]
theorem listN_at (n : Nat) (f : Nat → Int) {i : Nat} (h : i < n) : (listN n f).getD i 0 = f i := by simp [listN, List.getD, h]
theorem listN_set (n : Nat) (f : Nat → Int) (d : Nat) (x : Int) : (listN n f).set d x = listN n (updN f d x) := by
  apply List.ext_getElem?
  intro i
  by_cases hi : i < n
  · by_cases e : d = i
    · subst e
      simp [listN, updN, hi]
    · have e2 : ¬ i = d := fun h => e h.symm
      simp [listN, updN, hi, e, e2]
  · rw [List.getElem?_eq_none (by simp [listN]; omega), List.getElem?_eq_none (by simp [listN]; omega)]

theorem OwnInts.heapOf {w : World} {lo g n cap : Nat} {l : List Int} (h : OwnInts w lo (.slice (some ⟨g, 0, none⟩) n cap) l) : ∃ c, w.heap[g]? = some (.cells c 3 (0, 0)) := by
  rcases h.2 with ⟨h0, _⟩ | ⟨g', cap', cur, h0, _, hg, _⟩
  · cases h0
  · cases h0
    exact ⟨cur, hg⟩
theorem OwnInts.len {w : World} {lo g n cap : Nat} {l : List Int} (h : OwnInts w lo (.slice (some ⟨g, 0, none⟩) n cap) l) : n = l.length := by
  rcases h.2 with ⟨h0, _⟩ | ⟨g', cap', cur, h0, _, hg, _⟩
  · cases h0
  · cases h0
    rfl
theorem OwnInts.setAt {w : World} {lo g n cap : Nat} {l : List Int} (h : OwnInts w lo (.slice (some ⟨g, 0, none⟩) n cap) l) {d : Nat} (hd : d < n) (x : Int) : OwnInts (w.setCell ⟨g, d, none⟩ (.int .i64 x)) lo (.slice (some ⟨g, 0, none⟩) n cap) (l.set d x) := by
  have hn := h.len
  rcases h with ⟨h00, h⟩
  rcases h with ⟨h0, _⟩ | ⟨g', cap', cur, h0, hlo, hg, h1, h2, h3, h4⟩
  · cases h0
  · cases h0
    refine ⟨by simp, .inr ⟨g, cap, cur.setIfInBounds d (.int .i64 x), by simp, hlo, heap_setCell_same _ _ _ _ _ _ hg, by simpa using h1, by simpa using h2, by simpa using h3, ?_⟩⟩
    have e : (cur.setIfInBounds d (Value.int .i64 x)).toList = cur.toList.set d (.int .i64 x) := by simp
    rw [e, List.length_set, List.take_set, h4, List.map_set]
theorem OwnInts.apartSet {w : World} {lo : Nat} {v : Value} {l : List Int} (h : OwnInts w lo v l) {g d : Nat} (hg : v.ownBlock ≠ some g) (x : Value) : OwnInts (w.setCell ⟨g, d, none⟩ x) lo v l := by
  obtain ⟨h0, h1⟩ := h
  refine ⟨h0, ?_⟩
  rcases h1 with h1 | ⟨g', cap, cur, rfl, hlo, hh, h2⟩
  · exact .inl h1
  · refine .inr ⟨g', cap, cur, rfl, hlo, ?_, h2⟩
    rw [heap_setCell_other _ _ _ _ (fun e => hg (by simp [Value.ownBlock]; exact e))]
    exact hh
theorem OwnInts.cellAt {w : World} {lo g n cap : Nat} {l : List Int} (h : OwnInts w lo (.slice (some ⟨g, 0, none⟩) n cap) l) {i : Nat} (hi : i < n) : w.cell? ⟨g, i, none⟩ = some (.int .i64 (l.getD i 0)) := by
  have hn := h.len
  obtain ⟨a, c, e, hc⟩ := h.row
  obtain ⟨g', e2, _, _, h1, _⟩ := hc (by omega)
  subst e2
  simp at e
  obtain ⟨rfl, _, _⟩ := e
  exact h1 i (by omega)

theorem make_ints (n : Nat) (hn : n ≤ 1048576) (w : World) : (Instr.makeSlice 27 (.int .i64 (n : Int)) (.int .i64 (n : Int))).run Tryz.prog w = .ok (.slice (some ⟨w.heap.size, 0, none⟩) n n) (w.alloc (.cells (madeCells #[.int .i64 0] n) 3)) :=
  run_make_row' 27 3 (.int .i64 0) 8 Tryz.underlying27 (by kernel_rfl) rfl .i64 .i64 n (by omega) (by omega) w
theorem own_made {w : World} {lo : Nat} (n : Nat) (hn : n ≤ 1048576) (hlo : lo ≤ w.heap.size) : OwnInts (w.alloc (.cells (madeCells #[.int .i64 0] n) 3)) lo (.slice (some ⟨w.heap.size, 0, none⟩) n n) (listN n (fun _ => 0)) := by
  have hm : n ≤ maxLen := by have : 1048576 ≤ maxLen := by decide
                             omega
  refine ⟨by simp [listN_len], .inr ⟨w.heap.size, n, madeCells #[.int .i64 0] n, by rw [listN_len], hlo, World.alloc_heap_new w _, by rw [listN_len]; exact Nat.le_refl _, hm, by simp [size_madeCells], ?_⟩⟩
  rw [toList_madeCells_one, listN_len]
  simp [listN]
  exact (List.eq_replicate_iff.2 ⟨by simp, by simp⟩).symm
end Go.Proofs.YtldcohhifmpedaaGreat

namespace Go.Proofs.YtldcohhifmpedaaGreat
open Go.ChangeShapes Go.WideShapes Go.ChangeAt Go.RowKit
set_option linter.unusedVariables false

theorem andMask (b : Int) (m : Nat) (k : Nat) (hk : k ≤ 62) (hm : m = 2 ^ k - 1) (hb : (BitVec.ofInt 64 (m : Int)).toNat = m) : bits .and .i64 b (m : Int) = b % ((2 ^ k : Nat) : Int) := by
  have h : (BitVec.ofInt 64 b &&& BitVec.ofInt 64 (m : Int)).toNat = (BitVec.ofInt 64 b).toNat % 2 ^ k := by
    rw [BitVec.toNat_and, hb, hm]
    exact Nat.and_two_pow_sub_one_eq_mod _ k
  have h2 : (BitVec.ofInt 64 b).toNat = (b % 18446744073709551616).toNat := by
    rw [BitVec.toNat_ofInt]; rfl
  show IntKind.i64.wrap ((BitVec.ofInt 64 b &&& BitVec.ofInt 64 (m : Int)).toNat : Int) = _
  rw [h, h2]
  have hd : (2 : Nat) ^ k ∣ 18446744073709551616 := by
    have e : (18446744073709551616 : Nat) = 2 ^ 64 := by decide
    rw [e]
    exact Nat.pow_dvd_pow 2 (by omega)
  obtain ⟨q, hq⟩ := hd
  have hlt : (2 : Nat) ^ k ≤ 4611686018427387904 := by
    have e : (4611686018427387904 : Nat) = 2 ^ 62 := by decide
    rw [e]
    exact Nat.pow_le_pow_right (by omega) hk
  have hpos : 0 < (2 : Nat) ^ k := Nat.pow_pos (by omega)
  generalize hP : (2 : Nat) ^ k = P at *
  have e1 : (((b % 18446744073709551616).toNat % P : Nat) : Int) = b % (P : Int) := by
    have h0 : 0 ≤ b % 18446744073709551616 := Int.emod_nonneg _ (by decide)
    rw [Int.natCast_emod, Int.toNat_of_nonneg h0]
    have hq' : (18446744073709551616 : Int) = (P : Int) * (q : Int) := by rw [← Int.natCast_mul, ← hq]; rfl
    rw [hq']
    exact Int.emod_emod_of_dvd b ⟨(q : Int), rfl⟩
  rw [e1]
  have h3 : 0 ≤ b % (P : Int) := Int.emod_nonneg _ (by omega)
  have h4 : b % (P : Int) < (P : Int) := Int.emod_lt_of_pos _ (by omega)
  simp [IntKind.wrap, IntKind.bits, IntKind.signed]
  omega

theorem and255 (b : Int) : bits .and .i64 b 255 = b % 256 := andMask b 255 8 (by omega) (by omega) (by decide)
theorem and255_lo (b : Int) : 0 ≤ bits .and .i64 b 255 := by rw [and255]; omega
theorem and255_hi (b : Int) : bits .and .i64 b 255 ≤ 255 := by rw [and255]; omega

/-- What is known of a slice of integers: it is nil, or it leads to a row of 'cap' cells. -/
def IsRow (k : IntKind) (w : World) (a : Option Addr) (len cap : Nat) (zs : List Int) : Prop :=
  (a = none ∧ len = 0 ∧ cap = 0 ∧ zs = []) ∨
  ∃ x, a = some x ∧ len ≤ cap ∧ cap ≤ maxLen ∧ zs.length = cap ∧ (∀ i, i < zs.length → w.cell? (x.add i) = some (.int k (zs.getD i 0))) ∧ ∀ n ∈ zs, (Lit.int k n).wf = true

theorem addr_add (b off k : Nat) : (⟨b, off, none⟩ : Addr).add k = ⟨b, off + k, none⟩ := by
  unfold Addr.add
  split <;> simp_all

theorem add_block (x : Addr) (k : Nat) : (x.add k).block = x.block := by
  unfold Addr.add
  split <;> rfl

/-- Nothing that was there has turned but block p. -/
structure Fr (p : Nat) (w w' : World) : Prop where
  os : w'.os = w.os
  tape : w'.tape = w.tape
  output : w'.output = w.output
  size : w.heap.size ≤ w'.heap.size
  block : ∀ k, k < w.heap.size → k ≠ p → w'.heap[k]? = w.heap[k]?

theorem Fr.refl (p : Nat) (w : World) : Fr p w w := ⟨rfl, rfl, rfl, Nat.le_refl _, fun _ _ _ => rfl⟩
theorem Fr.trans {p : Nat} {a b c : World} (h : Fr p a b) (k : Fr p b c) : Fr p a c :=
  ⟨k.os.trans h.os, k.tape.trans h.tape, k.output.trans h.output, Nat.le_trans h.size k.size, fun i hi hp => (k.block i (Nat.lt_of_lt_of_le hi h.size) hp).trans (h.block i hi hp)⟩
theorem Fr.drew {p : Nat} {a w : World} (h : Fr p a w) : Fr p a w.drew := ⟨h.os, h.tape, h.output, h.size, h.block⟩
theorem Fr.drewN {p : Nat} {a w : World} (h : Fr p a w) (n : Nat) : Fr p a (w.drewN n) := ⟨h.os, h.tape, h.output, h.size, h.block⟩
theorem Fr.setCell {p : Nat} {a w : World} (h : Fr p a w) (o : Nat) (u : Value) : Fr p a (w.setCell ⟨p, o, none⟩ u) :=
  h.trans ⟨rfl, rfl, rfl, by simp [World.setCell], fun k _ hp => Below.heap_setCell _ _ _ _ hp⟩
theorem Fr.alloc {p : Nat} {a w : World} (h : Fr p a w) (o : Obj) : Fr p a (w.alloc o) :=
  h.trans ⟨rfl, rfl, rfl, by simp, fun k hk _ => Below.heap_alloc _ _ _ hk⟩
theorem Fr.below {p B : Nat} {a w : World} (h : Fr p a w) (hp : B ≤ p) (hB : B ≤ a.heap.size) : Below B a w :=
  ⟨h.os, h.tape, h.output, h.size, fun k hk => h.block k (by omega) (by omega)⟩
theorem Fr.ofBelow {p : Nat} {a w : World} (h : Below a.heap.size a w) : Fr p a w :=
  ⟨h.os, h.tape, h.output, h.size, fun k hk _ => h.block k hk⟩
theorem Fr.cell {p : Nat} {a w : World} (h : Fr p a w) {x : Addr} (hx : x.block < a.heap.size) (hp : x.block ≠ p) : w.cell? x = a.cell? x := World.cell?_of_block (w := a) (h.block x.block hx hp)
theorem Fr.frozen {p : Nat} {a w : World} (h : Fr p a w) {x : Addr} (hx : x.block < a.heap.size) (hp : x.block ≠ p) : w.frozen? x = a.frozen? x := World.frozen?_of_block (w := a) (h.block x.block hx hp)

theorem IsRow.lt {k : IntKind} {w : World} {a : Option Addr} {len cap : Nat} {zs : List Int} (h : IsRow k w a len cap zs) : ∀ x, a = some x → 0 < cap → x.block < w.heap.size := by
  intro x hx hc
  rcases h with ⟨h, _⟩ | ⟨y, h, h1, h2, h3, hcell, hw⟩
  · rw [h] at hx; cases hx
  · rw [h] at hx
    cases hx
    have h0 := World.block_lt_of_cell? w _ (hcell 0 (by omega))
    rw [add_block] at h0
    exact h0

theorem IsRow.keep {p : Nat} {k : IntKind} {w w' : World} {a : Option Addr} {len cap : Nat} {zs : List Int} (h : IsRow k w a len cap zs) (hp : ∀ x, a = some x → 0 < cap → x.block ≠ p) (hf : Fr p w w') : IsRow k w' a len cap zs := by
  rcases h with h | ⟨x, rfl, h1, h2, h3, hc, hw⟩
  · exact .inl h
  · refine .inr ⟨x, rfl, h1, h2, h3, fun i hi => ?_, hw⟩
    have hci := hc i hi
    rw [hf.cell (x := x.add i) (World.block_lt_of_cell? w _ hci) (by rw [add_block]; exact hp x rfl (by omega))]
    exact hci

/-- A cursor lies in block p. -/
def Cur (w : World) (p : Nat) : Prop := ∃ (a : Option Addr) (len cap : Nat) (zs : List Int) (i h : Int),
  w.cell? ⟨p, 0, none⟩ = some (.slice a len cap) ∧ w.cell? ⟨p, 1, none⟩ = some (.int .i64 i) ∧ w.cell? ⟨p, 2, none⟩ = some (.int .i64 h) ∧
  w.frozen? ⟨p, 1, none⟩ = false ∧ w.frozen? ⟨p, 2, none⟩ = false ∧ 0 ≤ i ∧ IsRow .u8 w a len cap zs ∧ (∀ x, a = some x → 0 < cap → x.block ≠ p)

theorem Cur.keep {w w' : World} {p q : Nat} (h : Cur w p) (hf : Fr q w w') (hpq : p ≠ q) (hq : ∀ a len cap, w.cell? ⟨p, 0, none⟩ = some (.slice a len cap) → ∀ x, a = some x → 0 < cap → x.block ≠ q) : Cur w' p := by
  obtain ⟨a, len, cap, zs, i, h, c0, c1, c2, f1, f2, hi, hr, hx⟩ := h
  have hb : p < w.heap.size := World.block_lt_of_cell? w _ c0
  refine ⟨a, len, cap, zs, i, h, ?_, ?_, ?_, ?_, ?_, hi, hr.keep (hq a len cap c0) hf, hx⟩
  · rw [hf.cell (x := ⟨p, 0, none⟩) hb hpq]; exact c0
  · rw [hf.cell (x := ⟨p, 1, none⟩) hb hpq]; exact c1
  · rw [hf.cell (x := ⟨p, 2, none⟩) hb hpq]; exact c2
  · rw [hf.frozen (x := ⟨p, 1, none⟩) hb hpq]; exact f1
  · rw [hf.frozen (x := ⟨p, 2, none⟩) hb hpq]; exact f2

theorem Cur.later {w w' : World} {p : Nat} (h : Cur w p) (hf : Below w.heap.size w w') : Cur w' p := by
  have hf' := hf
  obtain ⟨a, len, cap, zs, i, h, c0, c1, c2, f1, f2, hi, hr, hx⟩ := h
  have hb : p < w.heap.size := World.block_lt_of_cell? w _ c0
  refine ⟨a, len, cap, zs, i, h, ?_, ?_, ?_, ?_, ?_, hi, hr.keep (p := p) hx (Fr.ofBelow hf), hx⟩
  · rw [hf.cell (p := ⟨p, 0, none⟩) hb]; exact c0
  · rw [hf.cell (p := ⟨p, 1, none⟩) hb]; exact c1
  · rw [hf.cell (p := ⟨p, 2, none⟩) hb]; exact c2
  · rw [hf.frozen (p := ⟨p, 1, none⟩) hb]; exact f1
  · rw [hf.frozen (p := ⟨p, 2, none⟩) hb]; exact f2

/-- The two worlds that a drawn byte leaves. -/
theorem cur_one {w : World} {p : Nat} {a : Option Addr} {len cap : Nat} {zs : List Int} {i h : Int} (h' : Int)
   (c0 : w.cell? ⟨p, 0, none⟩ = some (.slice a len cap)) (c1 : w.cell? ⟨p, 1, none⟩ = some (.int .i64 i)) (c2 : w.cell? ⟨p, 2, none⟩ = some (.int .i64 h))
   (f1 : w.frozen? ⟨p, 1, none⟩ = false) (f2 : w.frozen? ⟨p, 2, none⟩ = false) (hi : 0 ≤ i) (hr : IsRow .u8 w a len cap zs) (hx : ∀ x, a = some x → 0 < cap → x.block ≠ p) :
   Cur (w.setCell ⟨p, 2, none⟩ (.int .i64 h')) p := by
  refine ⟨a, len, cap, zs, i, h', ?_, ?_, ?_, ?_, ?_, hi, hr.keep hx ((Fr.refl p w).setCell 2 _), hx⟩
  · rw [World.cell?_setCell_other _ _ _ _ (by simp)]; exact c0
  · rw [World.cell?_setCell_other _ _ _ _ (by simp)]; exact c1
  · exact World.cell?_setCell_same _ _ _ c2
  · simpa using f1
  · simpa using f2

theorem cur_made (w : World) (a : Option Addr) (len cap : Nat) (zs : List Int) (h : Int) (t : TypeId) (hr : IsRow .u8 w a len cap zs) :
    Cur (w.alloc (.cells #[.slice a len cap, .int .i64 0, .int .i64 h] t)) w.heap.size := by
  refine ⟨a, len, cap, zs, 0, h, ?_, ?_, ?_, ?_, ?_, by omega, hr.keep (p := w.heap.size) (fun x e c => Nat.ne_of_lt (hr.lt x e c)) ((Fr.refl _ w).alloc _), fun x e c => Nat.ne_of_lt (hr.lt x e c)⟩
  · simp
  · simp
  · simp
  · simp
  · simp

theorem Cur.drewN {w : World} {p : Nat} (h : Cur w p) (n : Nat) : Cur (w.drewN n) p := h
theorem Cur.step {w : World} {p : Nat} (h : Cur w p) (i' : Int) (hi' : 0 ≤ i') : Cur (w.setCell ⟨p, 1, none⟩ (.int .i64 i')) p := by
  obtain ⟨a, len, cap, zs, i, h, c0, c1, c2, f1, f2, hi, hr, hx⟩ := h
  refine ⟨a, len, cap, zs, i', h, ?_, ?_, ?_, ?_, ?_, hi', hr.keep hx ((Fr.refl p w).setCell 1 _), hx⟩
  · rw [World.cell?_setCell_other _ _ _ _ (by simp)]; exact c0
  · exact World.cell?_setCell_same _ _ _ c1
  · rw [World.cell?_setCell_other _ _ _ _ (by simp)]; exact c2
  · simpa using f1
  · simpa using f2

set_option maxHeartbeats 1000000 in
theorem byte_any (p : Nat) (w : World) (hc : Cur w p) :
    Calls Tryz.prog 142 #[.pointer (some ⟨p, 0, none⟩)] w fun e w' => ∃ x : Int, e = .returned (.int .i64 x) ∧ 0 ≤ x ∧ x ≤ 255 ∧ Fr p w w' ∧ Cur w' p := by
  obtain ⟨a, len, cap, zs, i, h, c0, c1, c2, f1, f2, hi0, hr, hx⟩ := hc
  by_cases hi : (len : Int) ≤ i
  · have hw := fun h' => cur_one h' c0 c1 c2 f1 f2 hi0 hr hx
    have HW := hw
    clear hr hx hw
    go_enter Tryz.func142, Tryz.ntmps142
    go_wp2
    go_quiet (fail)
    go_wp2
    go_quiet (fail)
    go_wp2
    go_ret
    exact ⟨_, rfl, and255_lo _, and255_hi _, (((Fr.refl p w).setCell 2 _).drewN _).drewN _, ((HW _).drewN _).drewN _⟩
  · obtain ⟨k, rfl⟩ := Int.eq_ofNat_of_zero_le hi0
    have hlt : (k : Int) < (len : Int) := by omega
    have HW := fun h' => cur_one h' c0 c1 c2 f1 f2 hi0 hr hx
    rcases hr with ⟨rfl, rfl, rfl, rfl⟩ | ⟨x, rfl, hl, hm, hz, hcell, hwz⟩
    · omega
    · obtain ⟨b, off, spot⟩ := x
      have hck := hcell 0 (by omega)
      have hspot : spot = none := by simpa [Addr.add] using World.cell?_spot hck
      subst hspot
      have hc0 : w.cell? ⟨b, off + k, none⟩ = some (.int .u8 (zs.getD k 0)) := by rw [← addr_add]; exact hcell k (by omega)
      have hne : b ≠ p := hx _ rfl (by omega)
      have hne' : ¬ p = b := fun e => hne e.symm
      have hbig : (k : Int) ≤ 9223372036854775806 := by unfold maxLen at hm; omega
      clear hcell hwz hx hck hi hi0 hz
      generalize zs.getD k 0 = z at *
      go_enter Tryz.func142, Tryz.ntmps142
      go_wp2
      go_quiet (fail)
      go_wp2
      go_quiet (fail)
      go_wp2
      go_quiet (fail)
      go_wp2
      go_ret
      exact ⟨_, rfl, and255_lo _, and255_hi _, (((Fr.refl p w).setCell 2 _).drewN _).setCell 1 _, ((HW _).drewN _).step _ (by omega)⟩

set_option maxHeartbeats 1000000 in
theorem below_any (p : Nat) (n : Int) (w : World) (hc : Cur w p) :
    Calls Tryz.prog 95 #[.pointer (some ⟨p, 0, none⟩), .int .i64 n] w fun e w' => ∃ x : Int, e = .returned (.int .i64 x) ∧ 0 ≤ x ∧ (0 < n → x < n) ∧ (n ≤ 0 → x = 0) ∧ Fr p w w' ∧ Cur w' p := by
  by_cases h0 : n ≤ 0
  · go_enter Tryz.func95, Tryz.ntmps95
    go_wp2
    go_ret
    exact ⟨_, rfl, by omega, by omega, by omega, Fr.refl _ _, hc⟩
  · have hpos : 0 < n := by omega
    by_cases h1 : n ≤ 256
    · go_enter Tryz.func95, Tryz.ntmps95
      go_wp2_with fail
      refine (byte_any p _ hc).mono ?_
      rintro e w1 ⟨x, rfl, hx0, hx1, hf1, hc1⟩
      go_wp2
      go_ret
      exact ⟨_, rfl, Int.emod_nonneg _ (by omega), fun _ => Int.emod_lt_of_pos _ hpos, by omega, hf1, hc1⟩
    · go_enter Tryz.func95, Tryz.ntmps95
      go_wp2_with fail
      refine (byte_any p _ hc).mono ?_
      rintro e w1 ⟨x1, rfl, hx0, hx1, hf1, hc1⟩
      go_wp2_with fail
      refine (byte_any p _ hc1).mono ?_
      rintro e w2 ⟨x2, rfl, hx20, hx21, hf2, hc2⟩
      go_wp2_with fail
      refine (byte_any p _ hc2).mono ?_
      rintro e w3 ⟨x3, rfl, hx30, hx31, hf3, hc3⟩
      go_wp2_with fail
      refine (byte_any p _ hc3).mono ?_
      rintro e w4 ⟨x4, rfl, hx40, hx41, hf4, hc4⟩
      go_wp2
      go_ret
      exact ⟨_, rfl, Int.emod_nonneg _ (by omega), fun _ => Int.emod_lt_of_pos _ hpos, by omega, ((hf1.trans hf2).trans hf3).trans hf4, hc4⟩

set_option maxHeartbeats 1000000 in
theorem once_any (p : Nat) (n : Int) (w : World) (hc : Cur w p) :
    Calls Tryz.prog 127 #[.pointer (some ⟨p, 0, none⟩), .int .i64 n] w fun e w' => ∃ b : Bool, e = .returned (.bool b) ∧ Fr p w w' ∧ Cur w' p := by
  go_enter Tryz.func127, Tryz.ntmps127
  go_wp2_with fail
  refine (below_any p n _ hc).mono ?_
  rintro e w1 ⟨x, rfl, hx0, hx1, hx2, hf1, hc1⟩
  go_wp2
  go_ret
  exact ⟨_, rfl, hf1, hc1⟩

set_option maxHeartbeats 1000000 in
theorem new_any (a : Option Addr) (len cap : Nat) (zs : List Int) (w : World) (hr : IsRow .u8 w a len cap zs) :
    Calls Tryz.prog 78 #[.slice a len cap] w fun e w' => e = .returned (.pointer (some ⟨w.heap.size, 0, none⟩)) ∧ Below w.heap.size w w' ∧ Cur w' w.heap.size ∧ w'.heap.size = w.heap.size + 1 := by
  have HR : Hid (IsRow .u8 w a len cap zs) := hr
  have hlen : len ≤ 9223372036854775807 := by
    rcases hr with ⟨_, rfl, _, _⟩ | ⟨x, _, hl, hm, _, _, _⟩
    · omega
    · unfold maxLen at hm; omega
  have hcell : ∀ k, k < len → ∃ b off z, a = some ⟨b, off, none⟩ ∧ w.cell? ⟨b, off + k, none⟩ = some (.int .u8 z) := by
    intro k hk
    rcases hr with ⟨rfl, rfl, rfl, rfl⟩ | ⟨x, rfl, hl, hm, hz, hcell, hwz⟩
    · omega
    · obtain ⟨b, off, spot⟩ := x
      have hck := hcell 0 (by omega)
      have hspot : spot = none := by simpa [Addr.add] using World.cell?_spot hck
      subst hspot
      exact ⟨b, off, zs.getD k 0, rfl, by rw [← addr_add]; exact hcell k (by omega)⟩
  have HC : Hid (∀ k, k < len → ∃ b off z, a = some ⟨b, off, none⟩ ∧ w.cell? ⟨b, off + k, none⟩ = some (.int .u8 z)) := hcell
  clear hr hcell
  go_enter Tryz.func78, Tryz.ntmps78
  go_wp2
  go_loop [3, 4] (fun hv iv => ∃ k : Nat, k ≤ len ∧ iv = .int .i64 k ∧ ∃ z : Int, hv = .int .i64 z) (fun _ iv => len - (intOf iv).toNat)
  case atStart => exact ⟨0, Nat.zero_le _, rfl, _, rfl⟩
  case round =>
    obtain ⟨k, hk, rfl, z, rfl⟩ := hrel
    by_cases hlt : (k : Int) < (len : Int)
    · by_cases h4 : (k : Int) < 4000
      · obtain ⟨b, off, y, rfl, hy⟩ := HC.out k (by omega)
        go_wp2
        go_round
        case rel => exact ⟨k + 1, by omega, by go_num, _, rfl⟩
        case measure => simp [intOf]; omega
      · go_wp2
        go_ret
        exact ⟨rfl, (Below.refl _ _).alloc (Nat.le_refl _) _, cur_made _ _ _ _ _ _ _ HR.out, by simp⟩
    · go_wp2
      go_ret
      exact ⟨rfl, (Below.refl _ _).alloc (Nat.le_refl _) _, cur_made _ _ _ _ _ _ _ HR.out, by simp⟩
end Go.Proofs.YtldcohhifmpedaaGreat

namespace Go.Proofs.YtldcohhifmpedaaGreat
open Go.ChangeShapes Go.WideShapes Go.ChangeAt Go.RowKit
set_option linter.unusedVariables false

/-- The first k of l, then noughts. -/
def partL (l : List Int) (k : Nat) : Nat → Int := fun i => if i < k then l.getD i 0 else 0
theorem partL_next (l : List Int) (k : Nat) : updN (partL l k) k (l.getD k 0) = partL l (k + 1) := by
  funext i
  unfold updN partL
  by_cases h : i = k
  · subst h
    simp
  · by_cases h2 : i < k
    · have : i < k + 1 := by omega
      simp [h, h2, this]
    · have : ¬ i < k + 1 := by omega
      simp [h, h2, this]
theorem partL_all (l : List Int) : listN l.length (partL l l.length) = l := by
  apply List.ext_getElem?
  intro i
  by_cases hi : i < l.length
  · simp [listN, partL, hi, List.getD]
  · rw [List.getElem?_eq_none (by simp [listN]; omega), List.getElem?_eq_none (by omega)]
theorem getD_take {l : List Int} {n i : Nat} (h : i < n) : (l.take n).getD i 0 = l.getD i 0 := by
  rw [List.getD_eq_getElem?_getD, List.getD_eq_getElem?_getD, List.getElem?_take]
  simp [h]

set_option maxHeartbeats 2000000 in
theorem toIntS_any (a : Option Addr) (len cap : Nat) (zs : List Int) (w : World) (h : IsRow .i64 w a len cap zs) (hl : len ≤ 1048576) :
    Calls Tryz.prog 57 #[.slice a len cap] w fun e w' => GivesOwn w (zs.take len) e w' := by
  obtain ⟨L, HL⟩ : ∃ L, Hid (zs.take len = L) := ⟨_, rfl⟩
  have HLN : Hid (L.length = len) := by
    show L.length = len
    rw [← HL.out, List.length_take]
    rcases h with ⟨_, h1, _, h2⟩ | ⟨_, _, h1, _, h2, _⟩
    · rw [h2, h1]; rfl
    · omega
  have HC : Hid (0 < len → ∃ x, a = some x ∧ x.block < w.heap.size ∧ ∀ i, i < len → w.cell? (x.add i) = some (.int .i64 (L.getD i 0))) := fun h0 => by
    rcases h with ⟨_, h1, _⟩ | ⟨x, h1, h2, h3, h4, h5, _⟩
    · omega
    · have h6 : ∀ i, i < len → w.cell? (x.add i) = some (.int .i64 (L.getD i 0)) := fun i hi => by
        rw [← HL.out, getD_take hi]
        exact h5 i (by omega)
      refine ⟨x, h1, ?_, h6⟩
      have := World.block_lt_of_cell? w _ (h6 0 h0)
      rw [add_block] at this
      exact this
  rw [HL.out]
  clear h
  go_enter Tryz.func57, Tryz.ntmps57
  have mk := make_ints len hl w
  go_wp2_with fail
  have O1 : Hid (OwnInts (w.alloc (.cells (madeCells #[.int .i64 0] len) 3)) w.heap.size (.slice (some ⟨w.heap.size, 0, none⟩) len len) (listN len (partL L 0))) := own_made len hl (Nat.le_refl _)
  have B1 : Hid (Below w.heap.size w (w.alloc (.cells (madeCells #[.int .i64 0] len) 3))) := Bel.alloc _ _
  clear mk
  generalize w.alloc (.cells (madeCells #[.int .i64 0] len) 3) = w1 at O1 B1 ⊢
  obtain ⟨G, HG⟩ : ∃ G, Hid (w.heap.size = G) := ⟨_, rfl⟩
  rw [HG.out] at O1 ⊢
  go_loopw [4] (fun i wr => ∃ k : Nat, k ≤ len ∧ i = .int .i64 (k : Int) ∧ OwnInts wr G (.slice (some ⟨G, 0, none⟩) len len) (listN len (partL L k)) ∧ Below w.heap.size w wr) (fun i _ => len - (intOf i).toNat)
  case atStart => exact ⟨0, Nat.zero_le _, rfl, O1.out, B1.out⟩
  case round =>
    obtain ⟨k, hk, rfl, ho, hb⟩ := hrel
    have HO : Hid (OwnInts wr G (.slice (some ⟨G, 0, none⟩) len len) (listN len (partL L k))) := ho
    have HB : Hid (Below w.heap.size w wr) := hb
    by_cases hlt : (k : Int) < (len : Int)
    · have hkl : k < len := by omega
      obtain ⟨x, rfl, hxb, hx⟩ := HC.out (by omega)
      have c1 := Bel.keeps hb (hx k hkl)
      have c2 := ho.cellAt hkl
      have fz := frozen_of_cells ho.heapOf k
      clear ho hb hx
      go_wp2_with fail
      go_roundw
      case rel =>
        refine ⟨k + 1, by omega, by go_num, ?_, HB.out.setCell (p := ⟨G, k, none⟩) (by show w.heap.size ≤ G; rw [HG.out]; exact Nat.le_refl _) _⟩
        have h9 := HO.out.setAt hkl (L.getD k 0)
        rw [listN_set, partL_next] at h9
        exact h9
      case measure => simp [intOf]; omega
    · have hkl : k = len := by omega
      subst hkl
      clear ho hb
      go_wp2_with fail
      go_ret
      refine ⟨_, rfl, ?_, HB.out⟩
      have h9 := HO.out
      have h8 := partL_all L
      rw [HLN.out] at h8
      rw [h8] at h9
      rw [HG.out]
      exact h9

theorem IsRow.after {k : IntKind} {w w' : World} {a : Option Addr} {len cap : Nat} {zs : List Int} (h : IsRow k w a len cap zs) (hb : Below w.heap.size w w') : IsRow k w' a len cap zs := by
  rcases h with h | ⟨x, h1, h2, h3, h4, h5, h6⟩
  · exact .inl h
  · exact .inr ⟨x, h1, h2, h3, h4, fun i hi => Bel.keeps hb (h5 i hi), h6⟩

end Go.Proofs.YtldcohhifmpedaaGreat
