/- What a program tells, as mathematics: values, cells, what is read, what was told, the way, and fuel. The machine as mathematics: which steps there are, what each does, how a machine runs. Steps as text, as mathematics: names, numerals, lines; a line is that of one step at most. Steps as text: what a line is read as. Code as text: what a text is read as. A line read piece by piece: mathematics. Numerals read digit by digit; words of a line; what words say. -/
import Derived.Test.YtjcocpdicogecaaGreatDoorKIns
import Derived.Lib.ItoaLen
import Derived.Lib.AtoiTie
import Derived.Lib.Strings
import Derived.Lib.SplitLaws
namespace Go.Proofs.YtjcocpdicogecaaGreatDoor
set_option linter.unusedVariables false

/-- Where a run is. -/
structure RunS where
  vals : Nat → Int
  cells : Nat → Int
  reads : List Int
  told : List Int
  path : List Int
  fuel : Nat

def updN (f : Nat → Int) (k : Nat) (x : Int) : Nat → Int := fun i => if i = k then x else f i

def RunS.setV (s : RunS) (d x : Int) : RunS := { s with vals := updN s.vals d.toNat x }
def RunS.val (s : RunS) (v : Int) : Int := s.vals v.toNat
/-- Is it the number of a cell? -/
def cellOk (a : Int) : Prop := 0 ≤ a ∧ a ≤ 7
instance (a : Int) : Decidable (cellOk a) := inferInstanceAs (Decidable (0 ≤ a ∧ a ≤ 7))

/-- What a place does: how it ends, and the run behind it. -/
def insDo (W : Int → Int → Int → Int) (x : InsD) (s : RunS) : Int × RunS :=
  if 1 ≤ x.op ∧ x.op ≤ 10 then (0, s.setV x.d (W x.op (s.val x.a) (s.val x.b)))
  else if x.op = 20 then (0, s.setV x.d x.n)
  else if x.op = 21 then (if cellOk (s.val x.a) then (0, s.setV x.d (s.cells (s.val x.a).toNat)) else (2, s))
  else if x.op = 22 then (if cellOk (s.val x.a) then (0, { s with cells := updN s.cells (s.val x.a).toNat (s.val x.b) }) else (2, s))
  else if x.op = 23 then (0, { s with told := s.told ++ [s.val x.a] })
  else if x.op = 24 then (0, { s.setV x.d (s.reads.headD 0) with reads := s.reads.tail })
  else if x.op = 25 then (0, s.setV x.d (s.val x.a))
  else (0, s)

def armsDo (fr : Int) (before : Nat → Int) (d : Int) (l : List ArmD) (v : Nat → Int) : Nat → Int :=
  l.foldl (fun v a => if a.fr = fr then updN v d.toNat (before a.v.toNat) else v) v
def phisDo (fr : Int) (before : Nat → Int) (ps : List PhiD) (v : Nat → Int) : Nat → Int :=
  ps.foldl (fun v p => armsDo fr before p.d p.arms v) v

/-- The places of a list, one behind the other. -/
def placesDo (W : Int → Int → Int → Int) : List InsD → RunS → Int × RunS
  | [], s => (0, s)
  | x :: xs, s => if s.fuel = 0 then (1, s) else
    let r := insDo W x { s with fuel := s.fuel - 1 }
    if r.1 = 0 then placesDo W xs r.2 else r

def enterDo (b : BlockD) (at_ : Nat) (fr : Int) (s : RunS) : RunS := { s with vals := phisDo fr s.vals b.phis s.vals, path := s.path ++ [(at_ : Int)] }

/-- Where one goes. -/
def nextDo (t : TermD) (s : RunS) : Int := if t.k = 2 ∧ s.val t.a = 0 then t.e else t.t

/-- A run from a block on: how, what the end is, and where it is then. -/
def tellN (W : Int → Int → Int → Int) (F : FnD) : Nat → Nat → Int → RunS → Int × Int × RunS
  | 0, _, _, s => (1, 0, s)
  | k + 1, at_, fr, s => match F.blocks[at_]? with
    | none => (1, 0, s)
    | some b =>
      let r := placesDo W b.list (enterDo b at_ fr s)
      if r.1 ≠ 0 then (r.1, 0, r.2)
      else if r.2.fuel = 0 then (1, 0, r.2)
      else if b.term.k = 3 then (0, r.2.val b.term.a, { r.2 with fuel := r.2.fuel - 1 })
      else tellN W F k (nextDo b.term r.2).toNat at_ { r.2 with fuel := r.2.fuel - 1 }

def startDo (reads : List Int) (fuel : Int) : RunS := ⟨fun _ => 0, fun _ => 0, reads, [], [], (min fuel 5000).toNat⟩
def runDo (W : Int → Int → Int → Int) (F : FnD) (reads : List Int) (fuel : Int) : Int × Int × RunS := tellN W F 5001 0 (-1) (startDo reads fuel)

theorem insDo_fuel (W : Int → Int → Int → Int) (x : InsD) (s : RunS) : (insDo W x s).2.fuel = s.fuel := by
  unfold insDo
  repeat' split
  all_goals rfl
theorem placesDo_fuel (W : Int → Int → Int → Int) (xs : List InsD) (s : RunS) : (placesDo W xs s).2.fuel ≤ s.fuel := by
  induction xs generalizing s with
  | nil => exact Nat.le_refl _
  | cons x xs ih =>
    unfold placesDo
    split
    · exact Nat.le_refl _
    · have h := insDo_fuel W x { s with fuel := s.fuel - 1 }
      dsimp only at h ⊢
      split
      · have := ih (insDo W x { s with fuel := s.fuel - 1 }).2
        omega
      · omega
theorem placesDo_cons (W : Int → Int → Int → Int) (x : InsD) (xs : List InsD) (s : RunS) : placesDo W (x :: xs) s = if s.fuel = 0 then (1, s) else (if (insDo W x { s with fuel := s.fuel - 1 }).1 = 0 then placesDo W xs (insDo W x { s with fuel := s.fuel - 1 }).2 else insDo W x { s with fuel := s.fuel - 1 }) := rfl
end Go.Proofs.YtjcocpdicogecaaGreatDoor

namespace Go.Proofs.YtjcocpdicogecaaGreatDoor
set_option linter.unusedVariables false

/-- Does a part of a form hold a number, in a code of n steps? -/
def holdsB (p x n : Int) : Bool :=
  if p = 1 then decide (0 ≤ x) && decide (x < 8) else if p = 2 then decide (0 ≤ x) && decide (x < 40) else if p = 3 then decide (0 ≤ x) && decide (x < n) else if p = 4 then true else decide (x = 0)

structure FormD where
  r : Int
  a : Int
  b : Int
  n : Int

/-- The form of an op, by the table. -/
def formAt (i : Nat) : FormD := match i with
  | 1 => ⟨1, 0, 0, 4⟩
  | 2 => ⟨1, 1, 0, 0⟩
  | 3 => ⟨1, 0, 0, 2⟩
  | 4 => ⟨0, 1, 0, 2⟩
  | 5 => ⟨1, 1, 0, 0⟩
  | 6 => ⟨0, 1, 1, 0⟩
  | 7 => ⟨0, 1, 0, 0⟩
  | 8 => ⟨1, 0, 0, 0⟩
  | 9 => ⟨0, 0, 0, 3⟩
  | 10 => ⟨0, 1, 0, 3⟩
  | 11 => ⟨0, 1, 0, 0⟩
  | _ => ⟨0, 0, 0, 0⟩
def formV (op : Int) : FormD := if 12 ≤ op ∧ op ≤ 21 then ⟨1, 1, 1, 0⟩ else formAt op.toNat
def formOk (op : Int) : Bool := decide (1 ≤ op ∧ op ≤ 21)

/-- Is it a step of a code of n? -/
def stepOkB (x : InsD) (n : Int) : Bool :=
  formOk x.op && (holdsB (formV x.op).r x.d n && (holdsB (formV x.op).a x.a n && (holdsB (formV x.op).b x.b n && holdsB (formV x.op).n x.n n)))

theorem op_kinds (op : Int) : op = 1 ∨ op = 2 ∨ op = 3 ∨ op = 4 ∨ op = 5 ∨ op = 6 ∨ op = 7 ∨ op = 8 ∨ op = 9 ∨ op = 10 ∨ op = 11 ∨ (12 ≤ op ∧ op ≤ 21) ∨ (op < 1 ∨ 21 < op) := by omega
theorem formOk_yes {op : Int} (h : 1 ≤ op) (h2 : op ≤ 21) : formOk op = true := by simp [formOk, h, h2]
theorem formOk_no {op : Int} (h : op < 1 ∨ 21 < op) : formOk op = false := by simp [formOk]; omega
theorem formV_word {op : Int} (h : 12 ≤ op) (h2 : op ≤ 21) : formV op = ⟨1, 1, 1, 0⟩ := by simp [formV, h, h2]
theorem formV_tab {op : Int} (h : op ≤ 11) : formV op = formAt op.toNat := by
  unfold formV
  rw [if_neg (by omega)]
theorem parts01 (op : Int) : ((formV op).r = 0 ∨ (formV op).r = 1) ∧ ((formV op).a = 0 ∨ (formV op).a = 1) ∧ ((formV op).b = 0 ∨ (formV op).b = 1) := by
  by_cases h : 12 ≤ op ∧ op ≤ 21
  · rw [formV_word h.1 h.2]; exact ⟨.inr rfl, .inr rfl, .inr rfl⟩
  · unfold formV
    rw [if_neg h]
    unfold formAt
    split <;> simp
theorem holdsB_reg {p x n : Int} (hp : p = 0 ∨ p = 1) (h : holdsB p x n = true) : 0 ≤ x ∧ x ≤ 7 := by
  rcases hp with rfl | rfl
  · simp [holdsB] at h; omega
  · simp [holdsB] at h; omega
theorem stepOkB_parts {x : InsD} {n : Int} (h : stepOkB x n = true) : (1 ≤ x.op ∧ x.op ≤ 21) ∧ holdsB (formV x.op).r x.d n = true ∧ holdsB (formV x.op).a x.a n = true ∧ holdsB (formV x.op).b x.b n = true ∧ holdsB (formV x.op).n x.n n = true := by
  unfold stepOkB at h
  simp only [Bool.and_eq_true] at h
  obtain ⟨h0, h1, h2, h3, h4⟩ := h
  exact ⟨by simpa [formOk] using h0, h1, h2, h3, h4⟩
/-- Its registers are eight. -/
theorem stepOkB_regs {x : InsD} {n : Int} (h : stepOkB x n = true) : (0 ≤ x.d ∧ x.d ≤ 7) ∧ (0 ≤ x.a ∧ x.a ≤ 7) ∧ (0 ≤ x.b ∧ x.b ≤ 7) := by
  obtain ⟨_, h1, h2, h3, _⟩ := stepOkB_parts h
  obtain ⟨p1, p2, p3⟩ := parts01 x.op
  exact ⟨holdsB_reg p1 h1, holdsB_reg p2 h2, holdsB_reg p3 h3⟩
theorem stepOkB_noreg {x : InsD} {n : Int} (h : ¬ ((0 ≤ x.d ∧ x.d ≤ 7) ∧ (0 ≤ x.a ∧ x.a ≤ 7) ∧ (0 ≤ x.b ∧ x.b ≤ 7))) : stepOkB x n = false := by
  cases e : stepOkB x n with
  | false => rfl
  | true => exact absurd (stepOkB_regs e) h
theorem holdsB_place {x n m : Int} (h : n ≤ m) {p : Int} (hh : holdsB p x n = true) : holdsB p x m = true := by
  unfold holdsB at hh ⊢
  repeat' split
  all_goals simp_all
  all_goals omega
theorem stepOkB_more {x : InsD} {n m : Int} (h : stepOkB x n = true) (hm : n ≤ m) : stepOkB x m = true := by
  obtain ⟨h0, h1, h2, h3, h4⟩ := stepOkB_parts h
  unfold stepOkB
  rw [formOk_yes h0.1 h0.2, holdsB_place hm h1, holdsB_place hm h2, holdsB_place hm h3, holdsB_place hm h4]
  rfl

/-- Is it a code? -/
def machineOkB (l : List InsD) : Bool :=
  decide (1 ≤ l.length) && (decide (l.length ≤ 900) && (l.all (fun x => stepOkB x l.length) && (match l.getLast? with | some x => decide (x.op = 9 ∨ x.op = 11) | none => false)))

/-- The slots that it gets or puts, ascending. -/
def slotUsed (l : List InsD) (k : Int) : Bool := l.any (fun x => (decide (x.op = 3) || decide (x.op = 4)) && decide (x.n = k))
def usesL (l : List InsD) : List Int := ((List.range 40).map (fun (i : Nat) => (i : Int))).filter (fun k => slotUsed l k)
def usesOf (l : List InsD) : List Int := if machineOkB l = true then usesL l else []

/-- Where a machine is. -/
structure MacS where
  regs : Nat → Int
  slots : Nat → Int
  cells : Nat → Int
  reads : List Int
  told : List Int
  pc : Nat

/-- What a step does, but an end: how, and the machine behind it. -/
def macDo (W : Int → Int → Int → Int) (x : InsD) (m : MacS) : Int × MacS :=
  if x.op = 1 then (0, { m with pc := m.pc + 1, regs := updN m.regs x.d.toNat x.n })
  else if x.op = 2 then (0, { m with pc := m.pc + 1, regs := updN m.regs x.d.toNat (m.regs x.a.toNat) })
  else if x.op = 3 then (0, { m with pc := m.pc + 1, regs := updN m.regs x.d.toNat (m.slots x.n.toNat) })
  else if x.op = 4 then (0, { m with pc := m.pc + 1, slots := updN m.slots x.n.toNat (m.regs x.a.toNat) })
  else if x.op = 5 then (if cellOk (m.regs x.a.toNat) then (0, { m with pc := m.pc + 1, regs := updN m.regs x.d.toNat (m.cells (m.regs x.a.toNat).toNat) }) else (2, { m with pc := m.pc + 1 }))
  else if x.op = 6 then (if cellOk (m.regs x.a.toNat) then (0, { m with pc := m.pc + 1, cells := updN m.cells (m.regs x.a.toNat).toNat (m.regs x.b.toNat) }) else (2, { m with pc := m.pc + 1 }))
  else if x.op = 7 then (0, { m with pc := m.pc + 1, told := m.told ++ [m.regs x.a.toNat] })
  else if x.op = 8 then (0, { m with pc := m.pc + 1, regs := updN m.regs x.d.toNat (m.reads.headD 0), reads := m.reads.tail })
  else if x.op = 9 then (0, { m with pc := x.n.toNat })
  else if x.op = 10 then (if m.regs x.a.toNat = 0 then (0, { m with pc := x.n.toNat }) else (0, { m with pc := m.pc + 1 }))
  else (0, { m with pc := m.pc + 1, regs := updN m.regs x.d.toNat (W (x.op - 11) (m.regs x.a.toNat) (m.regs x.b.toNat)) })

/-- A machine runs, with so much fuel: what it tells, how, and what the end is. -/
def macN (W : Int → Int → Int → Int) (l : List InsD) : Nat → MacS → List Int × Int × Int
  | 0, m => (m.told, 1, 0)
  | k + 1, m => match l[m.pc]? with
    | none => (m.told, 1, 0)
    | some x => if x.op = 11 then (m.told, 0, m.regs x.a.toNat)
      else if (macDo W x m).1 = 0 then macN W l k (macDo W x m).2 else ((macDo W x m).2.told, (macDo W x m).1, 0)

def macStart (reads : List Int) : MacS := ⟨fun _ => 0, fun _ => 0, fun _ => 0, reads, [], 0⟩
def macOf (W : Int → Int → Int → Int) (l : List InsD) (reads : List Int) (fuel : Int) : List Int × Int × Int :=
  if machineOkB l = true ∧ 0 ≤ fuel then macN W l (min fuel 40000).toNat (macStart reads) else ([], 3, 0)

theorem macN_step {W : Int → Int → Int → Int} {l : List InsD} {k : Nat} {m : MacS} {x : InsD} (hx : l[m.pc]? = some x) : macN W l (k + 1) m = if x.op = 11 then (m.told, 0, m.regs x.a.toNat)
      else if (macDo W x m).1 = 0 then macN W l k (macDo W x m).2 else ((macDo W x m).2.told, (macDo W x m).1, 0) := by
  conv => lhs; unfold macN
  rw [hx]

theorem machineOkB_parts {l : List InsD} (h : machineOkB l = true) : 1 ≤ l.length ∧ l.length ≤ 900 ∧ (∀ x ∈ l, stepOkB x l.length = true) ∧ ∃ x, l.getLast? = some x ∧ (x.op = 9 ∨ x.op = 11) := by
  unfold machineOkB at h
  simp only [Bool.and_eq_true, decide_eq_true_eq, List.all_eq_true] at h
  obtain ⟨h1, h2, h3, h4⟩ := h
  refine ⟨h1, h2, h3, ?_⟩
  cases e : l.getLast? with
  | none => rw [e] at h4; cases h4
  | some x =>
    rw [e] at h4
    exact ⟨x, rfl, by simpa using h4⟩
theorem macDo_pc (W : Int → Int → Int → Int) (x : InsD) (m : MacS) : (macDo W x m).2.pc = m.pc + 1 ∧ x.op ≠ 9 ∨ (x.op = 9 ∨ x.op = 10) ∧ (macDo W x m).2.pc = x.n.toNat := by
  unfold macDo
  by_cases e1 : x.op = 1
  · rw [if_pos e1]; exact .inl ⟨rfl, by omega⟩
  rw [if_neg e1]
  by_cases e2 : x.op = 2
  · rw [if_pos e2]; exact .inl ⟨rfl, by omega⟩
  rw [if_neg e2]
  by_cases e3 : x.op = 3
  · rw [if_pos e3]; exact .inl ⟨rfl, by omega⟩
  rw [if_neg e3]
  by_cases e4 : x.op = 4
  · rw [if_pos e4]; exact .inl ⟨rfl, by omega⟩
  rw [if_neg e4]
  by_cases e5 : x.op = 5
  · rw [if_pos e5]
    by_cases c : cellOk (m.regs x.a.toNat)
    · rw [if_pos c]; exact .inl ⟨rfl, by omega⟩
    · rw [if_neg c]; exact .inl ⟨rfl, by omega⟩
  rw [if_neg e5]
  by_cases e6 : x.op = 6
  · rw [if_pos e6]
    by_cases c : cellOk (m.regs x.a.toNat)
    · rw [if_pos c]; exact .inl ⟨rfl, by omega⟩
    · rw [if_neg c]; exact .inl ⟨rfl, by omega⟩
  rw [if_neg e6]
  by_cases e7 : x.op = 7
  · rw [if_pos e7]; exact .inl ⟨rfl, by omega⟩
  rw [if_neg e7]
  by_cases e8 : x.op = 8
  · rw [if_pos e8]; exact .inl ⟨rfl, by omega⟩
  rw [if_neg e8]
  by_cases e9 : x.op = 9
  · rw [if_pos e9]; exact .inr ⟨.inl e9, rfl⟩
  rw [if_neg e9]
  by_cases e10 : x.op = 10
  · rw [if_pos e10]
    by_cases c : m.regs x.a.toNat = 0
    · rw [if_pos c]; exact .inr ⟨.inr e10, rfl⟩
    · rw [if_neg c]; exact .inl ⟨rfl, by omega⟩
  rw [if_neg e10]
  exact .inl ⟨rfl, e9⟩
/-- It never leaves its code. -/
theorem macDo_stays {W : Int → Int → Int → Int} {l : List InsD} {m : MacS} {x : InsD} (h : machineOkB l = true) (hx : l[m.pc]? = some x) (h11 : x.op ≠ 11) : (macDo W x m).2.pc < l.length := by
  obtain ⟨h1, h2, h3, y, hy, hy2⟩ := machineOkB_parts h
  have hlt : m.pc < l.length := (List.getElem?_eq_some_iff.1 hx).1
  have hok := h3 x (List.mem_of_getElem? hx)
  obtain ⟨_, _, _, _, h4⟩ := stepOkB_parts hok
  have hn9 : x.op = 9 ∨ x.op = 10 → x.n.toNat < l.length := by
    intro e
    have : holdsB 3 x.n l.length = true := by
      rcases e with e | e
      · rw [e] at h4; exact h4
      · rw [e] at h4; exact h4
    simp [holdsB] at this
    omega
  have hnext : x.op ≠ 9 → m.pc + 1 < l.length := by
    intro e
    by_cases e2 : m.pc + 1 < l.length
    · exact e2
    · have e3 : m.pc = l.length - 1 := by omega
      rw [List.getLast?_eq_getElem?] at hy
      rw [e3, hy] at hx
      cases hx
      rcases hy2 with q | q
      · exact absurd q e
      · exact absurd q h11
  rcases macDo_pc W x m with ⟨e, e9⟩ | ⟨e9, e⟩
  · rw [e]; exact hnext e9
  · rw [e]; exact hn9 e9
end Go.Proofs.YtjcocpdicogecaaGreatDoor

namespace Go.Proofs.YtjcocpdicogecaaGreatDoor
open Go.Lib
set_option linter.unusedVariables false

/-- The name of an op; empty of all others. -/
def opNm : Nat → List UInt8
  | 1 => [115, 101, 116]
  | 2 => [109, 111, 118, 101]
  | 3 => [103, 101, 116]
  | 4 => [112, 117, 116]
  | 5 => [108, 111, 97, 100]
  | 6 => [115, 116, 111, 114, 101]
  | 7 => [111, 117, 116]
  | 8 => [114, 101, 97, 100]
  | 9 => [106, 117, 109, 112]
  | 10 => [122, 101, 114, 111]
  | 11 => [101, 110, 100]
  | 12 => [97, 100, 100]
  | 13 => [115, 117, 98]
  | 14 => [109, 117, 108]
  | 15 => [97, 110, 100]
  | 16 => [111, 114]
  | 17 => [120, 111, 114]
  | 18 => [108, 101, 115, 115]
  | 19 => [115, 97, 109, 101]
  | 20 => [108, 101, 102, 116]
  | 21 => [114, 105, 103, 104, 116]
  | _ => []
def letL (p : Int) : List UInt8 := if p = 1 then [114] else if p = 2 then [115] else []
def piece (p x : Int) : List UInt8 := letL p ++ itoa x
/-- The numbers of a step that its op names, in the order in which they are written, each with what it stands for. -/
def fieldsX (x : InsD) : List (Int × Int) :=
  (if x.op = 4 then [((formV x.op).n, x.n), ((formV x.op).a, x.a)] else [((formV x.op).r, x.d), ((formV x.op).a, x.a), ((formV x.op).b, x.b), ((formV x.op).n, x.n)]).filter (fun q => decide (q.1 ≠ 0))
def tailX (fs : List (Int × Int)) : List UInt8 := fs.flatMap (fun q => 32 :: piece q.1 q.2)
def lineX (x : InsD) : List UInt8 := opNm x.op.toNat ++ tailX (fieldsX x)
def textX (x : InsD) : List UInt8 := if stepOkB x 900 = true then lineX x else []
def printL (l : List InsD) : List UInt8 := if machineOkB l = true then l.flatMap (fun x => textX x ++ [10]) else []

/-! ### Numerals -/

theorem dig_toNat {d : Nat} (h : d < 10) : (UInt8.ofNat (48 + d)).toNat = 48 + d := by
  rw [UInt8.toNat_ofNat']
  omega
theorem decDigits_all (u : Nat) : ∀ c ∈ decDigits u, 48 ≤ c.toNat ∧ c.toNat ≤ 57 := by
  induction u using Nat.strongRecOn with
  | _ u ih =>
    intro c hc
    by_cases h : u < 10
    · rw [decDigits_one h, List.mem_singleton] at hc
      subst hc
      rw [dig_toNat h]
      omega
    · rw [decDigits, dif_neg h, List.mem_append, List.mem_singleton] at hc
      rcases hc with hc | rfl
      · exact ih _ (by omega) c hc
      · rw [dig_toNat (by omega)]; omega
theorem decDigits_ne (u : Nat) : decDigits u ≠ [] := by
  intro h
  have h1 := decDigits_length u
  have h2 := nDigits_pos u
  rw [h] at h1
  simp at h1
  omega
theorem parse_snoc (l : List UInt8) (c : UInt8) : ∀ acc, parseUint10 acc (l ++ [c]) = match parseUint10 acc l with
    | .ok v => parseUint10 v [c]
    | .syntax => .syntax
    | .range => .range := by
  induction l with
  | nil => intro acc; rfl
  | cons b r ih =>
    intro acc
    simp only [List.cons_append, parseUint10]
    by_cases h1 : 48 ≤ b.toNat ∧ b.toNat ≤ 57
    · rw [if_pos h1, if_pos h1]
      by_cases h2 : 1844674407370955162 ≤ acc
      · rw [if_pos h2, if_pos h2]
      · rw [if_neg h2, if_neg h2]
        by_cases h3 : 18446744073709551616 ≤ acc * 10 + (b.toNat - 48)
        · rw [if_pos h3, if_pos h3]
        · rw [if_neg h3, if_neg h3]
          exact ih _
    · rw [if_neg h1, if_neg h1]
theorem parse_digits (u : Nat) (hu : u < 18446744073709551616) : parseUint10 0 (decDigits u) = .ok u := by
  induction u using Nat.strongRecOn with
  | _ u ih =>
    by_cases h : u < 10
    · rw [decDigits_one h]
      simp only [parseUint10]
      rw [dig_toNat h, if_pos (by omega), if_neg (by omega), if_neg (by omega)]
      congr 1
      omega
    · rw [decDigits, dif_neg h, parse_snoc, ih (u / 10) (by omega) (by omega)]
      simp only [parseUint10]
      rw [dig_toNat (by omega), if_pos (by omega), if_neg (by omega), if_neg (by omega)]
      congr 1
      omega
theorem mag_digits (u : Nat) (hu : u < 18446744073709551616) : parseMag (decDigits u) = .ok u := by
  unfold parseMag
  rw [if_neg (decDigits_ne u)]
  exact parse_digits u hu
/-- A numeral is read as it was. -/
theorem atoi_itoa (n : Int) (h0 : -9223372036854775808 ≤ n) (h1 : n ≤ 9223372036854775807) : atoiAll (itoa n) = .ok n := by
  unfold itoa
  by_cases h : n < 0
  · rw [if_pos h, atoiAll_minus, mag_digits _ (by omega)]
    simp only [signed]
    rw [if_neg (by omega)]
    congr 1
    omega
  · rw [if_neg h]
    cases e : decDigits n.toNat with
    | nil => exact absurd e (decDigits_ne _)
    | cons c r =>
      have hc := decDigits_all n.toNat c (by rw [e]; exact List.mem_cons_self)
      rw [atoiAll_plain c r (by omega) (by omega), ← e, mag_digits _ (by omega)]
      simp only [signless]
      rw [if_neg (by omega)]
      congr 1
      omega
theorem itoa_inj {m n : Int} (hm : -9223372036854775808 ≤ m ∧ m ≤ 9223372036854775807) (hn : -9223372036854775808 ≤ n ∧ n ≤ 9223372036854775807) (h : itoa m = itoa n) : m = n := by
  have h1 := atoi_itoa m hm.1 hm.2
  rw [h, atoi_itoa n hn.1 hn.2] at h1
  cases h1
  rfl
theorem itoa_bytes (n : Int) : ∀ c ∈ itoa n, c.toNat = 45 ∨ (48 ≤ c.toNat ∧ c.toNat ≤ 57) := by
  intro c hc
  unfold itoa at hc
  by_cases h : n < 0
  · rw [if_pos h, List.mem_cons] at hc
    rcases hc with rfl | hc
    · exact .inl rfl
    · exact .inr (decDigits_all _ c hc)
  · rw [if_neg h] at hc
    exact .inr (decDigits_all _ c hc)

/-! ### Pieces -/

theorem letL_bytes (p : Int) : ∀ c ∈ letL p, c = 114 ∨ c = 115 := by
  intro c hc
  unfold letL at hc
  split at hc
  · exact .inl (by simpa using hc)
  · split at hc
    · exact .inr (by simpa using hc)
    · cases hc
theorem piece_no (p x : Int) : ∀ c ∈ piece p x, c ≠ 32 ∧ c ≠ 10 := by
  intro c hc
  unfold piece at hc
  rw [List.mem_append] at hc
  rcases hc with hc | hc
  · rcases letL_bytes p c hc with rfl | rfl <;> decide
  · have h := itoa_bytes x c hc
    refine ⟨fun e => ?_, fun e => ?_⟩
    · subst e; revert h; decide
    · subst e; revert h; decide
theorem opNm_no (k : Nat) : ∀ c ∈ opNm k, c ≠ 32 ∧ c ≠ 10 := by
  intro c hc
  unfold opNm at hc
  split at hc <;> simp only [List.mem_cons, List.not_mem_nil, or_false] at hc
  all_goals first | (rcases hc with rfl | rfl | rfl | rfl | rfl <;> decide) | (rcases hc with rfl | rfl | rfl | rfl <;> decide) | (rcases hc with rfl | rfl | rfl <;> decide) | (rcases hc with rfl | rfl <;> decide) | exact absurd hc (by simp)
theorem line_no10 (x : InsD) : ∀ c ∈ lineX x, c ≠ 10 := by
  intro c hc
  unfold lineX tailX at hc
  rw [List.mem_append, List.mem_flatMap] at hc
  rcases hc with hc | ⟨q, _, hc⟩
  · exact (opNm_no _ c hc).2
  · rw [List.mem_cons] at hc
    rcases hc with rfl | hc
    · decide
    · exact (piece_no _ _ c hc).2

/-- A text taken apart at a byte. -/
def spl (s : UInt8) : List UInt8 → List (List UInt8)
  | [] => [[]]
  | b :: r => if b = s then [] :: spl s r else (match spl s r with
    | p :: ps => (b :: p) :: ps
    | [] => [[b]])
theorem spl_ne (s : UInt8) (l : List UInt8) : spl s l ≠ [] := by
  cases l with
  | nil => simp [spl]
  | cons b r =>
    unfold spl
    split
    · simp
    · split <;> simp
theorem spl_plain {s : UInt8} : ∀ {l : List UInt8}, (∀ c ∈ l, c ≠ s) → spl s l = [l]
  | [], _ => rfl
  | b :: r, h => by
    have h1 : b ≠ s := h b List.mem_cons_self
    rw [spl, if_neg h1, spl_plain (fun c hc => h c (List.mem_cons_of_mem _ hc))]
theorem spl_cut {s : UInt8} : ∀ {l : List UInt8} (m : List UInt8), (∀ c ∈ l, c ≠ s) → spl s (l ++ s :: m) = l :: spl s m
  | [], m, _ => by rw [List.nil_append, spl, if_pos rfl]
  | b :: r, m, h => by
    have h1 : b ≠ s := h b List.mem_cons_self
    rw [List.cons_append, spl, if_neg h1, spl_cut m (fun c hc => h c (List.mem_cons_of_mem _ hc))]
theorem spl_tail (fs : List (Int × Int)) : ∀ (l : List UInt8), (∀ c ∈ l, c ≠ 32) → spl 32 (l ++ tailX fs) = l :: fs.map (fun q => piece q.1 q.2) := by
  induction fs with
  | nil =>
    intro l h
    simp only [tailX, List.flatMap_nil, List.append_nil, List.map_nil]
    exact spl_plain h
  | cons q fs ih =>
    intro l h
    have e : tailX (q :: fs) = 32 :: (piece q.1 q.2 ++ tailX fs) := by simp [tailX]
    rw [e, spl_cut _ h, ih _ (fun c hc => (piece_no _ _ c hc).1)]
    rfl
theorem spl_line (x : InsD) : spl 32 (lineX x) = opNm x.op.toNat :: (fieldsX x).map (fun q => piece q.1 q.2) := by
  unfold lineX
  exact spl_tail _ _ (fun c hc => (opNm_no _ c hc).1)

/-! ### Lines are those of one step at most -/

def opOfL (b : List UInt8) : Nat := (((List.range 22).find? (fun k => decide (1 ≤ k) && decide (opNm k = b))).getD 0)
theorem opOfL_nm : ∀ k, 1 ≤ k → k ≤ 21 → opOfL (opNm k) = k := by
  intro k h1 h2
  have h : ∀ j, j < 22 → 1 ≤ j → opOfL (opNm j) = j := by decide +kernel
  exact h k (by omega) h1
theorem opNm_ne : ∀ k, 1 ≤ k → k ≤ 21 → opNm k ≠ [] := by
  intro k h1 h2
  have h : ∀ j, j < 22 → 1 ≤ j → opNm j ≠ [] := by decide +kernel
  exact h k (by omega) h1
theorem piece_inj {p m n : Int} (hm : -9223372036854775808 ≤ m ∧ m ≤ 9223372036854775807) (hn : -9223372036854775808 ≤ n ∧ n ≤ 9223372036854775807) (h : piece p m = piece p n) : m = n :=
  itoa_inj hm hn (List.append_cancel_left h)
end Go.Proofs.YtjcocpdicogecaaGreatDoor

namespace Go.Proofs.YtjcocpdicogecaaGreatDoor
open Go.Lib
set_option linter.unusedVariables false

def InR (x : InsD) : Prop := -9223372036854775808 ≤ x.n ∧ x.n ≤ 9223372036854775807
/-- A line that is one of a step. -/
def IsLine (b : List UInt8) (x : InsD) : Prop := stepOkB x 900 = true ∧ InR x ∧ lineX x = b

def getF (x : InsD) (k : Nat) : Int := if k = 1 then x.d else if k = 2 then x.a else if k = 3 then x.b else x.n
def setF (x : InsD) (k : Nat) (v : Int) : InsD := if k = 1 then { x with d := v } else if k = 2 then { x with a := v } else if k = 3 then { x with b := v } else { x with n := v }
/-- What an op names: what it stands for, and which of the numbers. -/
def kindsX (op : Int) : List (Int × Nat) :=
  (if op = 4 then [((formV op).n, 4), ((formV op).a, 2)] else [((formV op).r, 1), ((formV op).a, 2), ((formV op).b, 3), ((formV op).n, 4)]).filter (fun q => decide (q.1 ≠ 0))
theorem fieldsX_kinds (x : InsD) : fieldsX x = (kindsX x.op).map (fun q => (q.1, getF x q.2)) := by
  unfold fieldsX kindsX
  by_cases h : x.op = 4
  · rw [if_pos h, if_pos h]
    have e : formV x.op = ⟨0, 1, 0, 2⟩ := by rw [h]; rfl
    rw [e]
    rfl
  · rw [if_neg h, if_neg h]
    generalize formV x.op = f
    obtain ⟨f0, f1, f2, f3⟩ := f
    simp only [List.filter_cons, List.filter_nil]
    by_cases h0 : f0 = 0 <;> by_cases h1 : f1 = 0 <;> by_cases h2 : f2 = 0 <;> by_cases h3 : f3 = 0 <;> simp [h0, h1, h2, h3, getF]
theorem kinds_len (op : Int) : (kindsX op).length ≤ 4 := by
  unfold kindsX
  split
  · exact Nat.le_trans (List.length_filter_le _ _) (by simp)
  · exact Nat.le_trans (List.length_filter_le _ _) (by simp)

/-- The numbers put where an op names them. -/
def putF (x : InsD) : List (Int × Nat) → List Int → InsD
  | q :: ks, v :: vs => putF (setF x q.2 v) ks vs
  | _, _ => x
theorem kinds_of (op : Int) : op = 1 ∧ kindsX op = [(1, 1), (4, 4)] ∨ op = 2 ∧ kindsX op = [(1, 1), (1, 2)] ∨ op = 3 ∧ kindsX op = [(1, 1), (2, 4)] ∨ op = 4 ∧ kindsX op = [(2, 4), (1, 2)] ∨ op = 5 ∧ kindsX op = [(1, 1), (1, 2)] ∨ op = 6 ∧ kindsX op = [(1, 2), (1, 3)] ∨ op = 7 ∧ kindsX op = [(1, 2)] ∨ op = 8 ∧ kindsX op = [(1, 1)] ∨ op = 9 ∧ kindsX op = [(3, 4)] ∨ op = 10 ∧ kindsX op = [(1, 2), (3, 4)] ∨ op = 11 ∧ kindsX op = [(1, 2)] ∨ (12 ≤ op ∧ op ≤ 21) ∧ kindsX op = [(1, 1), (1, 2), (1, 3)] ∨ (op < 1 ∨ 21 < op) ∧ kindsX op = [] := by
  rcases op_kinds op with rfl | rfl | rfl | rfl | rfl | rfl | rfl | rfl | rfl | rfl | rfl | ⟨h1, h2⟩ | h
  · exact .inl ⟨rfl, rfl⟩
  · exact .inr (.inl ⟨rfl, rfl⟩)
  · exact .inr (.inr (.inl ⟨rfl, rfl⟩))
  · exact .inr (.inr (.inr (.inl ⟨rfl, rfl⟩)))
  · exact .inr (.inr (.inr (.inr (.inl ⟨rfl, rfl⟩))))
  · exact .inr (.inr (.inr (.inr (.inr (.inl ⟨rfl, rfl⟩)))))
  · exact .inr (.inr (.inr (.inr (.inr (.inr (.inl ⟨rfl, rfl⟩))))))
  · exact .inr (.inr (.inr (.inr (.inr (.inr (.inr (.inl ⟨rfl, rfl⟩)))))))
  · exact .inr (.inr (.inr (.inr (.inr (.inr (.inr (.inr (.inl ⟨rfl, rfl⟩))))))))
  · exact .inr (.inr (.inr (.inr (.inr (.inr (.inr (.inr (.inr (.inl ⟨rfl, rfl⟩)))))))))
  · exact .inr (.inr (.inr (.inr (.inr (.inr (.inr (.inr (.inr (.inr (.inl ⟨rfl, rfl⟩))))))))))
  · refine .inr (.inr (.inr (.inr (.inr (.inr (.inr (.inr (.inr (.inr (.inr (.inl ⟨⟨h1, h2⟩, ?_⟩)))))))))))
    unfold kindsX
    rw [formV_word h1 h2, if_neg (by omega)]
    rfl
  · refine .inr (.inr (.inr (.inr (.inr (.inr (.inr (.inr (.inr (.inr (.inr (.inr ⟨h, ?_⟩)))))))))))
    unfold kindsX
    rw [if_neg (by omega)]
    unfold formV
    rw [if_neg (by omega)]
    unfold formAt
    split <;> first | rfl | omega
theorem formV_kinds (op : Int) : op = 1 ∧ formV op = ⟨1, 0, 0, 4⟩ ∨ op = 2 ∧ formV op = ⟨1, 1, 0, 0⟩ ∨ op = 3 ∧ formV op = ⟨1, 0, 0, 2⟩ ∨ op = 4 ∧ formV op = ⟨0, 1, 0, 2⟩ ∨ op = 5 ∧ formV op = ⟨1, 1, 0, 0⟩ ∨ op = 6 ∧ formV op = ⟨0, 1, 1, 0⟩ ∨ op = 7 ∧ formV op = ⟨0, 1, 0, 0⟩ ∨ op = 8 ∧ formV op = ⟨1, 0, 0, 0⟩ ∨ op = 9 ∧ formV op = ⟨0, 0, 0, 3⟩ ∨ op = 10 ∧ formV op = ⟨0, 1, 0, 3⟩ ∨ op = 11 ∧ formV op = ⟨0, 1, 0, 0⟩ ∨ (12 ≤ op ∧ op ≤ 21) ∧ formV op = ⟨1, 1, 1, 0⟩ ∨ (op < 1 ∨ 21 < op) := by
  rcases op_kinds op with rfl | rfl | rfl | rfl | rfl | rfl | rfl | rfl | rfl | rfl | rfl | ⟨h1, h2⟩ | h
  · exact .inl ⟨rfl, rfl⟩
  · exact .inr (.inl ⟨rfl, rfl⟩)
  · exact .inr (.inr (.inl ⟨rfl, rfl⟩))
  · exact .inr (.inr (.inr (.inl ⟨rfl, rfl⟩)))
  · exact .inr (.inr (.inr (.inr (.inl ⟨rfl, rfl⟩))))
  · exact .inr (.inr (.inr (.inr (.inr (.inl ⟨rfl, rfl⟩)))))
  · exact .inr (.inr (.inr (.inr (.inr (.inr (.inl ⟨rfl, rfl⟩))))))
  · exact .inr (.inr (.inr (.inr (.inr (.inr (.inr (.inl ⟨rfl, rfl⟩)))))))
  · exact .inr (.inr (.inr (.inr (.inr (.inr (.inr (.inr (.inl ⟨rfl, rfl⟩))))))))
  · exact .inr (.inr (.inr (.inr (.inr (.inr (.inr (.inr (.inr (.inl ⟨rfl, rfl⟩)))))))))
  · exact .inr (.inr (.inr (.inr (.inr (.inr (.inr (.inr (.inr (.inr (.inl ⟨rfl, rfl⟩))))))))))
  · exact .inr (.inr (.inr (.inr (.inr (.inr (.inr (.inr (.inr (.inr (.inr (.inl ⟨⟨h1, h2⟩, formV_word h1 h2⟩)))))))))))
  · exact .inr (.inr (.inr (.inr (.inr (.inr (.inr (.inr (.inr (.inr (.inr (.inr h)))))))))))
theorem holds0 {x n : Int} (h : holdsB 0 x n = true) : x = 0 := by simpa [holdsB] using h
/-- A step is what its op names, and else zero. -/
theorem putF_is {x : InsD} {n : Int} (h : stepOkB x n = true) : putF ⟨x.op, 0, 0, 0, 0⟩ (kindsX x.op) ((kindsX x.op).map (fun q => getF x q.2)) = x := by
  obtain ⟨h0, hr, ha, hb, hn⟩ := stepOkB_parts h
  obtain ⟨op, d, a, b, m⟩ := x
  dsimp only at h0 hr ha hb hn ⊢
  rcases kinds_of op with ⟨e, k⟩ | ⟨e, k⟩ | ⟨e, k⟩ | ⟨e, k⟩ | ⟨e, k⟩ | ⟨e, k⟩ | ⟨e, k⟩ | ⟨e, k⟩ | ⟨e, k⟩ | ⟨e, k⟩ | ⟨e, k⟩ | ⟨e, k⟩ | ⟨e, k⟩
  all_goals first | (exfalso; omega) | skip
  all_goals rw [k]
  all_goals first | subst e | rw [formV_word e.1 e.2] at hr ha hb hn
  all_goals (try have e0 := holds0 hr); (try have e1 := holds0 ha); (try have e2 := holds0 hb); (try have e3 := holds0 hn)
  all_goals simp only [List.map_cons, List.map_nil, putF, setF, getF]
  all_goals simp_all
/-- The numbers of a step have 64 bits. -/
theorem getF_in {x : InsD} (h : stepOkB x 900 = true) (hr : InR x) (k : Nat) : -9223372036854775808 ≤ getF x k ∧ getF x k ≤ 9223372036854775807 := by
  obtain ⟨h1, h2, h3⟩ := stepOkB_regs h
  unfold getF InR at *
  split
  · omega
  · split
    · omega
    · split
      · omega
      · exact hr

theorem trim_piece (p x : Int) : trimPrefix (piece p x) (letL p) = itoa x := by
  unfold piece trimPrefix hasPrefix
  rw [if_pos (by simp)]
  simp
theorem IsLine.op {b : List UInt8} {x : InsD} (h : IsLine b x) : opOfL ((spl 32 b).headD []) = x.op.toNat ∧ 1 ≤ x.op ∧ x.op ≤ 21 := by
  obtain ⟨h1, h2, rfl⟩ := h
  obtain ⟨h0, _⟩ := stepOkB_parts h1
  rw [spl_line]
  exact ⟨opOfL_nm _ (by omega) (by omega), h0⟩
theorem IsLine.pieces {b : List UInt8} {x : InsD} (h : IsLine b x) : (spl 32 b).tail = (kindsX x.op).map (fun q => piece q.1 (getF x q.2)) := by
  obtain ⟨h1, h2, rfl⟩ := h
  rw [spl_line, fieldsX_kinds]
  simp
theorem IsLine.num {b : List UInt8} {x : InsD} (h : IsLine b x) {j : Nat} {q : Int × Nat} (hq : (kindsX x.op)[j]? = some q) : ∃ p, (spl 32 b)[j + 1]? = some p ∧ atoiAll (trimPrefix p (letL q.1)) = .ok (getF x q.2) := by
  refine ⟨piece q.1 (getF x q.2), ?_, ?_⟩
  · have h9 := h.pieces
    rw [← List.getElem?_tail, h9, List.getElem?_map, hq]
    rfl
  · rw [trim_piece]
    have h9 := getF_in h.1 h.2.1 q.2
    exact atoi_itoa _ h9.1 h9.2
/-- A line is one of one step. -/
theorem IsLine.uniq {b : List UInt8} {x y : InsD} (hx : IsLine b x) (hy : IsLine b y) : x = y := by
  have e1 : x.op = y.op := by
    have a := hx.op
    have c := hy.op
    rw [a.1] at c
    omega
  have e2 : (kindsX x.op).map (fun q => getF x q.2) = (kindsX x.op).map (fun q => getF y q.2) := by
    apply List.map_congr_left
    intro q hq
    obtain ⟨j, hj⟩ := List.getElem?_of_mem hq
    obtain ⟨p, h1, h2⟩ := hx.num hj
    rw [e1] at hj
    obtain ⟨p', h3, h4⟩ := hy.num hj
    rw [h1] at h3
    cases h3
    rw [h2] at h4
    simp only [NumEnd.ok.injEq] at h4
    exact h4
  have h1 := putF_is hx.1
  have h2 := putF_is hy.1
  rw [← e1, ← e2] at h2
  rw [← h1, ← h2]
theorem textX_line {x : InsD} (h : stepOkB x 900 = true) : textX x = lineX x := if_pos h
theorem textX_no {x : InsD} (h : stepOkB x 900 = false) : textX x = [] := if_neg (by rw [h]; simp)
theorem lineX_ne {x : InsD} (h : stepOkB x 900 = true) : lineX x ≠ [] := by
  obtain ⟨h0, _⟩ := stepOkB_parts h
  unfold lineX
  intro e
  exact opNm_ne x.op.toNat (by omega) (by omega) (List.append_eq_nil_iff.1 e).1
theorem isLine_text {b : List UInt8} {x : InsD} (hr : InR x) (hb : b ≠ []) : IsLine b x ↔ textX x = b := by
  constructor
  · rintro ⟨h1, _, h2⟩
    rw [textX_line h1]
    exact h2
  · intro h
    cases e : stepOkB x 900 with
    | true => exact ⟨e, hr, by rw [← h, textX_line e]⟩
    | false => rw [textX_no e] at h; exact absurd h.symm hb
theorem IsLine.ne {b : List UInt8} {x : InsD} (h : IsLine b x) : b ≠ [] := by
  rw [← h.2.2]
  exact lineX_ne h.1
end Go.Proofs.YtjcocpdicogecaaGreatDoor

namespace Go.Proofs.YtjcocpdicogecaaGreatDoor
open Go.Lib
set_option linter.unusedVariables false

def joinX (l : List InsD) : List UInt8 := l.flatMap (fun x => lineX x ++ [10])
def StepsIn (l : List InsD) : Prop := ∀ x ∈ l, stepOkB x 900 = true ∧ InR x
def ReadAs (t : List UInt8) (l : List InsD) : Prop := joinX l = t ∧ StepsIn l
theorem joinX_cons (x : InsD) (l : List InsD) : joinX (x :: l) = lineX x ++ 10 :: joinX l := by simp [joinX]
theorem joinX_snoc (x : InsD) (l : List InsD) : joinX (l ++ [x]) = joinX l ++ (lineX x ++ [10]) := by simp [joinX]
theorem joinX_app (l m : List InsD) : joinX (l ++ m) = joinX l ++ joinX m := by simp [joinX]
theorem tx_cut10 : ∀ {a b c d : List UInt8}, (∀ x ∈ a, x ≠ 10) → (∀ x ∈ b, x ≠ 10) → a ++ 10 :: c = b ++ 10 :: d → a = b ∧ c = d
  | [], [], c, d, _, _, h => by simp at h; exact ⟨rfl, h⟩
  | [], y :: b, c, d, _, h2, h => by simp at h; exact absurd h.1.symm (h2 y List.mem_cons_self)
  | x :: a, [], c, d, h1, _, h => by simp at h; exact absurd h.1 (h1 x List.mem_cons_self)
  | x :: a, y :: b, c, d, h1, h2, h => by
    simp only [List.cons_append, List.cons.injEq] at h
    obtain ⟨e1, e2⟩ := tx_cut10 (fun z hz => h1 z (List.mem_cons_of_mem _ hz)) (fun z hz => h2 z (List.mem_cons_of_mem _ hz)) h.2
    exact ⟨by rw [h.1, e1], e2⟩
theorem tx_head {t : List UInt8} {b r : List UInt8} {l : List InsD} (h : ReadAs (b ++ 10 :: r) l) (hb : ∀ c ∈ b, c ≠ 10) : ∃ x l', l = x :: l' ∧ IsLine b x ∧ ReadAs r l' := by
  obtain ⟨h1, h2⟩ := h
  cases l with
  | nil => simp [joinX] at h1
  | cons x l' =>
    rw [joinX_cons] at h1
    obtain ⟨e1, e2⟩ := tx_cut10 (line_no10 x) hb h1
    have h3 := h2 x List.mem_cons_self
    exact ⟨x, l', rfl, ⟨h3.1, h3.2, e1⟩, e2, fun z hz => h2 z (List.mem_cons_of_mem _ hz)⟩
theorem tx_over (l0 : List InsD) : ∀ {t : List UInt8} {l : List InsD}, ReadAs (joinX l0 ++ t) l → StepsIn l0 → ∃ l', l = l0 ++ l' ∧ ReadAs t l' := by
  induction l0 with
  | nil => intro t l h _; exact ⟨l, rfl, h⟩
  | cons y l0 ih =>
    intro t l h hs
    rw [joinX_cons, List.append_assoc, List.cons_append] at h
    obtain ⟨x, l1, rfl, hx, h1⟩ := tx_head (t := t) h (line_no10 y)
    have hy := hs y List.mem_cons_self
    have e : x = y := hx.uniq ⟨hy.1, hy.2, rfl⟩
    subst e
    obtain ⟨l2, rfl, h2⟩ := ih h1 (fun z hz => hs z (List.mem_cons_of_mem _ hz))
    exact ⟨l2, rfl, h2⟩
/-- A line that is none of a step: the text is read as nothing. -/
theorem tx_step {l0 : List InsD} {b r : List UInt8} {l : List InsD} (h : ReadAs (joinX l0 ++ (b ++ 10 :: r)) l) (hb : ∀ c ∈ b, c ≠ 10) (hs : StepsIn l0) : ∃ x, IsLine b x := by
  obtain ⟨l1, rfl, h1⟩ := tx_over l0 h hs
  obtain ⟨x, _, _, hx, _⟩ := tx_head (t := b) h1 hb
  exact ⟨x, hx⟩
theorem tx_rest {l0 : List InsD} {b : List UInt8} {l : List InsD} (h : ReadAs (joinX l0 ++ b) l) (hb : ∀ c ∈ b, c ≠ 10) (hs : StepsIn l0) : b = [] := by
  obtain ⟨l1, rfl, h1, _⟩ := tx_over l0 h hs
  cases l1 with
  | nil => rw [← h1]; rfl
  | cons x l2 =>
    rw [joinX_cons] at h1
    exact absurd rfl (hb 10 (by rw [← h1]; simp))
theorem tx_all {l0 l : List InsD} (h : ReadAs (joinX l0) l) (hs : StepsIn l0) : l = l0 := by
  obtain ⟨l1, rfl, h1, _⟩ := tx_over (t := []) l0 (by rw [List.append_nil]; exact h) hs
  cases l1 with
  | nil => simp
  | cons x l2 => rw [joinX_cons] at h1; simp at h1
noncomputable def parseB (t : List UInt8) : Bool := @decide (∃ l, ReadAs t l ∧ machineOkB l = true) (Classical.propDecidable _)
noncomputable def parseOf (t : List UInt8) : List InsD := @dite _ (∃ l, ReadAs t l ∧ machineOkB l = true) (Classical.propDecidable _) (fun h => h.choose) (fun _ => [])
theorem parse_yes {l : List InsD} (hs : StepsIn l) (h : machineOkB l = true) : parseB (joinX l) = true ∧ parseOf (joinX l) = l := by
  have hx : ∃ m, ReadAs (joinX l) m ∧ machineOkB m = true := ⟨l, ⟨rfl, hs⟩, h⟩
  refine ⟨@decide_eq_true _ (Classical.propDecidable _) hx, ?_⟩
  unfold parseOf
  rw [dif_pos hx]
  exact tx_all hx.choose_spec.1 hs
theorem parse_no {t : List UInt8} (h : ∀ l, ReadAs t l → machineOkB l = true → False) : parseB t = false ∧ parseOf t = [] := by
  have hx : ¬ ∃ m, ReadAs t m ∧ machineOkB m = true := fun ⟨m, h1, h2⟩ => h m h1 h2
  refine ⟨@decide_eq_false _ (Classical.propDecidable _) hx, ?_⟩
  unfold parseOf
  rw [dif_neg hx]
theorem machine_steps {l : List InsD} (h : machineOkB l = true) (hr : ∀ x ∈ l, InR x) : StepsIn l := fun x hx => by
  obtain ⟨_, h2, h3, _⟩ := machineOkB_parts h
  exact ⟨stepOkB_more (h3 x hx) (by omega), hr x hx⟩
theorem join_text : ∀ {m : List InsD}, (∀ x ∈ m, stepOkB x 900 = true) → m.flatMap (fun x => textX x ++ [10]) = joinX m
  | [], _ => rfl
  | x :: m, h => by
    rw [joinX_cons, List.flatMap_cons, textX_line (h x List.mem_cons_self), join_text (fun z hz => h z (List.mem_cons_of_mem _ hz))]
    simp
theorem printL_yes {l : List InsD} (h : machineOkB l = true) : printL l = joinX l := by
  unfold printL
  rw [if_pos h]
  obtain ⟨_, h2, h3, _⟩ := machineOkB_parts h
  exact join_text (fun x hx => stepOkB_more (h3 x hx) (by omega))
theorem printL_no {l : List InsD} (h : machineOkB l = false) : printL l = [] := if_neg (by rw [h]; simp)
theorem parseOf_len (t : List UInt8) : (parseOf t).length ≤ 900 := by
  by_cases h : ∃ l, ReadAs t l ∧ machineOkB l = true
  · obtain ⟨l, ⟨rfl, hs⟩, hm⟩ := h
    rw [(parse_yes hs hm).2]
    exact (machineOkB_parts hm).2.1
  · rw [(parse_no (fun l h1 h2 => h ⟨l, h1, h2⟩)).2]
    simp
end Go.Proofs.YtjcocpdicogecaaGreatDoor

namespace Go.Proofs.YtjcocpdicogecaaGreatDoor
open Go.Lib
set_option linter.unusedVariables false

theorem index_ne {b c : UInt8} {l : List UInt8} (h : b ≠ c) : index (b :: l) [c] = if index l [c] == -1 then -1 else index l [c] + 1 := by
  rw [index, if_neg (by simp [List.isPrefixOf]; exact fun e => h e.symm)]
theorem splitK_spl (c : UInt8) : ∀ l : List UInt8, splitK [c] 0 (count l [c]) l = spl c l
  | [] => rfl
  | b :: r => by
    by_cases h : b = c
    · subst h
      rw [count_cons_eq, Nat.add_comm, splitK, spl, if_pos rfl]
      have hi : index (b :: r) [b] = 0 := by rw [index, if_pos (by simp [List.isPrefixOf])]
      rw [hi, if_neg (by decide)]
      simp only [List.length_singleton]
      rw [← splitK_spl b r]
      rfl
    · rw [count_cons_ne b c r h, spl, if_neg h, ← splitK_spl c r]
      cases hk : count r [c] with
      | zero => rfl
      | succ k =>
        have hi : ¬ (index r [c] == -1) = true := fun e => by
          have := count_miss (beq_iff_eq.1 e)
          omega
        have h0 := index_ge r [c]
        have h1 : 0 ≤ index r [c] := by
          have : index r [c] ≠ -1 := fun e => hi (beq_iff_eq.2 e)
          omega
        rw [splitK, splitK, index_ne h, if_neg hi, if_neg hi, if_neg (by rw [beq_iff_eq]; omega)]
        have e : (index r [c] + 1).toNat = (index r [c]).toNat + 1 := by omega
        rw [e]
        simp
theorem putF_snoc : ∀ (ks : List (Int × Nat)) (vs : List Int) (x : InsD) (q : Int × Nat) (v : Int), ks.length = vs.length → putF x (ks ++ [q]) (vs ++ [v]) = setF (putF x ks vs) q.2 v
  | [], [], x, q, v, _ => rfl
  | [], _ :: _, x, q, v, h => by cases h
  | _ :: _, [], x, q, v, h => by cases h
  | k :: ks, w :: vs, x, q, v, h => by
    show putF (setF x k.2 w) (ks ++ [q]) (vs ++ [v]) = _
    exact putF_snoc ks vs _ q v (by simpa using h)
theorem setF_op (x : InsD) (k : Nat) (v : Int) : (setF x k v).op = x.op := by unfold setF; (repeat' split) <;> rfl
theorem setF_n {x : InsD} {k : Nat} {v : Int} (h : InR x) (hv : -9223372036854775808 ≤ v ∧ v ≤ 9223372036854775807) : InR (setF x k v) := by
  unfold setF InR at *
  (repeat' split)
  · exact h
  · exact h
  · exact h
  · exact hv
/-- The step while a line's pieces are read: of k fields. -/
structure RS (line : List UInt8) (op : Int) (k : Nat) (s : InsD) : Prop where
  ope : s.op = op
  n : InR s
  is : ∀ y, IsLine line y → s = putF ⟨op, 0, 0, 0, 0⟩ ((kindsX op).take k) (((kindsX op).take k).map (fun q => getF y q.2))
theorem RS.start (line : List UInt8) (op : Int) : RS line op 0 ⟨op, 0, 0, 0, 0⟩ := ⟨rfl, ⟨by simp, by simp⟩, fun y _ => by simp [putF]⟩
/-- Of a line that is one of y, the op is y's. -/
theorem line_op {line : List UInt8} {op : Int} (ho : ((opOfL ((spl 32 line).headD []) : Nat) : Int) = op) {y : InsD} (h : IsLine line y) : y.op = op := by
  have := h.op
  rw [this.1] at ho
  omega
theorem RS.next {line p : List UInt8} {op v : Int} {k : Nat} {s : InsD} {q : Int × Nat} (h : RS line op k s) (ho : ((opOfL ((spl 32 line).headD []) : Nat) : Int) = op) (hq : (kindsX op)[k]? = some q) (hp : (spl 32 line)[k + 1]? = some p) (hv : atoiAll (trimPrefix p (letL q.1)) = .ok v) : RS line op (k + 1) (setF s q.2 v) := by
  refine ⟨by rw [setF_op]; exact h.ope, setF_n h.n (atoiAll_bounds hv), fun y hy => ?_⟩
  have hop := line_op ho hy
  have e : v = getF y q.2 := by
    obtain ⟨p', h1, h2⟩ := hy.num (j := k) (q := q) (by rw [hop]; exact hq)
    rw [hp] at h1
    cases h1
    rw [hv] at h2
    exact NumEnd.ok.inj h2
  rw [List.take_add_one, hq, List.map_append]
  show _ = putF _ ((kindsX op).take k ++ [q]) (((kindsX op).take k).map (fun q => getF y q.2) ++ [getF y q.2])
  rw [putF_snoc _ _ _ _ _ (by simp), ← h.is y hy, e]
theorem RS.bad {line p : List UInt8} {op : Int} {k : Nat} {q : Int × Nat} (ho : ((opOfL ((spl 32 line).headD []) : Nat) : Int) = op) (hq : (kindsX op)[k]? = some q) (hp : (spl 32 line)[k + 1]? = some p) (hv : ∀ v, atoiAll (trimPrefix p (letL q.1)) ≠ .ok v) : ∀ y, ¬ IsLine line y := by
  intro y hy
  obtain ⟨p', h1, h2⟩ := hy.num (j := k) (q := q) (by rw [line_op ho hy]; exact hq)
  rw [hp] at h1
  cases h1
  exact hv _ h2
theorem line_noop {line : List UInt8} {op : Int} (ho : ((opOfL ((spl 32 line).headD []) : Nat) : Int) = op) (h : op = 0) : ∀ y, ¬ IsLine line y := by
  intro y hy
  have h1 := line_op ho hy
  have h2 := hy.op
  omega
theorem line_nolen {line : List UInt8} {op : Int} (ho : ((opOfL ((spl 32 line).headD []) : Nat) : Int) = op) (h : (spl 32 line).length ≠ 1 + (kindsX op).length) : ∀ y, ¬ IsLine line y := by
  intro y hy
  have h1 := congrArg List.length hy.pieces
  rw [line_op ho hy, List.length_map, List.length_tail] at h1
  have h2 := List.length_pos_iff.2 (spl_ne 32 line)
  omega
theorem RS.all {line : List UInt8} {op : Int} {k : Nat} {s : InsD} (h : RS line op k s) (hk : k = (kindsX op).length) (ho : ((opOfL ((spl 32 line).headD []) : Nat) : Int) = op) {y : InsD} (hy : IsLine line y) : s = y := by
  rw [h.is y hy, hk, List.take_length]
  have hop := line_op ho hy
  rw [← hop]
  exact putF_is hy.1
theorem RS.yes {line : List UInt8} {op : Int} {k : Nat} {s : InsD} (h : RS line op k s) (h0 : op ≠ 0) (ho : ((opOfL ((spl 32 line).headD []) : Nat) : Int) = op) (ht : textX s = line) : IsLine line s := by
  refine (isLine_text h.n (fun e => h0 ?_)).2 ht
  subst e
  rw [← ho]
  rfl
theorem RS.no {line : List UInt8} {op : Int} {k : Nat} {s : InsD} (h : RS line op k s) (hk : k = (kindsX op).length) (ho : ((opOfL ((spl 32 line).headD []) : Nat) : Int) = op) (ht : textX s ≠ line) : ∀ y, ¬ IsLine line y := by
  intro y hy
  have e := h.all hk ho hy
  subst e
  exact ht ((isLine_text hy.2.1 hy.ne).1 hy)
end Go.Proofs.YtjcocpdicogecaaGreatDoor

namespace Go.Proofs.YtjcocpdicogecaaGreatDoor
open Go.Lib
set_option linter.unusedVariables false

def R64 (x : Int) : Prop := -9223372036854775808 ≤ x ∧ x ≤ 9223372036854775807
def wrapW (n : Int) : Int := (n + 9223372036854775808) % 18446744073709551616 - 9223372036854775808
theorem wrapW_in {n : Int} (h : R64 n) : wrapW n = n := by unfold wrapW R64 at *; omega
theorem wrapW_r (n : Int) : R64 (wrapW n) := by unfold wrapW R64; omega
/-- A digit more. -/
def digW (neg : Bool) (x d : Int) : Int := if neg then wrapW (wrapW (10 * x) - d) else wrapW (wrapW (10 * x) + d)
def foldW (neg : Bool) (l : List UInt8) : Int := l.foldl (fun x c => digW neg x ((c.toNat : Int) - 48)) 0
theorem foldW_snoc (neg : Bool) (l : List UInt8) (c : UInt8) : foldW neg (l ++ [c]) = digW neg (foldW neg l) ((c.toNat : Int) - 48) := by simp [foldW]
theorem foldW_r (neg : Bool) (l : List UInt8) : R64 (foldW neg l) := by
  rcases List.eq_nil_or_concat l with rfl | ⟨m, c, rfl⟩
  · unfold foldW R64; simp
  · rw [List.concat_eq_append, foldW_snoc]
    unfold digW
    split <;> exact wrapW_r _
theorem foldW_pos (u : Nat) (hu : u ≤ 9223372036854775807) : foldW false (decDigits u) = (u : Int) := by
  induction u using Nat.strongRecOn with
  | _ u ih =>
    by_cases h : u < 10
    · rw [decDigits_one h]
      have h9 := dig_toNat h
      simp only [foldW, List.foldl, digW, h9]
      simp only [wrapW, Bool.false_eq_true, if_false]
      omega
    · rw [decDigits, dif_neg h, foldW_snoc, ih (u / 10) (by omega) (by omega), dig_toNat (by omega)]
      simp only [digW, wrapW]
      simp only [Bool.false_eq_true, if_false]
      omega
theorem foldW_neg (u : Nat) (hu : u ≤ 9223372036854775808) : foldW true (decDigits u) = -(u : Int) := by
  induction u using Nat.strongRecOn with
  | _ u ih =>
    by_cases h : u < 10
    · rw [decDigits_one h]
      have h9 := dig_toNat h
      simp only [foldW, List.foldl, digW, h9]
      simp only [wrapW, if_true]
      omega
    · rw [decDigits, dif_neg h, foldW_snoc, ih (u / 10) (by omega) (by omega), dig_toNat (by omega)]
      simp only [digW, wrapW, if_true]
      omega
theorem nDigits_le : ∀ (k u : Nat), u < 10 ^ (k + 1) → nDigits u ≤ k + 1
  | 0, u, h => by rw [nDigits_small (by simpa using h)]; omega
  | k + 1, u, h => by
    by_cases h9 : u < 10
    · rw [nDigits_small h9]; omega
    · rw [nDigits_big h9]
      have := nDigits_le k (u / 10) (by rw [Nat.pow_succ] at h; omega)
      omega
theorem decDigits_len19 {u : Nat} (h : u ≤ 9223372036854775808) : (decDigits u).length ≤ 19 := by
  rw [decDigits_length]
  exact nDigits_le 18 u (by have : (10 : Nat) ^ 19 = 10000000000000000000 := by decide
                            omega)

/-- A numeral's parts: its sign, its digits. -/
structure NumParts (l : List UInt8) (neg : Bool) (st : Nat) (x : Int) : Prop where
  sign : neg = (decide (1 < l.length) && decide (l[0]? = some 45))
  start : st = if neg then 1 else 0
  size : l.length - st ≤ 19 ∧ st < l.length
  digits : ∀ c ∈ l.drop st, 48 ≤ c.toNat ∧ c.toNat ≤ 57
  value : foldW neg (l.drop st) = x
theorem num_parts {x : Int} (hx : R64 x) : ∃ neg st, NumParts (itoa x) neg st x := by
  unfold R64 at hx
  by_cases h : x < 0
  · refine ⟨true, 1, ?_⟩
    have e : itoa x = 45 :: decDigits x.natAbs := by unfold itoa; rw [if_pos h]
    have h1 := decDigits_len19 (u := x.natAbs) (by omega)
    have h2 := decDigits_ne x.natAbs
    have h3 : 0 < (decDigits x.natAbs).length := (List.length_pos_iff.2 h2)
    rw [e]
    refine ⟨by simp; omega, rfl, by simp; omega, fun c hc => decDigits_all _ c (by simpa using hc), ?_⟩
    show foldW true (decDigits x.natAbs) = x
    rw [foldW_neg _ (by omega)]
    omega
  · refine ⟨false, 0, ?_⟩
    have e : itoa x = decDigits x.toNat := by unfold itoa; rw [if_neg h]
    have h1 := decDigits_len19 (u := x.toNat) (by omega)
    have h2 := decDigits_ne x.toNat
    have h3 : 0 < (decDigits x.toNat).length := (List.length_pos_iff.2 h2)
    rw [e]
    refine ⟨?_, rfl, by simp; omega, fun c hc => decDigits_all _ c (by simpa using hc), ?_⟩
    · cases h9 : decDigits x.toNat with
      | nil => exact absurd h9 h2
      | cons c r =>
        have hc := decDigits_all x.toNat c (by rw [h9]; exact List.mem_cons_self)
        have : c ≠ 45 := fun e9 => by subst e9; revert hc; decide
        simp [this]
    · show foldW false (decDigits x.toNat) = x
      rw [foldW_pos _ (by omega)]
      omega

/-- What words say: registers in their order, and a number. -/
inductive WordsTo : List (List UInt8) → List Int → Int → Prop where
  | none : WordsTo [] [] 0
  | reg {ws : List (List UInt8)} {rs : List Int} {n x : Int} (h : WordsTo ws rs n) (hx : R64 x) : WordsTo (ws ++ [114 :: itoa x]) (rs ++ [x]) n
  | slot {ws : List (List UInt8)} {rs : List Int} {n x : Int} (h : WordsTo ws rs n) (hx : R64 x) : WordsTo (ws ++ [115 :: itoa x]) rs x
  | num {ws : List (List UInt8)} {rs : List Int} {n x : Int} (h : WordsTo ws rs n) (hx : R64 x) : WordsTo (ws ++ [itoa x]) rs x
theorem itoa_head {x : Int} {c : UInt8} {l : List UInt8} (h : itoa x = c :: l) : c ≠ 114 ∧ c ≠ 115 := by
  have h9 := itoa_bytes x c (by rw [h]; exact List.mem_cons_self)
  constructor
  · intro e; subst e; revert h9; decide
  · intro e; subst e; revert h9; decide
/-- What the numbers that an op names say. -/
def regsF : List (Int × Int) → List Int
  | [] => []
  | q :: l => if q.1 = 1 then q.2 :: regsF l else regsF l
def numF : List (Int × Int) → Int → Int
  | [], n => n
  | q :: l, n => if q.1 = 1 then numF l n else numF l q.2
theorem regsF_snoc (l : List (Int × Int)) (q : Int × Int) : regsF (l ++ [q]) = regsF l ++ (if q.1 = 1 then [q.2] else []) := by
  induction l with
  | nil => simp [regsF]
  | cons p l ih => simp only [List.cons_append, regsF]; split <;> simp [ih]
theorem numF_snoc (l : List (Int × Int)) (q : Int × Int) : ∀ n, numF (l ++ [q]) n = if q.1 = 1 then numF l n else q.2 := by
  induction l with
  | nil => intro n; simp [numF]
  | cons p l ih => intro n; simp only [List.cons_append, numF]; split <;> simp [ih]
theorem wordsTo_fields (fs : List (Int × Int)) (hr : ∀ q ∈ fs, R64 q.2) : ∀ {ws rs n}, WordsTo ws rs n → ws = fs.map (fun q => piece q.1 q.2) → rs = regsF fs ∧ n = numF fs 0 := by
  induction hk : fs.length generalizing fs with
  | zero =>
    intro ws rs n h e
    have : fs = [] := List.eq_nil_of_length_eq_zero hk
    subst this
    cases h with
    | none => exact ⟨rfl, rfl⟩
    | reg h hx => simp at e
    | slot h hx => simp at e
    | num h hx => simp at e
  | succ k ih =>
    intro ws rs n h e
    rcases List.eq_nil_or_concat fs with rfl | ⟨l, q, rfl⟩
    · simp at hk
    rw [List.concat_eq_append] at hk e hr ⊢
    have hl : l.length = k := by simpa using hk
    have hrl : ∀ p ∈ l, R64 p.2 := fun p hp => hr p (by simp [hp])
    have hrq : R64 q.2 := hr q (by simp)
    rw [List.map_append, List.map_singleton] at e
    rw [regsF_snoc, numF_snoc]
    cases h with
    | none => simp at e
    | reg h hx =>
      obtain ⟨e1, e2⟩ := List.append_inj' e rfl
      have e3 := List.cons.inj e2 |>.1
      obtain ⟨i1, i2⟩ := ih l hrl hl h e1
      unfold piece letL at e3
      by_cases h1 : q.1 = 1
      · rw [if_pos h1] at e3
        simp at e3
        rw [if_pos h1, if_pos h1, itoa_inj hx hrq e3, i1, ← i2]
        exact ⟨rfl, rfl⟩
      · rw [if_neg h1] at e3
        by_cases h2 : q.1 = 2
        · rw [if_pos h2] at e3; simp at e3
        · rw [if_neg h2] at e3; exact absurd rfl (itoa_head (by simpa using e3.symm)).1
    | slot h hx =>
      obtain ⟨e1, e2⟩ := List.append_inj' e rfl
      have e3 : (115 : UInt8) :: itoa n = piece q.1 q.2 := by simpa using e2
      obtain ⟨i1, i2⟩ := ih l hrl hl h e1
      unfold piece letL at e3
      by_cases h1 : q.1 = 1
      · rw [if_pos h1] at e3; simp at e3
      · rw [if_neg h1] at e3
        by_cases h2 : q.1 = 2
        · rw [if_pos h2] at e3
          simp at e3
          rw [if_neg h1, if_neg h1, itoa_inj hx hrq e3, i1]
          exact ⟨by simp, rfl⟩
        · rw [if_neg h2] at e3; exact absurd rfl (itoa_head (by simpa using e3.symm)).2
    | num h hx =>
      obtain ⟨e1, e2⟩ := List.append_inj' e rfl
      have e3 : itoa n = piece q.1 q.2 := by simpa using e2
      obtain ⟨i1, i2⟩ := ih l hrl hl h e1
      unfold piece letL at e3
      by_cases h1 : q.1 = 1
      · rw [if_pos h1] at e3; exact absurd rfl (itoa_head (by simpa using e3)).1
      · rw [if_neg h1] at e3
        by_cases h2 : q.1 = 2
        · rw [if_pos h2] at e3; exact absurd rfl (itoa_head (by simpa using e3)).2
        · rw [if_neg h2] at e3
          simp at e3
          rw [if_neg h1, if_neg h1, itoa_inj hx hrq e3, i1]
          exact ⟨by simp, rfl⟩
end Go.Proofs.YtjcocpdicogecaaGreatDoor
