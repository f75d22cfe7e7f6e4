/- The machine as mathematics: which steps there are, what each does, how a machine runs. -/
import Derived.Test.YtebcocehdjoafaaDoorRunDef
namespace Go.Proofs.YtebcocehdjoafaaDoor
set_option linter.unusedVariables false

/-- Does a part of a form hold a number, in a code of n steps? -/
def holdsB (p x n : Int) : Bool :=
  if p = 1 then decide (0 ≤ x) && decide (x < 8) else if p = 2 then decide (0 ≤ x) && decide (x < 40) else if p = 3 then decide (0 ≤ x) && decide (x < n) else if p = 4 then true else decide (x = 0)

structure FormD where
  r : Int
  a : Int
  b : Int
  n : Int

/-- The form of an op, by the table. -/
def formAt (i : Nat) : FormD := match i with
  | 1 => ⟨1, 0, 0, 4⟩
  | 2 => ⟨1, 1, 0, 0⟩
  | 3 => ⟨1, 0, 0, 2⟩
  | 4 => ⟨0, 1, 0, 2⟩
  | 5 => ⟨1, 1, 0, 0⟩
  | 6 => ⟨0, 1, 1, 0⟩
  | 7 => ⟨0, 1, 0, 0⟩
  | 8 => ⟨1, 0, 0, 0⟩
  | 9 => ⟨0, 0, 0, 3⟩
  | 10 => ⟨0, 1, 0, 3⟩
  | 11 => ⟨0, 1, 0, 0⟩
  | _ => ⟨0, 0, 0, 0⟩
def formV (op : Int) : FormD := if 12 ≤ op ∧ op ≤ 21 then ⟨1, 1, 1, 0⟩ else formAt op.toNat
def formOk (op : Int) : Bool := decide (1 ≤ op ∧ op ≤ 21)

/-- Is it a step of a code of n? -/
def stepOkB (x : InsD) (n : Int) : Bool :=
  formOk x.op && (holdsB (formV x.op).r x.d n && (holdsB (formV x.op).a x.a n && (holdsB (formV x.op).b x.b n && holdsB (formV x.op).n x.n n)))

theorem op_kinds (op : Int) : op = 1 ∨ op = 2 ∨ op = 3 ∨ op = 4 ∨ op = 5 ∨ op = 6 ∨ op = 7 ∨ op = 8 ∨ op = 9 ∨ op = 10 ∨ op = 11 ∨ (12 ≤ op ∧ op ≤ 21) ∨ (op < 1 ∨ 21 < op) := by omega
theorem formOk_yes {op : Int} (h : 1 ≤ op) (h2 : op ≤ 21) : formOk op = true := by simp [formOk, h, h2]
theorem formOk_no {op : Int} (h : op < 1 ∨ 21 < op) : formOk op = false := by simp [formOk]; omega
theorem formV_word {op : Int} (h : 12 ≤ op) (h2 : op ≤ 21) : formV op = ⟨1, 1, 1, 0⟩ := by simp [formV, h, h2]
theorem formV_tab {op : Int} (h : op ≤ 11) : formV op = formAt op.toNat := by
  unfold formV
  rw [if_neg (by omega)]
theorem parts01 (op : Int) : ((formV op).r = 0 ∨ (formV op).r = 1) ∧ ((formV op).a = 0 ∨ (formV op).a = 1) ∧ ((formV op).b = 0 ∨ (formV op).b = 1) := by
  by_cases h : 12 ≤ op ∧ op ≤ 21
  · rw [formV_word h.1 h.2]; exact ⟨.inr rfl, .inr rfl, .inr rfl⟩
  · unfold formV
    rw [if_neg h]
    unfold formAt
    split <;> simp
theorem holdsB_reg {p x n : Int} (hp : p = 0 ∨ p = 1) (h : holdsB p x n = true) : 0 ≤ x ∧ x ≤ 7 := by
  rcases hp with rfl | rfl
  · simp [holdsB] at h; omega
  · simp [holdsB] at h; omega
theorem stepOkB_parts {x : InsD} {n : Int} (h : stepOkB x n = true) : (1 ≤ x.op ∧ x.op ≤ 21) ∧ holdsB (formV x.op).r x.d n = true ∧ holdsB (formV x.op).a x.a n = true ∧ holdsB (formV x.op).b x.b n = true ∧ holdsB (formV x.op).n x.n n = true := by
  unfold stepOkB at h
  simp only [Bool.and_eq_true] at h
  obtain ⟨h0, h1, h2, h3, h4⟩ := h
  exact ⟨by simpa [formOk] using h0, h1, h2, h3, h4⟩
/-- Its registers are eight. -/
theorem stepOkB_regs {x : InsD} {n : Int} (h : stepOkB x n = true) : (0 ≤ x.d ∧ x.d ≤ 7) ∧ (0 ≤ x.a ∧ x.a ≤ 7) ∧ (0 ≤ x.b ∧ x.b ≤ 7) := by
  obtain ⟨_, h1, h2, h3, _⟩ := stepOkB_parts h
  obtain ⟨p1, p2, p3⟩ := parts01 x.op
  exact ⟨holdsB_reg p1 h1, holdsB_reg p2 h2, holdsB_reg p3 h3⟩
theorem stepOkB_noreg {x : InsD} {n : Int} (h : ¬ ((0 ≤ x.d ∧ x.d ≤ 7) ∧ (0 ≤ x.a ∧ x.a ≤ 7) ∧ (0 ≤ x.b ∧ x.b ≤ 7))) : stepOkB x n = false := by
  cases e : stepOkB x n with
  | false => rfl
  | true => exact absurd (stepOkB_regs e) h
theorem holdsB_place {x n m : Int} (h : n ≤ m) {p : Int} (hh : holdsB p x n = true) : holdsB p x m = true := by
  unfold holdsB at hh ⊢
  repeat' split
  all_goals simp_all
  all_goals omega
theorem stepOkB_more {x : InsD} {n m : Int} (h : stepOkB x n = true) (hm : n ≤ m) : stepOkB x m = true := by
  obtain ⟨h0, h1, h2, h3, h4⟩ := stepOkB_parts h
  unfold stepOkB
  rw [formOk_yes h0.1 h0.2, holdsB_place hm h1, holdsB_place hm h2, holdsB_place hm h3, holdsB_place hm h4]
  rfl

/-- Is it a code? -/
def machineOkB (l : List InsD) : Bool :=
  decide (1 ≤ l.length) && (decide (l.length ≤ 900) && (l.all (fun x => stepOkB x l.length) && (match l.getLast? with | some x => decide (x.op = 9 ∨ x.op = 11) | none => false)))

/-- The slots that it gets or puts, ascending. -/
def slotUsed (l : List InsD) (k : Int) : Bool := l.any (fun x => (decide (x.op = 3) || decide (x.op = 4)) && decide (x.n = k))
def usesL (l : List InsD) : List Int := ((List.range 40).map (fun (i : Nat) => (i : Int))).filter (fun k => slotUsed l k)
def usesOf (l : List InsD) : List Int := if machineOkB l = true then usesL l else []

/-- Where a machine is. -/
structure MacS where
  regs : Nat → Int
  slots : Nat → Int
  cells : Nat → Int
  reads : List Int
  told : List Int
  pc : Nat

/-- What a step does, but an end: how, and the machine behind it. -/
def macDo (W : Int → Int → Int → Int) (x : InsD) (m : MacS) : Int × MacS :=
  if x.op = 1 then (0, { m with pc := m.pc + 1, regs := updN m.regs x.d.toNat x.n })
  else if x.op = 2 then (0, { m with pc := m.pc + 1, regs := updN m.regs x.d.toNat (m.regs x.a.toNat) })
  else if x.op = 3 then (0, { m with pc := m.pc + 1, regs := updN m.regs x.d.toNat (m.slots x.n.toNat) })
  else if x.op = 4 then (0, { m with pc := m.pc + 1, slots := updN m.slots x.n.toNat (m.regs x.a.toNat) })
  else if x.op = 5 then (if cellOk (m.regs x.a.toNat) then (0, { m with pc := m.pc + 1, regs := updN m.regs x.d.toNat (m.cells (m.regs x.a.toNat).toNat) }) else (2, { m with pc := m.pc + 1 }))
  else if x.op = 6 then (if cellOk (m.regs x.a.toNat) then (0, { m with pc := m.pc + 1, cells := updN m.cells (m.regs x.a.toNat).toNat (m.regs x.b.toNat) }) else (2, { m with pc := m.pc + 1 }))
  else if x.op = 7 then (0, { m with pc := m.pc + 1, told := m.told ++ [m.regs x.a.toNat] })
  else if x.op = 8 then (0, { m with pc := m.pc + 1, regs := updN m.regs x.d.toNat (m.reads.headD 0), reads := m.reads.tail })
  else if x.op = 9 then (0, { m with pc := x.n.toNat })
  else if x.op = 10 then (if m.regs x.a.toNat = 0 then (0, { m with pc := x.n.toNat }) else (0, { m with pc := m.pc + 1 }))
  else (0, { m with pc := m.pc + 1, regs := updN m.regs x.d.toNat (W (x.op - 11) (m.regs x.a.toNat) (m.regs x.b.toNat)) })

/-- A machine runs, with so much fuel: what it tells, how, and what the end is. -/
def macN (W : Int → Int → Int → Int) (l : List InsD) : Nat → MacS → List Int × Int × Int
  | 0, m => (m.told, 1, 0)
  | k + 1, m => match l[m.pc]? with
    | none => (m.told, 1, 0)
    | some x => if x.op = 11 then (m.told, 0, m.regs x.a.toNat)
      else if (macDo W x m).1 = 0 then macN W l k (macDo W x m).2 else ((macDo W x m).2.told, (macDo W x m).1, 0)

def macStart (reads : List Int) : MacS := ⟨fun _ => 0, fun _ => 0, fun _ => 0, reads, [], 0⟩
def macOf (W : Int → Int → Int → Int) (l : List InsD) (reads : List Int) (fuel : Int) : List Int × Int × Int :=
  if machineOkB l = true ∧ 0 ≤ fuel then macN W l (min fuel 40000).toNat (macStart reads) else ([], 3, 0)

theorem macN_step {W : Int → Int → Int → Int} {l : List InsD} {k : Nat} {m : MacS} {x : InsD} (hx : l[m.pc]? = some x) : macN W l (k + 1) m = if x.op = 11 then (m.told, 0, m.regs x.a.toNat)
      else if (macDo W x m).1 = 0 then macN W l k (macDo W x m).2 else ((macDo W x m).2.told, (macDo W x m).1, 0) := by
  conv => lhs; unfold macN
  rw [hx]

theorem machineOkB_parts {l : List InsD} (h : machineOkB l = true) : 1 ≤ l.length ∧ l.length ≤ 900 ∧ (∀ x ∈ l, stepOkB x l.length = true) ∧ ∃ x, l.getLast? = some x ∧ (x.op = 9 ∨ x.op = 11) := by
  unfold machineOkB at h
  simp only [Bool.and_eq_true, decide_eq_true_eq, List.all_eq_true] at h
  obtain ⟨h1, h2, h3, h4⟩ := h
  refine ⟨h1, h2, h3, ?_⟩
  cases e : l.getLast? with
  | none => rw [e] at h4; cases h4
  | some x =>
    rw [e] at h4
    exact ⟨x, rfl, by simpa using h4⟩
theorem macDo_pc (W : Int → Int → Int → Int) (x : InsD) (m : MacS) : (macDo W x m).2.pc = m.pc + 1 ∧ x.op ≠ 9 ∨ (x.op = 9 ∨ x.op = 10) ∧ (macDo W x m).2.pc = x.n.toNat := by
  unfold macDo
  by_cases e1 : x.op = 1
  · rw [if_pos e1]; exact .inl ⟨rfl, by omega⟩
  rw [if_neg e1]
  by_cases e2 : x.op = 2
  · rw [if_pos e2]; exact .inl ⟨rfl, by omega⟩
  rw [if_neg e2]
  by_cases e3 : x.op = 3
  · rw [if_pos e3]; exact .inl ⟨rfl, by omega⟩
  rw [if_neg e3]
  by_cases e4 : x.op = 4
  · rw [if_pos e4]; exact .inl ⟨rfl, by omega⟩
  rw [if_neg e4]
  by_cases e5 : x.op = 5
  · rw [if_pos e5]
    by_cases c : cellOk (m.regs x.a.toNat)
    · rw [if_pos c]; exact .inl ⟨rfl, by omega⟩
    · rw [if_neg c]; exact .inl ⟨rfl, by omega⟩
  rw [if_neg e5]
  by_cases e6 : x.op = 6
  · rw [if_pos e6]
    by_cases c : cellOk (m.regs x.a.toNat)
    · rw [if_pos c]; exact .inl ⟨rfl, by omega⟩
    · rw [if_neg c]; exact .inl ⟨rfl, by omega⟩
  rw [if_neg e6]
  by_cases e7 : x.op = 7
  · rw [if_pos e7]; exact .inl ⟨rfl, by omega⟩
  rw [if_neg e7]
  by_cases e8 : x.op = 8
  · rw [if_pos e8]; exact .inl ⟨rfl, by omega⟩
  rw [if_neg e8]
  by_cases e9 : x.op = 9
  · rw [if_pos e9]; exact .inr ⟨.inl e9, rfl⟩
  rw [if_neg e9]
  by_cases e10 : x.op = 10
  · rw [if_pos e10]
    by_cases c : m.regs x.a.toNat = 0
    · rw [if_pos c]; exact .inr ⟨.inr e10, rfl⟩
    · rw [if_neg c]; exact .inl ⟨rfl, by omega⟩
  rw [if_neg e10]
  exact .inl ⟨rfl, e9⟩
/-- It never leaves its code. -/
theorem macDo_stays {W : Int → Int → Int → Int} {l : List InsD} {m : MacS} {x : InsD} (h : machineOkB l = true) (hx : l[m.pc]? = some x) (h11 : x.op ≠ 11) : (macDo W x m).2.pc < l.length := by
  obtain ⟨h1, h2, h3, y, hy, hy2⟩ := machineOkB_parts h
  have hlt : m.pc < l.length := (List.getElem?_eq_some_iff.1 hx).1
  have hok := h3 x (List.mem_of_getElem? hx)
  obtain ⟨_, _, _, _, h4⟩ := stepOkB_parts hok
  have hn9 : x.op = 9 ∨ x.op = 10 → x.n.toNat < l.length := by
    intro e
    have : holdsB 3 x.n l.length = true := by
      rcases e with e | e
      · rw [e] at h4; exact h4
      · rw [e] at h4; exact h4
    simp [holdsB] at this
    omega
  have hnext : x.op ≠ 9 → m.pc + 1 < l.length := by
    intro e
    by_cases e2 : m.pc + 1 < l.length
    · exact e2
    · have e3 : m.pc = l.length - 1 := by omega
      rw [List.getLast?_eq_getElem?] at hy
      rw [e3, hy] at hx
      cases hx
      rcases hy2 with q | q
      · exact absurd q e
      · exact absurd q h11
  rcases macDo_pc W x m with ⟨e, e9⟩ | ⟨e9, e⟩
  · rw [e]; exact hnext e9
  · rw [e]; exact hn9 e9
end Go.Proofs.YtebcocehdjoafaaDoor
