/- What is asked of a number within bounds: it stands in Shape1 here. The machine as mathematics: which steps there are, what each does, how a machine runs. StepOk, of both sides. MachineOk, of both sides. -/
import Derived.Test.YtkejplddeelahaaGreatDoorKSh1
import Derived.Test.YtkejplddeelahaaGreatDoorKMake
import Derived.Test.YtkejplddeelahaaGreatDoorKSt
import Derived.Deep.RegionHeld3
namespace Go.Proofs.YtkejplddeelahaaGreatDoor
end Go.Proofs.YtkejplddeelahaaGreatDoor

namespace Go.Proofs.YtkejplddeelahaaGreatDoor
set_option linter.unusedVariables false

/-- Does a part of a form hold a number, in a code of n steps? -/
def holdsB (p x n : Int) : Bool :=
  if p = 1 then decide (0 ≤ x) && decide (x < 8) else if p = 2 then decide (0 ≤ x) && decide (x < 40) else if p = 3 then decide (0 ≤ x) && decide (x < n) else if p = 4 then true else decide (x = 0)

structure FormD where
  r : Int
  a : Int
  b : Int
  n : Int

/-- The form of an op, by the table. -/
def formAt (i : Nat) : FormD := match i with
  | 1 => ⟨1, 0, 0, 4⟩
  | 2 => ⟨1, 1, 0, 0⟩
  | 3 => ⟨1, 0, 0, 2⟩
  | 4 => ⟨0, 1, 0, 2⟩
  | 5 => ⟨1, 1, 0, 0⟩
  | 6 => ⟨0, 1, 1, 0⟩
  | 7 => ⟨0, 1, 0, 0⟩
  | 8 => ⟨1, 0, 0, 0⟩
  | 9 => ⟨0, 0, 0, 3⟩
  | 10 => ⟨0, 1, 0, 3⟩
  | 11 => ⟨0, 1, 0, 0⟩
  | _ => ⟨0, 0, 0, 0⟩
def formV (op : Int) : FormD := if 12 ≤ op ∧ op ≤ 21 then ⟨1, 1, 1, 0⟩ else formAt op.toNat
def formOk (op : Int) : Bool := decide (1 ≤ op ∧ op ≤ 21)

/-- Is it a step of a code of n? -/
def stepOkB (x : InsD) (n : Int) : Bool :=
  formOk x.op && (holdsB (formV x.op).r x.d n && (holdsB (formV x.op).a x.a n && (holdsB (formV x.op).b x.b n && holdsB (formV x.op).n x.n n)))

theorem op_kinds (op : Int) : op = 1 ∨ op = 2 ∨ op = 3 ∨ op = 4 ∨ op = 5 ∨ op = 6 ∨ op = 7 ∨ op = 8 ∨ op = 9 ∨ op = 10 ∨ op = 11 ∨ (12 ≤ op ∧ op ≤ 21) ∨ (op < 1 ∨ 21 < op) := by omega
theorem formOk_yes {op : Int} (h : 1 ≤ op) (h2 : op ≤ 21) : formOk op = true := by simp [formOk, h, h2]
theorem formOk_no {op : Int} (h : op < 1 ∨ 21 < op) : formOk op = false := by simp [formOk]; omega
theorem formV_word {op : Int} (h : 12 ≤ op) (h2 : op ≤ 21) : formV op = ⟨1, 1, 1, 0⟩ := by simp [formV, h, h2]
theorem formV_tab {op : Int} (h : op ≤ 11) : formV op = formAt op.toNat := by
  unfold formV
  rw [if_neg (by omega)]
theorem parts01 (op : Int) : ((formV op).r = 0 ∨ (formV op).r = 1) ∧ ((formV op).a = 0 ∨ (formV op).a = 1) ∧ ((formV op).b = 0 ∨ (formV op).b = 1) := by
  by_cases h : 12 ≤ op ∧ op ≤ 21
  · rw [formV_word h.1 h.2]; exact ⟨.inr rfl, .inr rfl, .inr rfl⟩
  · unfold formV
    rw [if_neg h]
    unfold formAt
    split <;> simp
theorem holdsB_reg {p x n : Int} (hp : p = 0 ∨ p = 1) (h : holdsB p x n = true) : 0 ≤ x ∧ x ≤ 7 := by
  rcases hp with rfl | rfl
  · simp [holdsB] at h; omega
  · simp [holdsB] at h; omega
theorem stepOkB_parts {x : InsD} {n : Int} (h : stepOkB x n = true) : (1 ≤ x.op ∧ x.op ≤ 21) ∧ holdsB (formV x.op).r x.d n = true ∧ holdsB (formV x.op).a x.a n = true ∧ holdsB (formV x.op).b x.b n = true ∧ holdsB (formV x.op).n x.n n = true := by
  unfold stepOkB at h
  simp only [Bool.and_eq_true] at h
  obtain ⟨h0, h1, h2, h3, h4⟩ := h
  exact ⟨by simpa [formOk] using h0, h1, h2, h3, h4⟩
/-- Its registers are eight. -/
theorem stepOkB_regs {x : InsD} {n : Int} (h : stepOkB x n = true) : (0 ≤ x.d ∧ x.d ≤ 7) ∧ (0 ≤ x.a ∧ x.a ≤ 7) ∧ (0 ≤ x.b ∧ x.b ≤ 7) := by
  obtain ⟨_, h1, h2, h3, _⟩ := stepOkB_parts h
  obtain ⟨p1, p2, p3⟩ := parts01 x.op
  exact ⟨holdsB_reg p1 h1, holdsB_reg p2 h2, holdsB_reg p3 h3⟩
theorem stepOkB_noreg {x : InsD} {n : Int} (h : ¬ ((0 ≤ x.d ∧ x.d ≤ 7) ∧ (0 ≤ x.a ∧ x.a ≤ 7) ∧ (0 ≤ x.b ∧ x.b ≤ 7))) : stepOkB x n = false := by
  cases e : stepOkB x n with
  | false => rfl
  | true => exact absurd (stepOkB_regs e) h
theorem holdsB_place {x n m : Int} (h : n ≤ m) {p : Int} (hh : holdsB p x n = true) : holdsB p x m = true := by
  unfold holdsB at hh ⊢
  repeat' split
  all_goals simp_all
  all_goals omega
theorem stepOkB_more {x : InsD} {n m : Int} (h : stepOkB x n = true) (hm : n ≤ m) : stepOkB x m = true := by
  obtain ⟨h0, h1, h2, h3, h4⟩ := stepOkB_parts h
  unfold stepOkB
  rw [formOk_yes h0.1 h0.2, holdsB_place hm h1, holdsB_place hm h2, holdsB_place hm h3, holdsB_place hm h4]
  rfl

/-- Is it a code? -/
def machineOkB (l : List InsD) : Bool :=
  decide (1 ≤ l.length) && (decide (l.length ≤ 900) && (l.all (fun x => stepOkB x l.length) && (match l.getLast? with | some x => decide (x.op = 9 ∨ x.op = 11) | none => false)))

/-- The slots that it gets or puts, ascending. -/
def slotUsed (l : List InsD) (k : Int) : Bool := l.any (fun x => (decide (x.op = 3) || decide (x.op = 4)) && decide (x.n = k))
def usesL (l : List InsD) : List Int := ((List.range 40).map (fun (i : Nat) => (i : Int))).filter (fun k => slotUsed l k)
def usesOf (l : List InsD) : List Int := if machineOkB l = true then usesL l else []

/-- Where a machine is. -/
structure MacS where
  regs : Nat → Int
  slots : Nat → Int
  cells : Nat → Int
  reads : List Int
  told : List Int
  pc : Nat

/-- What a step does, but an end: how, and the machine behind it. -/
def macDo (W : Int → Int → Int → Int) (x : InsD) (m : MacS) : Int × MacS :=
  if x.op = 1 then (0, { m with pc := m.pc + 1, regs := updN m.regs x.d.toNat x.n })
  else if x.op = 2 then (0, { m with pc := m.pc + 1, regs := updN m.regs x.d.toNat (m.regs x.a.toNat) })
  else if x.op = 3 then (0, { m with pc := m.pc + 1, regs := updN m.regs x.d.toNat (m.slots x.n.toNat) })
  else if x.op = 4 then (0, { m with pc := m.pc + 1, slots := updN m.slots x.n.toNat (m.regs x.a.toNat) })
  else if x.op = 5 then (if cellOk (m.regs x.a.toNat) then (0, { m with pc := m.pc + 1, regs := updN m.regs x.d.toNat (m.cells (m.regs x.a.toNat).toNat) }) else (2, { m with pc := m.pc + 1 }))
  else if x.op = 6 then (if cellOk (m.regs x.a.toNat) then (0, { m with pc := m.pc + 1, cells := updN m.cells (m.regs x.a.toNat).toNat (m.regs x.b.toNat) }) else (2, { m with pc := m.pc + 1 }))
  else if x.op = 7 then (0, { m with pc := m.pc + 1, told := m.told ++ [m.regs x.a.toNat] })
  else if x.op = 8 then (0, { m with pc := m.pc + 1, regs := updN m.regs x.d.toNat (m.reads.headD 0), reads := m.reads.tail })
  else if x.op = 9 then (0, { m with pc := x.n.toNat })
  else if x.op = 10 then (if m.regs x.a.toNat = 0 then (0, { m with pc := x.n.toNat }) else (0, { m with pc := m.pc + 1 }))
  else (0, { m with pc := m.pc + 1, regs := updN m.regs x.d.toNat (W (x.op - 11) (m.regs x.a.toNat) (m.regs x.b.toNat)) })

/-- A machine runs, with so much fuel: what it tells, how, and what the end is. -/
def macN (W : Int → Int → Int → Int) (l : List InsD) : Nat → MacS → List Int × Int × Int
  | 0, m => (m.told, 1, 0)
  | k + 1, m => match l[m.pc]? with
    | none => (m.told, 1, 0)
    | some x => if x.op = 11 then (m.told, 0, m.regs x.a.toNat)
      else if (macDo W x m).1 = 0 then macN W l k (macDo W x m).2 else ((macDo W x m).2.told, (macDo W x m).1, 0)

def macStart (reads : List Int) : MacS := ⟨fun _ => 0, fun _ => 0, fun _ => 0, reads, [], 0⟩
def macOf (W : Int → Int → Int → Int) (l : List InsD) (reads : List Int) (fuel : Int) : List Int × Int × Int :=
  if machineOkB l = true ∧ 0 ≤ fuel then macN W l (min fuel 40000).toNat (macStart reads) else ([], 3, 0)

theorem macN_step {W : Int → Int → Int → Int} {l : List InsD} {k : Nat} {m : MacS} {x : InsD} (hx : l[m.pc]? = some x) : macN W l (k + 1) m = if x.op = 11 then (m.told, 0, m.regs x.a.toNat)
      else if (macDo W x m).1 = 0 then macN W l k (macDo W x m).2 else ((macDo W x m).2.told, (macDo W x m).1, 0) := by
  conv => lhs; unfold macN
  rw [hx]

theorem machineOkB_parts {l : List InsD} (h : machineOkB l = true) : 1 ≤ l.length ∧ l.length ≤ 900 ∧ (∀ x ∈ l, stepOkB x l.length = true) ∧ ∃ x, l.getLast? = some x ∧ (x.op = 9 ∨ x.op = 11) := by
  unfold machineOkB at h
  simp only [Bool.and_eq_true, decide_eq_true_eq, List.all_eq_true] at h
  obtain ⟨h1, h2, h3, h4⟩ := h
  refine ⟨h1, h2, h3, ?_⟩
  cases e : l.getLast? with
  | none => rw [e] at h4; cases h4
  | some x =>
    rw [e] at h4
    exact ⟨x, rfl, by simpa using h4⟩
theorem macDo_pc (W : Int → Int → Int → Int) (x : InsD) (m : MacS) : (macDo W x m).2.pc = m.pc + 1 ∧ x.op ≠ 9 ∨ (x.op = 9 ∨ x.op = 10) ∧ (macDo W x m).2.pc = x.n.toNat := by
  unfold macDo
  by_cases e1 : x.op = 1
  · rw [if_pos e1]; exact .inl ⟨rfl, by omega⟩
  rw [if_neg e1]
  by_cases e2 : x.op = 2
  · rw [if_pos e2]; exact .inl ⟨rfl, by omega⟩
  rw [if_neg e2]
  by_cases e3 : x.op = 3
  · rw [if_pos e3]; exact .inl ⟨rfl, by omega⟩
  rw [if_neg e3]
  by_cases e4 : x.op = 4
  · rw [if_pos e4]; exact .inl ⟨rfl, by omega⟩
  rw [if_neg e4]
  by_cases e5 : x.op = 5
  · rw [if_pos e5]
    by_cases c : cellOk (m.regs x.a.toNat)
    · rw [if_pos c]; exact .inl ⟨rfl, by omega⟩
    · rw [if_neg c]; exact .inl ⟨rfl, by omega⟩
  rw [if_neg e5]
  by_cases e6 : x.op = 6
  · rw [if_pos e6]
    by_cases c : cellOk (m.regs x.a.toNat)
    · rw [if_pos c]; exact .inl ⟨rfl, by omega⟩
    · rw [if_neg c]; exact .inl ⟨rfl, by omega⟩
  rw [if_neg e6]
  by_cases e7 : x.op = 7
  · rw [if_pos e7]; exact .inl ⟨rfl, by omega⟩
  rw [if_neg e7]
  by_cases e8 : x.op = 8
  · rw [if_pos e8]; exact .inl ⟨rfl, by omega⟩
  rw [if_neg e8]
  by_cases e9 : x.op = 9
  · rw [if_pos e9]; exact .inr ⟨.inl e9, rfl⟩
  rw [if_neg e9]
  by_cases e10 : x.op = 10
  · rw [if_pos e10]
    by_cases c : m.regs x.a.toNat = 0
    · rw [if_pos c]; exact .inr ⟨.inr e10, rfl⟩
    · rw [if_neg c]; exact .inl ⟨rfl, by omega⟩
  rw [if_neg e10]
  exact .inl ⟨rfl, e9⟩
/-- It never leaves its code. -/
theorem macDo_stays {W : Int → Int → Int → Int} {l : List InsD} {m : MacS} {x : InsD} (h : machineOkB l = true) (hx : l[m.pc]? = some x) (h11 : x.op ≠ 11) : (macDo W x m).2.pc < l.length := by
  obtain ⟨h1, h2, h3, y, hy, hy2⟩ := machineOkB_parts h
  have hlt : m.pc < l.length := (List.getElem?_eq_some_iff.1 hx).1
  have hok := h3 x (List.mem_of_getElem? hx)
  obtain ⟨_, _, _, _, h4⟩ := stepOkB_parts hok
  have hn9 : x.op = 9 ∨ x.op = 10 → x.n.toNat < l.length := by
    intro e
    have : holdsB 3 x.n l.length = true := by
      rcases e with e | e
      · rw [e] at h4; exact h4
      · rw [e] at h4; exact h4
    simp [holdsB] at this
    omega
  have hnext : x.op ≠ 9 → m.pc + 1 < l.length := by
    intro e
    by_cases e2 : m.pc + 1 < l.length
    · exact e2
    · have e3 : m.pc = l.length - 1 := by omega
      rw [List.getLast?_eq_getElem?] at hy
      rw [e3, hy] at hx
      cases hx
      rcases hy2 with q | q
      · exact absurd q e
      · exact absurd q h11
  rcases macDo_pc W x m with ⟨e, e9⟩ | ⟨e9, e⟩
  · rw [e]; exact hnext e9
  · rw [e]; exact hn9 e9
end Go.Proofs.YtkejplddeelahaaGreatDoor

namespace Go.Proofs.YtkejplddeelahaaGreatDoor
open Go.ChangeShapes Go.WideShapes Go.ChangeAt Go.RowKit
set_option linter.unusedVariables false

/-- A bool is returned; the world only grows. -/
def AnsB (w : World) (b : Bool) (e : Ending) (w' : World) : Prop := e = .returned (.bool b) ∧ Below w.heap.size w w'

/-- The program's table of forms. -/
def FTab (w : World) : Prop := ∀ i : Nat, i < 12 → w.cell? ⟨0, i * 4, none⟩ = some (.int .i64 (formAt i).r) ∧ w.cell? ⟨0, i * 4 + 1, none⟩ = some (.int .i64 (formAt i).a) ∧ w.cell? ⟨0, i * 4 + 2, none⟩ = some (.int .i64 (formAt i).b) ∧ w.cell? ⟨0, i * 4 + 3, none⟩ = some (.int .i64 (formAt i).n)
theorem FTab.keep {w w' : World} (h : FTab w) (hb : Below w.heap.size w w') : FTab w' := fun i hi => by
  obtain ⟨a, b, c, d⟩ := h i hi
  exact ⟨Bel.keeps hb a, Bel.keeps hb b, Bel.keeps hb c, Bel.keeps hb d⟩

theorem isReg_any (x : Int) (w : World) :
    Calls Tryz.prog 168 #[.int .i64 x] w fun e w' => e = .returned (.bool (decide (0 ≤ x) && decide (x < 8))) ∧ w' = w := by
  by_cases a : x ≥ 0
  · have a2 : 0 ≤ x := a
    go_enter Tryz.func168, Tryz.ntmps168
    go_wp2
    go_ret
    exact ⟨by simp [a2], rfl⟩
  · have a2 : ¬ 0 ≤ x := a
    go_enter Tryz.func168, Tryz.ntmps168
    go_wp2
    go_ret
    exact ⟨by simp <;> omega, rfl⟩

theorem holds_any (p x n : Int) (w : World) :
    Calls Tryz.prog 113 #[.int .i64 p, .int .i64 x, .int .i64 n] w fun e w' => e = .returned (.bool (holdsB p x n)) ∧ w' = w := by
  by_cases h1 : p = 1
  · subst h1
    obtain ⟨q, HQ⟩ : ∃ q, Hid ((decide (0 ≤ x) && decide (x < 8)) = q) := ⟨_, rfl⟩
    go_enter Tryz.func113, Tryz.ntmps113
    go_wp2_with fail
    refine (isReg_any x _).mono ?_
    rw [HQ.out]
    rintro e w1 ⟨rfl, hw1⟩
    subst hw1
    go_wp2
    go_ret
    exact ⟨by rw [← HQ.out]; simp [holdsB], rfl⟩
  have e1 : (p == 1) = false := by simpa using h1
  by_cases h2 : p = 2
  · subst h2
    by_cases a : x ≥ 0
    · have a2 : 0 ≤ x := a
      go_enter Tryz.func113, Tryz.ntmps113
      go_wp2
      go_ret
      exact ⟨by simp [holdsB, a2], rfl⟩
    · have a2 : ¬ 0 ≤ x := a
      go_enter Tryz.func113, Tryz.ntmps113
      go_wp2
      go_ret
      exact ⟨by simp [holdsB] <;> omega, rfl⟩
  have e2 : (p == 2) = false := by simpa using h2
  by_cases h3 : p = 3
  · subst h3
    by_cases a : x ≥ 0
    · have a2 : 0 ≤ x := a
      go_enter Tryz.func113, Tryz.ntmps113
      go_wp2
      go_ret
      exact ⟨by simp [holdsB, a2], rfl⟩
    · have a2 : ¬ 0 ≤ x := a
      go_enter Tryz.func113, Tryz.ntmps113
      go_wp2
      go_ret
      exact ⟨by simp [holdsB] <;> omega, rfl⟩
  have e3 : (p == 3) = false := by simpa using h3
  by_cases h4 : p = 4
  · subst h4
    go_enter Tryz.func113, Tryz.ntmps113
    go_wp2
    go_ret
    exact ⟨by simp [holdsB], rfl⟩
  have e4 : (p == 4) = false := by simpa using h4
  go_enter Tryz.func113, Tryz.ntmps113
  go_wp2
  go_ret
  refine ⟨?_, rfl⟩
  by_cases hx : x = 0 <;> simp [holdsB, h1, h2, h3, h4, hx]

/-- A form is returned. -/
def GivesForm (w : World) (op : Int) (e : Ending) (w' : World) : Prop :=
  e = .returned (.tuple #[.agg #[.int .i64 (formV op).r, .int .i64 (formV op).a, .int .i64 (formV op).b, .int .i64 (formV op).n], .bool (formOk op)]) ∧ Below w.heap.size w w'

/-- The number of an op of chapter 1. -/
theorem opWord {op : Int} (hr : -9223372036854775808 ≤ op ∧ op ≤ 9223372036854775807) : wordOkV (IntKind.i64.wrap (op - 11)) = decide (12 ≤ op ∧ op ≤ 21) := by
  have e : IntKind.i64.wrap (op - 11) = if op < -9223372036854775797 then op - 11 + 18446744073709551616 else op - 11 := by
    rw [IntKind.wrap_i64]
    split <;> omega
  rw [e]
  unfold wordOkV
  congr 1
  simp only [eq_iff_iff]
  split <;> omega

set_option maxHeartbeats 1000000 in
theorem formOf_any (op : Int) (w : World) (hr : -9223372036854775808 ≤ op ∧ op ≤ 9223372036854775807) (hT : FTab w) :
    Calls Tryz.prog 71 #[.int .i64 op] w fun e w' => GivesForm w op e w' := by
  have hw := opWord hr
  obtain ⟨y, HY⟩ : ∃ y, Hid (IntKind.i64.wrap (op - 11) = y) := ⟨_, rfl⟩
  rw [HY.out] at hw
  have hy : IntKind.i64.wrap (op - 11) = y := HY.out
  have h0 : 0 < w.heap.size := World.block_lt_of_cell? w _ (hT 0 (by omega)).1
  by_cases h1 : 12 ≤ op ∧ op ≤ 21
  · have hw1 : wordOkV y = true := by rw [hw]; simp [h1.1, h1.2]
    have H1 : Hid (12 ≤ op ∧ op ≤ 21) := h1
    clear h1 hw hT
    go_enter Tryz.func71, Tryz.ntmps71
    go_wp2_with fail
    refine (impl_wordOk y _).mono ?_
    rintro e w1 ⟨rfl, hw1'⟩
    subst hw1'
    rw [hw1]
    go_wp2
    refine bodyPost_ret (v := .tuple #[.agg #[.int .i64 1, .int .i64 1, .int .i64 1, .int .i64 0], .bool true]) (by simp [results, Tryz.results71, go_sem]) rfl ?_
    refine ⟨?_, by repeat (first | exact Below.refl _ _ | apply Below.drew | refine Below.alloc ?_ (by simp <;> omega) _ | refine Below.setCell ?_ (by simp <;> omega) _)⟩
    rw [formV_word H1.out.1 H1.out.2, formOk_yes (by have := H1.out; omega) H1.out.2]
  · have hw1 : wordOkV y = false := by rw [hw]; simpa using h1
    by_cases h2 : 1 ≤ op ∧ op ≤ 11
    · obtain ⟨k, rfl⟩ : ∃ k : Nat, op = (k : Int) := ⟨op.toNat, by omega⟩
      have hlt : ¬ (k : Int) < 1 := by omega
      have hgt : ¬ (11 : Int) < (k : Int) := by omega
      have hk12 : (k : Int) < 12 := by omega
      obtain ⟨c0, c1, c2, c3⟩ := hT k (by omega)
      have HF : Hid (formV (k : Int) = formAt k) := by
        have := formV_tab (op := (k : Int)) (by omega)
        show _ = _
        simpa using this
      obtain ⟨fm, HG⟩ : ∃ f, Hid (formAt k = f) := ⟨_, rfl⟩
      rw [HG.out] at c0 c1 c2 c3
      obtain ⟨f0, f1, f2, f3⟩ := fm
      dsimp only at c0 c1 c2 c3
      have HK : Hid (1 ≤ (k : Int) ∧ (k : Int) ≤ 11) := h2
      clear hT h1 h2 hw hr
      go_enter Tryz.func71, Tryz.ntmps71
      go_wp2_with fail
      refine (impl_wordOk y _).mono ?_
      rintro e w1 ⟨rfl, hw1'⟩
      subst hw1'
      rw [hw1]
      go_wp2
      refine bodyPost_ret (v := .tuple #[.agg #[.int .i64 f0, .int .i64 f1, .int .i64 f2, .int .i64 f3], .bool true]) (by simp [results, Tryz.results71, go_sem]) rfl ?_
      refine ⟨?_, by repeat (first | exact Below.refl _ _ | apply Below.drew | refine Below.alloc ?_ (by simp <;> omega) _ | refine Below.setCell ?_ (by simp <;> omega) _)⟩
      rw [HF.out, HG.out, formOk_yes (by have := HK.out; omega) (by have := HK.out; omega)]
    · have H3 : Hid (op < 1 ∨ 21 < op) := by show _ ∨ _; omega
      have HV : Hid (formV op = ⟨0, 0, 0, 0⟩) := by
        show _ = _
        unfold formV
        rw [if_neg h1]
        have : op.toNat = 0 ∨ 12 ≤ op.toNat := by omega
        unfold formAt
        split <;> first | omega | rfl
      have hout : ¬ op < 1 → (11 : Int) < op := by omega
      clear hT h1 h2 hw hr
      by_cases hlt : op < 1
      · clear hout
        go_enter Tryz.func71, Tryz.ntmps71
        go_wp2_with fail
        refine (impl_wordOk y _).mono ?_
        rintro e w1 ⟨rfl, hw1'⟩
        subst hw1'
        rw [hw1]
        go_wp2
        refine bodyPost_ret (v := .tuple #[.agg #[.int .i64 0, .int .i64 0, .int .i64 0, .int .i64 0], .bool false]) (by simp [results, Tryz.results71, go_sem]) rfl ?_
        refine ⟨?_, by repeat (first | exact Below.refl _ _ | apply Below.drew | refine Below.alloc ?_ (by simp <;> omega) _ | refine Below.setCell ?_ (by simp <;> omega) _)⟩
        rw [HV.out, formOk_no H3.out]
      · have hgt := hout hlt
        clear hout
        go_enter Tryz.func71, Tryz.ntmps71
        go_wp2_with fail
        refine (impl_wordOk y _).mono ?_
        rintro e w1 ⟨rfl, hw1'⟩
        subst hw1'
        rw [hw1]
        go_wp2
        refine bodyPost_ret (v := .tuple #[.agg #[.int .i64 0, .int .i64 0, .int .i64 0, .int .i64 0], .bool false]) (by simp [results, Tryz.results71, go_sem]) rfl ?_
        refine ⟨?_, by repeat (first | exact Below.refl _ _ | apply Below.drew | refine Below.alloc ?_ (by simp <;> omega) _ | refine Below.setCell ?_ (by simp <;> omega) _)⟩
        rw [HV.out, formOk_no H3.out]

set_option maxHeartbeats 2000000 in
theorem impl_stepOk (op d a b n len : Int) (w : World) (hr : -9223372036854775808 ≤ op ∧ op ≤ 9223372036854775807) (hT : FTab w) :
    Calls Tryz.prog 58 #[.agg #[.int .i64 op, .int .i64 d, .int .i64 a, .int .i64 b, .int .i64 n], .int .i64 len] w fun e w' => AnsB w (stepOkB ⟨op, d, a, b, n⟩ len) e w' := by
  have HS : Hid (stepOkB ⟨op, d, a, b, n⟩ len = (formOk op && (holdsB (formV op).r d len && (holdsB (formV op).a a len && (holdsB (formV op).b b len && holdsB (formV op).n n len))))) := rfl
  rw [HS.out]
  clear HS
  have HT : Hid (FTab w) := hT
  have HO : Hid (-9223372036854775808 ≤ op ∧ op ≤ 9223372036854775807) := hr
  clear hT hr
  obtain ⟨ok, HK⟩ : ∃ ok, Hid (formOk op = ok) := ⟨_, rfl⟩
  obtain ⟨fm, HF⟩ : ∃ f, Hid (formV op = f) := ⟨_, rfl⟩
  obtain ⟨f0, f1, f2, f3⟩ := fm
  rw [HK.out, HF.out]
  obtain ⟨p0, P0⟩ : ∃ p, Hid (holdsB f0 d len = p) := ⟨_, rfl⟩
  obtain ⟨p1, P1⟩ : ∃ p, Hid (holdsB f1 a len = p) := ⟨_, rfl⟩
  obtain ⟨p2, P2⟩ : ∃ p, Hid (holdsB f2 b len = p) := ⟨_, rfl⟩
  obtain ⟨p3, P3⟩ : ∃ p, Hid (holdsB f3 n len = p) := ⟨_, rfl⟩
  dsimp only
  rw [P0.out, P1.out, P2.out, P3.out]
  go_enter Tryz.func58, Tryz.ntmps58
  go_wp2_with fail
  refine (formOf_any op _ HO.out (HT.out.keep (Bel.alloc _ _))).mono ?_
  rintro e w1 ⟨rfl, b1⟩
  obtain ⟨c0, c1, c2, c3, c4⟩ := (insBox_new w _ op d a b n).keep b1
  have HB : Hid (Below w.heap.size w w1) := Bel.after (Bel.alloc _ _) b1
  have hlt : w.heap.size < w1.heap.size := by have := b1.size; simp at this; omega
  clear b1
  rw [HK.out, HF.out]
  dsimp only
  cases ok with
  | false =>
    go_wp2
    go_ret
    exact ⟨rfl, HB.out.alloc (Nat.le_of_lt hlt) _⟩
  | true =>
    go_wp2_with fail
    refine (holds_any f0 d len _).mono ?_
    rintro e w2 ⟨rfl, hw2⟩
    subst hw2
    rw [P0.out]
    cases p0 with
    | false =>
      go_wp2
      go_ret
      exact ⟨rfl, HB.out.alloc (Nat.le_of_lt hlt) _⟩
    | true =>
      go_wp2_with fail
      refine (holds_any f1 a len _).mono ?_
      rintro e w2 ⟨rfl, hw2⟩
      subst hw2
      rw [P1.out]
      cases p1 with
      | false =>
        go_wp2
        go_ret
        exact ⟨rfl, HB.out.alloc (Nat.le_of_lt hlt) _⟩
      | true =>
        go_wp2_with fail
        refine (holds_any f2 b len _).mono ?_
        rintro e w2 ⟨rfl, hw2⟩
        subst hw2
        rw [P2.out]
        cases p2 with
        | false =>
          go_wp2
          go_ret
          exact ⟨rfl, HB.out.alloc (Nat.le_of_lt hlt) _⟩
        | true =>
          go_wp2_with fail
          refine (holds_any f3 n len _).mono ?_
          rintro e w2 ⟨rfl, hw2⟩
          subst hw2
          rw [P3.out]
          go_wp2
          go_ret
          exact ⟨rfl, HB.out.alloc (Nat.le_of_lt hlt) _⟩

theorem l14Reg_any (x : Int) (w : World) :
    Calls Tryz.prog 117 #[.int .i64 x] w fun e w' => e = .returned (.bool (decide (0 ≤ x) && decide (x ≤ 7))) ∧ w' = w := by
  go_enter Tryz.func117, Tryz.ntmps117
  go_wp2_with fail
  refine (l1In_any x 0 7 _).mono ?_
  rintro e w1 ⟨rfl, hw1⟩
  subst hw1
  go_wp2
  go_ret
  exact ⟨rfl, rfl⟩

/-- The model's test, by the kind of op, where the registers are right. -/
def specOk (op d a b n len : Int) : Bool :=
  if op = 1 then decide (a = 0) && decide (b = 0)
  else if op = 2 ∨ op = 5 then decide (b = 0) && decide (n = 0)
  else if op = 3 then (decide (0 ≤ n) && decide (n ≤ 39)) && (decide (a = 0) && decide (b = 0))
  else if op = 4 then (decide (0 ≤ n) && decide (n ≤ 39)) && (decide (d = 0) && decide (b = 0))
  else if op = 6 then decide (d = 0) && decide (n = 0)
  else if op = 7 ∨ op = 11 then decide (d = 0) && (decide (b = 0) && decide (n = 0))
  else if op = 8 then decide (a = 0) && (decide (b = 0) && decide (n = 0))
  else if op = 9 then (decide (0 ≤ n) && decide (n < len)) && (decide (d = 0) && (decide (a = 0) && decide (b = 0)))
  else if op = 10 then (decide (0 ≤ n) && decide (n < len)) && (decide (d = 0) && decide (b = 0))
  else decide (12 ≤ op ∧ op ≤ 21) && decide (n = 0)
theorem specOk_is (op d a b n len : Int) (hd : 0 ≤ d ∧ d ≤ 7) (ha : 0 ≤ a ∧ a ≤ 7) (hb : 0 ≤ b ∧ b ≤ 7) : stepOkB ⟨op, d, a, b, n⟩ len = specOk op d a b n len := by
  have reg : ∀ x : Int, 0 ≤ x ∧ x ≤ 7 → holdsB 1 x len = true := fun x hx => by simp [holdsB]; omega
  have nul : ∀ x : Int, holdsB 0 x len = decide (x = 0) := fun x => by simp [holdsB]
  have slot : ∀ x : Int, holdsB 2 x len = (decide (0 ≤ x) && decide (x ≤ 39)) := fun x => by
    simp only [holdsB]
    by_cases h : x ≤ 39
    · have : x < 40 := by omega
      simp [h, this]
    · have : ¬ x < 40 := by omega
      simp [h, this]
  have place : ∀ x : Int, holdsB 3 x len = (decide (0 ≤ x) && decide (x < len)) := fun x => by simp [holdsB]
  have num : ∀ x : Int, holdsB 4 x len = true := fun x => by simp [holdsB]
  unfold stepOkB
  dsimp only
  rcases op_kinds op with rfl | rfl | rfl | rfl | rfl | rfl | rfl | rfl | rfl | rfl | rfl | h | h
  · show (true && (holdsB 1 d len && (holdsB 0 a len && (holdsB 0 b len && holdsB 4 n len)))) = (decide (a = 0) && decide (b = 0))
    rw [reg d hd, nul a, nul b, num n]
    generalize decide (d = 0) = z1
    generalize decide (a = 0) = z2
    generalize decide (b = 0) = z3
    generalize decide (n = 0) = z4
    generalize decide (0 ≤ n) = z5
    generalize decide (n ≤ 39) = z6
    generalize decide (n < len) = z7
    cases z1 <;> cases z2 <;> cases z3 <;> cases z4 <;> cases z5 <;> cases z6 <;> cases z7 <;> rfl
  · show (true && (holdsB 1 d len && (holdsB 1 a len && (holdsB 0 b len && holdsB 0 n len)))) = (decide (b = 0) && decide (n = 0))
    rw [reg d hd, reg a ha, nul b, nul n]
    generalize decide (d = 0) = z1
    generalize decide (a = 0) = z2
    generalize decide (b = 0) = z3
    generalize decide (n = 0) = z4
    generalize decide (0 ≤ n) = z5
    generalize decide (n ≤ 39) = z6
    generalize decide (n < len) = z7
    cases z1 <;> cases z2 <;> cases z3 <;> cases z4 <;> cases z5 <;> cases z6 <;> cases z7 <;> rfl
  · show (true && (holdsB 1 d len && (holdsB 0 a len && (holdsB 0 b len && holdsB 2 n len)))) = ((decide (0 ≤ n) && decide (n ≤ 39)) && (decide (a = 0) && decide (b = 0)))
    rw [reg d hd, nul a, nul b, slot n]
    generalize decide (d = 0) = z1
    generalize decide (a = 0) = z2
    generalize decide (b = 0) = z3
    generalize decide (n = 0) = z4
    generalize decide (0 ≤ n) = z5
    generalize decide (n ≤ 39) = z6
    generalize decide (n < len) = z7
    cases z1 <;> cases z2 <;> cases z3 <;> cases z4 <;> cases z5 <;> cases z6 <;> cases z7 <;> rfl
  · show (true && (holdsB 0 d len && (holdsB 1 a len && (holdsB 0 b len && holdsB 2 n len)))) = ((decide (0 ≤ n) && decide (n ≤ 39)) && (decide (d = 0) && decide (b = 0)))
    rw [nul d, reg a ha, nul b, slot n]
    generalize decide (d = 0) = z1
    generalize decide (a = 0) = z2
    generalize decide (b = 0) = z3
    generalize decide (n = 0) = z4
    generalize decide (0 ≤ n) = z5
    generalize decide (n ≤ 39) = z6
    generalize decide (n < len) = z7
    cases z1 <;> cases z2 <;> cases z3 <;> cases z4 <;> cases z5 <;> cases z6 <;> cases z7 <;> rfl
  · show (true && (holdsB 1 d len && (holdsB 1 a len && (holdsB 0 b len && holdsB 0 n len)))) = (decide (b = 0) && decide (n = 0))
    rw [reg d hd, reg a ha, nul b, nul n]
    generalize decide (d = 0) = z1
    generalize decide (a = 0) = z2
    generalize decide (b = 0) = z3
    generalize decide (n = 0) = z4
    generalize decide (0 ≤ n) = z5
    generalize decide (n ≤ 39) = z6
    generalize decide (n < len) = z7
    cases z1 <;> cases z2 <;> cases z3 <;> cases z4 <;> cases z5 <;> cases z6 <;> cases z7 <;> rfl
  · show (true && (holdsB 0 d len && (holdsB 1 a len && (holdsB 1 b len && holdsB 0 n len)))) = (decide (d = 0) && decide (n = 0))
    rw [nul d, reg a ha, reg b hb, nul n]
    generalize decide (d = 0) = z1
    generalize decide (a = 0) = z2
    generalize decide (b = 0) = z3
    generalize decide (n = 0) = z4
    generalize decide (0 ≤ n) = z5
    generalize decide (n ≤ 39) = z6
    generalize decide (n < len) = z7
    cases z1 <;> cases z2 <;> cases z3 <;> cases z4 <;> cases z5 <;> cases z6 <;> cases z7 <;> rfl
  · show (true && (holdsB 0 d len && (holdsB 1 a len && (holdsB 0 b len && holdsB 0 n len)))) = (decide (d = 0) && (decide (b = 0) && decide (n = 0)))
    rw [nul d, reg a ha, nul b, nul n]
    generalize decide (d = 0) = z1
    generalize decide (a = 0) = z2
    generalize decide (b = 0) = z3
    generalize decide (n = 0) = z4
    generalize decide (0 ≤ n) = z5
    generalize decide (n ≤ 39) = z6
    generalize decide (n < len) = z7
    cases z1 <;> cases z2 <;> cases z3 <;> cases z4 <;> cases z5 <;> cases z6 <;> cases z7 <;> rfl
  · show (true && (holdsB 1 d len && (holdsB 0 a len && (holdsB 0 b len && holdsB 0 n len)))) = (decide (a = 0) && (decide (b = 0) && decide (n = 0)))
    rw [reg d hd, nul a, nul b, nul n]
    generalize decide (d = 0) = z1
    generalize decide (a = 0) = z2
    generalize decide (b = 0) = z3
    generalize decide (n = 0) = z4
    generalize decide (0 ≤ n) = z5
    generalize decide (n ≤ 39) = z6
    generalize decide (n < len) = z7
    cases z1 <;> cases z2 <;> cases z3 <;> cases z4 <;> cases z5 <;> cases z6 <;> cases z7 <;> rfl
  · show (true && (holdsB 0 d len && (holdsB 0 a len && (holdsB 0 b len && holdsB 3 n len)))) = ((decide (0 ≤ n) && decide (n < len)) && (decide (d = 0) && (decide (a = 0) && decide (b = 0))))
    rw [nul d, nul a, nul b, place n]
    generalize decide (d = 0) = z1
    generalize decide (a = 0) = z2
    generalize decide (b = 0) = z3
    generalize decide (n = 0) = z4
    generalize decide (0 ≤ n) = z5
    generalize decide (n ≤ 39) = z6
    generalize decide (n < len) = z7
    cases z1 <;> cases z2 <;> cases z3 <;> cases z4 <;> cases z5 <;> cases z6 <;> cases z7 <;> rfl
  · show (true && (holdsB 0 d len && (holdsB 1 a len && (holdsB 0 b len && holdsB 3 n len)))) = ((decide (0 ≤ n) && decide (n < len)) && (decide (d = 0) && decide (b = 0)))
    rw [nul d, reg a ha, nul b, place n]
    generalize decide (d = 0) = z1
    generalize decide (a = 0) = z2
    generalize decide (b = 0) = z3
    generalize decide (n = 0) = z4
    generalize decide (0 ≤ n) = z5
    generalize decide (n ≤ 39) = z6
    generalize decide (n < len) = z7
    cases z1 <;> cases z2 <;> cases z3 <;> cases z4 <;> cases z5 <;> cases z6 <;> cases z7 <;> rfl
  · show (true && (holdsB 0 d len && (holdsB 1 a len && (holdsB 0 b len && holdsB 0 n len)))) = (decide (d = 0) && (decide (b = 0) && decide (n = 0)))
    rw [nul d, reg a ha, nul b, nul n]
    generalize decide (d = 0) = z1
    generalize decide (a = 0) = z2
    generalize decide (b = 0) = z3
    generalize decide (n = 0) = z4
    generalize decide (0 ≤ n) = z5
    generalize decide (n ≤ 39) = z6
    generalize decide (n < len) = z7
    cases z1 <;> cases z2 <;> cases z3 <;> cases z4 <;> cases z5 <;> cases z6 <;> cases z7 <;> rfl
  · rw [formV_word h.1 h.2, formOk_yes (by omega) h.2]
    unfold specOk
    rw [if_neg (by omega), if_neg (by omega), if_neg (by omega), if_neg (by omega), if_neg (by omega), if_neg (by omega), if_neg (by omega), if_neg (by omega), if_neg (by omega)]
    simp [reg d hd, reg a ha, reg b hb, nul, h.1, h.2]
  · rw [formOk_no h]
    unfold specOk
    rw [if_neg (by omega), if_neg (by omega), if_neg (by omega), if_neg (by omega), if_neg (by omega), if_neg (by omega), if_neg (by omega), if_neg (by omega), if_neg (by omega)]
    simp
    omega

theorem retB {x y : Bool} (h : x = y) : Ending.returned (.bool x) = .returned (.bool y) := by rw [h]

set_option maxRecDepth 100000 in
set_option maxHeartbeats 8000000 in
theorem spec_stepOk (op d a b n len : Int) (w : World) (hr : -9223372036854775808 ≤ op ∧ op ≤ 9223372036854775807) :
    Calls Tryz.prog 65 #[.agg #[.int .i64 op, .int .i64 d, .int .i64 a, .int .i64 b, .int .i64 n], .int .i64 len] w fun e w' => AnsB w (stepOkB ⟨op, d, a, b, n⟩ len) e w' := by
  have HO : Hid (-9223372036854775808 ≤ op ∧ op ≤ 9223372036854775807) := hr
  clear hr
  obtain ⟨rd, RD⟩ : ∃ r, Hid ((decide (0 ≤ d) && decide (d ≤ 7)) = r) := ⟨_, rfl⟩
  obtain ⟨ra, RA⟩ : ∃ r, Hid ((decide (0 ≤ a) && decide (a ≤ 7)) = r) := ⟨_, rfl⟩
  obtain ⟨rb, RB⟩ : ∃ r, Hid ((decide (0 ≤ b) && decide (b ≤ 7)) = r) := ⟨_, rfl⟩
  obtain ⟨sl, SL⟩ : ∃ r, Hid ((decide (0 ≤ n) && decide (n ≤ 39)) = r) := ⟨_, rfl⟩
  go_enter Tryz.func65, Tryz.ntmps65
  go_wp2_with fail
  refine (l14Reg_any d _).mono ?_
  rintro e w1 ⟨rfl, hw1⟩
  subst hw1
  rw [RD.out]
  cases rd with
  | false =>
    go_wp2
    go_ret
    refine ⟨retB ?_, by repeat (first | exact Below.refl _ _ | apply Below.drew | refine Below.alloc ?_ (by simp <;> omega) _ | refine Below.setCell ?_ (by simp <;> omega) _)⟩
    rw [stepOkB_noreg]
    rintro ⟨h1, h2, h3⟩
    have := RD.out
    simp at this
    dsimp only at h1 h2 h3
    omega
  | true =>
    go_wp2_with fail
    refine (l14Reg_any a _).mono ?_
    rintro e w1 ⟨rfl, hw1⟩
    subst hw1
    rw [RA.out]
    cases ra with
    | false =>
      go_wp2
      go_ret
      refine ⟨retB ?_, by repeat (first | exact Below.refl _ _ | apply Below.drew | refine Below.alloc ?_ (by simp <;> omega) _ | refine Below.setCell ?_ (by simp <;> omega) _)⟩
      rw [stepOkB_noreg]
      rintro ⟨h1, h2, h3⟩
      have := RA.out
      simp at this
      dsimp only at h1 h2 h3
      omega
    | true =>
      go_wp2_with fail
      refine (l14Reg_any b _).mono ?_
      rintro e w1 ⟨rfl, hw1⟩
      subst hw1
      rw [RB.out]
      cases rb with
      | false =>
        go_wp2
        go_ret
        refine ⟨retB ?_, by repeat (first | exact Below.refl _ _ | apply Below.drew | refine Below.alloc ?_ (by simp <;> omega) _ | refine Below.setCell ?_ (by simp <;> omega) _)⟩
        rw [stepOkB_noreg]
        rintro ⟨h1, h2, h3⟩
        have := RB.out
        simp at this
        dsimp only at h1 h2 h3
        omega
      | true =>
        have HI : Hid (stepOkB ⟨op, d, a, b, n⟩ len = specOk op d a b n len) := specOk_is op d a b n len (by have := RD.out; simp at this; omega) (by have := RA.out; simp at this; omega) (by have := RB.out; simp at this; omega)
        clear RD RA RB
        go_wp2_with fail
        refine (l1In_any n 0 39 _).mono ?_
        rintro e w1 ⟨rfl, hw1⟩
        subst hw1
        rw [SL.out]
        by_cases hn0 : n ≥ 0
        · rcases op_kinds op with rfl | rfl | rfl | rfl | rfl | rfl | rfl | rfl | rfl | rfl | rfl | h | h
          · have HS : Hid (stepOkB ⟨1, d, a, b, n⟩ len = (decide (a = 0) && decide (b = 0))) := HI.out.trans rfl
            by_cases za : a = 0
            · subst za
              go_wp2
              go_ret
              exact ⟨retB (by rw [HS.out, Bool.eq_iff_iff]; simp <;> omega), by repeat (first | exact Below.refl _ _ | apply Below.drew | refine Below.alloc ?_ (by simp <;> omega) _ | refine Below.setCell ?_ (by simp <;> omega) _)⟩
            · have ea : (a == 0) = false := by simpa using za
              go_wp2
              go_ret
              exact ⟨retB (by rw [HS.out, Bool.eq_iff_iff]; simp <;> omega), by repeat (first | exact Below.refl _ _ | apply Below.drew | refine Below.alloc ?_ (by simp <;> omega) _ | refine Below.setCell ?_ (by simp <;> omega) _)⟩
          · have HS : Hid (stepOkB ⟨2, d, a, b, n⟩ len = (decide (b = 0) && decide (n = 0))) := HI.out.trans rfl
            by_cases zb : b = 0
            · subst zb
              go_wp2
              go_ret
              exact ⟨retB (by rw [HS.out, Bool.eq_iff_iff]; simp <;> omega), by repeat (first | exact Below.refl _ _ | apply Below.drew | refine Below.alloc ?_ (by simp <;> omega) _ | refine Below.setCell ?_ (by simp <;> omega) _)⟩
            · have eb : (b == 0) = false := by simpa using zb
              go_wp2
              go_ret
              exact ⟨retB (by rw [HS.out, Bool.eq_iff_iff]; simp <;> omega), by repeat (first | exact Below.refl _ _ | apply Below.drew | refine Below.alloc ?_ (by simp <;> omega) _ | refine Below.setCell ?_ (by simp <;> omega) _)⟩
          · have HS : Hid (stepOkB ⟨3, d, a, b, n⟩ len = ((decide (0 ≤ n) && decide (n ≤ 39)) && (decide (a = 0) && decide (b = 0)))) := HI.out.trans rfl
            cases sl with
            | false =>
              go_wp2
              go_ret
              exact ⟨retB (by rw [HS.out, SL.out, Bool.eq_iff_iff]; simp <;> omega), by repeat (first | exact Below.refl _ _ | apply Below.drew | refine Below.alloc ?_ (by simp <;> omega) _ | refine Below.setCell ?_ (by simp <;> omega) _)⟩
            | true =>
              by_cases za : a = 0
              · subst za
                go_wp2
                go_ret
                exact ⟨retB (by rw [HS.out, SL.out, Bool.eq_iff_iff]; simp <;> omega), by repeat (first | exact Below.refl _ _ | apply Below.drew | refine Below.alloc ?_ (by simp <;> omega) _ | refine Below.setCell ?_ (by simp <;> omega) _)⟩
              · have ea : (a == 0) = false := by simpa using za
                go_wp2
                go_ret
                exact ⟨retB (by rw [HS.out, SL.out, Bool.eq_iff_iff]; simp <;> omega), by repeat (first | exact Below.refl _ _ | apply Below.drew | refine Below.alloc ?_ (by simp <;> omega) _ | refine Below.setCell ?_ (by simp <;> omega) _)⟩
          · have HS : Hid (stepOkB ⟨4, d, a, b, n⟩ len = ((decide (0 ≤ n) && decide (n ≤ 39)) && (decide (d = 0) && decide (b = 0)))) := HI.out.trans rfl
            cases sl with
            | false =>
              go_wp2
              go_ret
              exact ⟨retB (by rw [HS.out, SL.out, Bool.eq_iff_iff]; simp <;> omega), by repeat (first | exact Below.refl _ _ | apply Below.drew | refine Below.alloc ?_ (by simp <;> omega) _ | refine Below.setCell ?_ (by simp <;> omega) _)⟩
            | true =>
              by_cases zd : d = 0
              · subst zd
                go_wp2
                go_ret
                exact ⟨retB (by rw [HS.out, SL.out, Bool.eq_iff_iff]; simp <;> omega), by repeat (first | exact Below.refl _ _ | apply Below.drew | refine Below.alloc ?_ (by simp <;> omega) _ | refine Below.setCell ?_ (by simp <;> omega) _)⟩
              · have ed : (d == 0) = false := by simpa using zd
                go_wp2
                go_ret
                exact ⟨retB (by rw [HS.out, SL.out, Bool.eq_iff_iff]; simp <;> omega), by repeat (first | exact Below.refl _ _ | apply Below.drew | refine Below.alloc ?_ (by simp <;> omega) _ | refine Below.setCell ?_ (by simp <;> omega) _)⟩
          · have HS : Hid (stepOkB ⟨5, d, a, b, n⟩ len = (decide (b = 0) && decide (n = 0))) := HI.out.trans rfl
            by_cases zb : b = 0
            · subst zb
              go_wp2
              go_ret
              exact ⟨retB (by rw [HS.out, Bool.eq_iff_iff]; simp <;> omega), by repeat (first | exact Below.refl _ _ | apply Below.drew | refine Below.alloc ?_ (by simp <;> omega) _ | refine Below.setCell ?_ (by simp <;> omega) _)⟩
            · have eb : (b == 0) = false := by simpa using zb
              go_wp2
              go_ret
              exact ⟨retB (by rw [HS.out, Bool.eq_iff_iff]; simp <;> omega), by repeat (first | exact Below.refl _ _ | apply Below.drew | refine Below.alloc ?_ (by simp <;> omega) _ | refine Below.setCell ?_ (by simp <;> omega) _)⟩
          · have HS : Hid (stepOkB ⟨6, d, a, b, n⟩ len = (decide (d = 0) && decide (n = 0))) := HI.out.trans rfl
            by_cases zd : d = 0
            · subst zd
              go_wp2
              go_ret
              exact ⟨retB (by rw [HS.out, Bool.eq_iff_iff]; simp <;> omega), by repeat (first | exact Below.refl _ _ | apply Below.drew | refine Below.alloc ?_ (by simp <;> omega) _ | refine Below.setCell ?_ (by simp <;> omega) _)⟩
            · have ed : (d == 0) = false := by simpa using zd
              go_wp2
              go_ret
              exact ⟨retB (by rw [HS.out, Bool.eq_iff_iff]; simp <;> omega), by repeat (first | exact Below.refl _ _ | apply Below.drew | refine Below.alloc ?_ (by simp <;> omega) _ | refine Below.setCell ?_ (by simp <;> omega) _)⟩
          · have HS : Hid (stepOkB ⟨7, d, a, b, n⟩ len = (decide (d = 0) && (decide (b = 0) && decide (n = 0)))) := HI.out.trans rfl
            by_cases zd : d = 0
            · subst zd
              by_cases zb : b = 0
              · subst zb
                go_wp2
                go_ret
                exact ⟨retB (by rw [HS.out, Bool.eq_iff_iff]; simp <;> omega), by repeat (first | exact Below.refl _ _ | apply Below.drew | refine Below.alloc ?_ (by simp <;> omega) _ | refine Below.setCell ?_ (by simp <;> omega) _)⟩
              · have eb : (b == 0) = false := by simpa using zb
                go_wp2
                go_ret
                exact ⟨retB (by rw [HS.out, Bool.eq_iff_iff]; simp <;> omega), by repeat (first | exact Below.refl _ _ | apply Below.drew | refine Below.alloc ?_ (by simp <;> omega) _ | refine Below.setCell ?_ (by simp <;> omega) _)⟩
            · have ed : (d == 0) = false := by simpa using zd
              go_wp2
              go_ret
              exact ⟨retB (by rw [HS.out, Bool.eq_iff_iff]; simp <;> omega), by repeat (first | exact Below.refl _ _ | apply Below.drew | refine Below.alloc ?_ (by simp <;> omega) _ | refine Below.setCell ?_ (by simp <;> omega) _)⟩
          · have HS : Hid (stepOkB ⟨8, d, a, b, n⟩ len = (decide (a = 0) && (decide (b = 0) && decide (n = 0)))) := HI.out.trans rfl
            by_cases za : a = 0
            · subst za
              by_cases zb : b = 0
              · subst zb
                go_wp2
                go_ret
                exact ⟨retB (by rw [HS.out, Bool.eq_iff_iff]; simp <;> omega), by repeat (first | exact Below.refl _ _ | apply Below.drew | refine Below.alloc ?_ (by simp <;> omega) _ | refine Below.setCell ?_ (by simp <;> omega) _)⟩
              · have eb : (b == 0) = false := by simpa using zb
                go_wp2
                go_ret
                exact ⟨retB (by rw [HS.out, Bool.eq_iff_iff]; simp <;> omega), by repeat (first | exact Below.refl _ _ | apply Below.drew | refine Below.alloc ?_ (by simp <;> omega) _ | refine Below.setCell ?_ (by simp <;> omega) _)⟩
            · have ea : (a == 0) = false := by simpa using za
              go_wp2
              go_ret
              exact ⟨retB (by rw [HS.out, Bool.eq_iff_iff]; simp <;> omega), by repeat (first | exact Below.refl _ _ | apply Below.drew | refine Below.alloc ?_ (by simp <;> omega) _ | refine Below.setCell ?_ (by simp <;> omega) _)⟩
          · have HS : Hid (stepOkB ⟨9, d, a, b, n⟩ len = ((decide (0 ≤ n) && decide (n < len)) && (decide (d = 0) && (decide (a = 0) && decide (b = 0))))) := HI.out.trans rfl
            by_cases hpl : n < len
            · by_cases zd : d = 0
              · subst zd
                by_cases za : a = 0
                · subst za
                  go_wp2
                  go_ret
                  exact ⟨retB (by rw [HS.out, Bool.eq_iff_iff]; simp <;> omega), by repeat (first | exact Below.refl _ _ | apply Below.drew | refine Below.alloc ?_ (by simp <;> omega) _ | refine Below.setCell ?_ (by simp <;> omega) _)⟩
                · have ea : (a == 0) = false := by simpa using za
                  go_wp2
                  go_ret
                  exact ⟨retB (by rw [HS.out, Bool.eq_iff_iff]; simp <;> omega), by repeat (first | exact Below.refl _ _ | apply Below.drew | refine Below.alloc ?_ (by simp <;> omega) _ | refine Below.setCell ?_ (by simp <;> omega) _)⟩
              · have ed : (d == 0) = false := by simpa using zd
                go_wp2
                go_ret
                exact ⟨retB (by rw [HS.out, Bool.eq_iff_iff]; simp <;> omega), by repeat (first | exact Below.refl _ _ | apply Below.drew | refine Below.alloc ?_ (by simp <;> omega) _ | refine Below.setCell ?_ (by simp <;> omega) _)⟩
            · go_wp2
              go_ret
              exact ⟨retB (by rw [HS.out, Bool.eq_iff_iff]; simp <;> omega), by repeat (first | exact Below.refl _ _ | apply Below.drew | refine Below.alloc ?_ (by simp <;> omega) _ | refine Below.setCell ?_ (by simp <;> omega) _)⟩
          · have HS : Hid (stepOkB ⟨10, d, a, b, n⟩ len = ((decide (0 ≤ n) && decide (n < len)) && (decide (d = 0) && decide (b = 0)))) := HI.out.trans rfl
            by_cases hpl : n < len
            · by_cases zd : d = 0
              · subst zd
                go_wp2
                go_ret
                exact ⟨retB (by rw [HS.out, Bool.eq_iff_iff]; simp <;> omega), by repeat (first | exact Below.refl _ _ | apply Below.drew | refine Below.alloc ?_ (by simp <;> omega) _ | refine Below.setCell ?_ (by simp <;> omega) _)⟩
              · have ed : (d == 0) = false := by simpa using zd
                go_wp2
                go_ret
                exact ⟨retB (by rw [HS.out, Bool.eq_iff_iff]; simp <;> omega), by repeat (first | exact Below.refl _ _ | apply Below.drew | refine Below.alloc ?_ (by simp <;> omega) _ | refine Below.setCell ?_ (by simp <;> omega) _)⟩
            · go_wp2
              go_ret
              exact ⟨retB (by rw [HS.out, Bool.eq_iff_iff]; simp <;> omega), by repeat (first | exact Below.refl _ _ | apply Below.drew | refine Below.alloc ?_ (by simp <;> omega) _ | refine Below.setCell ?_ (by simp <;> omega) _)⟩
          · have HS : Hid (stepOkB ⟨11, d, a, b, n⟩ len = (decide (d = 0) && (decide (b = 0) && decide (n = 0)))) := HI.out.trans rfl
            by_cases zd : d = 0
            · subst zd
              by_cases zb : b = 0
              · subst zb
                go_wp2
                go_ret
                exact ⟨retB (by rw [HS.out, Bool.eq_iff_iff]; simp <;> omega), by repeat (first | exact Below.refl _ _ | apply Below.drew | refine Below.alloc ?_ (by simp <;> omega) _ | refine Below.setCell ?_ (by simp <;> omega) _)⟩
              · have eb : (b == 0) = false := by simpa using zb
                go_wp2
                go_ret
                exact ⟨retB (by rw [HS.out, Bool.eq_iff_iff]; simp <;> omega), by repeat (first | exact Below.refl _ _ | apply Below.drew | refine Below.alloc ?_ (by simp <;> omega) _ | refine Below.setCell ?_ (by simp <;> omega) _)⟩
            · have ed : (d == 0) = false := by simpa using zd
              go_wp2
              go_ret
              exact ⟨retB (by rw [HS.out, Bool.eq_iff_iff]; simp <;> omega), by repeat (first | exact Below.refl _ _ | apply Below.drew | refine Below.alloc ?_ (by simp <;> omega) _ | refine Below.setCell ?_ (by simp <;> omega) _)⟩
          · have HS : Hid (stepOkB ⟨op, d, a, b, n⟩ len = (decide (12 ≤ op ∧ op ≤ 21) && decide (n = 0))) := by
              refine HI.out.trans ?_
              unfold specOk
              rw [if_neg (by omega), if_neg (by omega), if_neg (by omega), if_neg (by omega), if_neg (by omega), if_neg (by omega), if_neg (by omega), if_neg (by omega), if_neg (by omega)]
            have HW : Hid (wordOkV (IntKind.i64.wrap (op - 11)) = decide (12 ≤ op ∧ op ≤ 21)) := opWord HO.out
            obtain ⟨y, HY⟩ : ∃ y, Hid (IntKind.i64.wrap (op - 11) = y) := ⟨_, rfl⟩
            have hy : IntKind.i64.wrap (op - 11) = y := HY.out
            have HW2 : Hid (wordOkV y = true) := by
              show _ = _
              rw [← HY.out, HW.out]
              simp
              omega
            have q1 : (op == 1) = false := by simp; omega
            have q2 : (op == 2) = false := by simp; omega
            have q3 : (op == 3) = false := by simp; omega
            have q4 : (op == 4) = false := by simp; omega
            have q5 : (op == 5) = false := by simp; omega
            have q6 : (op == 6) = false := by simp; omega
            have q7 : (op == 7) = false := by simp; omega
            have q8 : (op == 8) = false := by simp; omega
            have q9 : (op == 9) = false := by simp; omega
            have q10 : (op == 10) = false := by simp; omega
            have q11 : (op == 11) = false := by simp; omega
            have HH : Hid (12 ≤ op ∧ op ≤ 21) := h
            clear h HW
            go_wp2_with fail
            refine (spec_wordOk y _).mono ?_
            rintro e w1 ⟨rfl, hw1⟩
            subst hw1
            rw [HW2.out]
            go_wp2
            go_ret
            exact ⟨retB (by have := HH.out; rw [HS.out, Bool.eq_iff_iff]; simp <;> omega), by repeat (first | exact Below.refl _ _ | apply Below.drew | refine Below.alloc ?_ (by simp <;> omega) _ | refine Below.setCell ?_ (by simp <;> omega) _)⟩
          · have HS : Hid (stepOkB ⟨op, d, a, b, n⟩ len = (decide (12 ≤ op ∧ op ≤ 21) && decide (n = 0))) := by
              refine HI.out.trans ?_
              unfold specOk
              rw [if_neg (by omega), if_neg (by omega), if_neg (by omega), if_neg (by omega), if_neg (by omega), if_neg (by omega), if_neg (by omega), if_neg (by omega), if_neg (by omega)]
            have HW : Hid (wordOkV (IntKind.i64.wrap (op - 11)) = decide (12 ≤ op ∧ op ≤ 21)) := opWord HO.out
            obtain ⟨y, HY⟩ : ∃ y, Hid (IntKind.i64.wrap (op - 11) = y) := ⟨_, rfl⟩
            have hy : IntKind.i64.wrap (op - 11) = y := HY.out
            have HW2 : Hid (wordOkV y = false) := by
              show _ = _
              rw [← HY.out, HW.out]
              simp
              omega
            have q1 : (op == 1) = false := by simp; omega
            have q2 : (op == 2) = false := by simp; omega
            have q3 : (op == 3) = false := by simp; omega
            have q4 : (op == 4) = false := by simp; omega
            have q5 : (op == 5) = false := by simp; omega
            have q6 : (op == 6) = false := by simp; omega
            have q7 : (op == 7) = false := by simp; omega
            have q8 : (op == 8) = false := by simp; omega
            have q9 : (op == 9) = false := by simp; omega
            have q10 : (op == 10) = false := by simp; omega
            have q11 : (op == 11) = false := by simp; omega
            have HH : Hid (op < 1 ∨ 21 < op) := h
            clear h HW
            go_wp2_with fail
            refine (spec_wordOk y _).mono ?_
            rintro e w1 ⟨rfl, hw1⟩
            subst hw1
            rw [HW2.out]
            go_wp2
            go_ret
            exact ⟨retB (by have := HH.out; rw [HS.out, Bool.eq_iff_iff]; simp <;> omega), by repeat (first | exact Below.refl _ _ | apply Below.drew | refine Below.alloc ?_ (by simp <;> omega) _ | refine Below.setCell ?_ (by simp <;> omega) _)⟩
        · rcases op_kinds op with rfl | rfl | rfl | rfl | rfl | rfl | rfl | rfl | rfl | rfl | rfl | h | h
          · have HS : Hid (stepOkB ⟨1, d, a, b, n⟩ len = (decide (a = 0) && decide (b = 0))) := HI.out.trans rfl
            by_cases za : a = 0
            · subst za
              go_wp2
              go_ret
              exact ⟨retB (by rw [HS.out, Bool.eq_iff_iff]; simp <;> omega), by repeat (first | exact Below.refl _ _ | apply Below.drew | refine Below.alloc ?_ (by simp <;> omega) _ | refine Below.setCell ?_ (by simp <;> omega) _)⟩
            · have ea : (a == 0) = false := by simpa using za
              go_wp2
              go_ret
              exact ⟨retB (by rw [HS.out, Bool.eq_iff_iff]; simp <;> omega), by repeat (first | exact Below.refl _ _ | apply Below.drew | refine Below.alloc ?_ (by simp <;> omega) _ | refine Below.setCell ?_ (by simp <;> omega) _)⟩
          · have HS : Hid (stepOkB ⟨2, d, a, b, n⟩ len = (decide (b = 0) && decide (n = 0))) := HI.out.trans rfl
            by_cases zb : b = 0
            · subst zb
              go_wp2
              go_ret
              exact ⟨retB (by rw [HS.out, Bool.eq_iff_iff]; simp <;> omega), by repeat (first | exact Below.refl _ _ | apply Below.drew | refine Below.alloc ?_ (by simp <;> omega) _ | refine Below.setCell ?_ (by simp <;> omega) _)⟩
            · have eb : (b == 0) = false := by simpa using zb
              go_wp2
              go_ret
              exact ⟨retB (by rw [HS.out, Bool.eq_iff_iff]; simp <;> omega), by repeat (first | exact Below.refl _ _ | apply Below.drew | refine Below.alloc ?_ (by simp <;> omega) _ | refine Below.setCell ?_ (by simp <;> omega) _)⟩
          · have HS : Hid (stepOkB ⟨3, d, a, b, n⟩ len = ((decide (0 ≤ n) && decide (n ≤ 39)) && (decide (a = 0) && decide (b = 0)))) := HI.out.trans rfl
            cases sl with
            | false =>
              go_wp2
              go_ret
              exact ⟨retB (by rw [HS.out, SL.out, Bool.eq_iff_iff]; simp <;> omega), by repeat (first | exact Below.refl _ _ | apply Below.drew | refine Below.alloc ?_ (by simp <;> omega) _ | refine Below.setCell ?_ (by simp <;> omega) _)⟩
            | true =>
              by_cases za : a = 0
              · subst za
                go_wp2
                go_ret
                exact ⟨retB (by rw [HS.out, SL.out, Bool.eq_iff_iff]; simp <;> omega), by repeat (first | exact Below.refl _ _ | apply Below.drew | refine Below.alloc ?_ (by simp <;> omega) _ | refine Below.setCell ?_ (by simp <;> omega) _)⟩
              · have ea : (a == 0) = false := by simpa using za
                go_wp2
                go_ret
                exact ⟨retB (by rw [HS.out, SL.out, Bool.eq_iff_iff]; simp <;> omega), by repeat (first | exact Below.refl _ _ | apply Below.drew | refine Below.alloc ?_ (by simp <;> omega) _ | refine Below.setCell ?_ (by simp <;> omega) _)⟩
          · have HS : Hid (stepOkB ⟨4, d, a, b, n⟩ len = ((decide (0 ≤ n) && decide (n ≤ 39)) && (decide (d = 0) && decide (b = 0)))) := HI.out.trans rfl
            cases sl with
            | false =>
              go_wp2
              go_ret
              exact ⟨retB (by rw [HS.out, SL.out, Bool.eq_iff_iff]; simp <;> omega), by repeat (first | exact Below.refl _ _ | apply Below.drew | refine Below.alloc ?_ (by simp <;> omega) _ | refine Below.setCell ?_ (by simp <;> omega) _)⟩
            | true =>
              by_cases zd : d = 0
              · subst zd
                go_wp2
                go_ret
                exact ⟨retB (by rw [HS.out, SL.out, Bool.eq_iff_iff]; simp <;> omega), by repeat (first | exact Below.refl _ _ | apply Below.drew | refine Below.alloc ?_ (by simp <;> omega) _ | refine Below.setCell ?_ (by simp <;> omega) _)⟩
              · have ed : (d == 0) = false := by simpa using zd
                go_wp2
                go_ret
                exact ⟨retB (by rw [HS.out, SL.out, Bool.eq_iff_iff]; simp <;> omega), by repeat (first | exact Below.refl _ _ | apply Below.drew | refine Below.alloc ?_ (by simp <;> omega) _ | refine Below.setCell ?_ (by simp <;> omega) _)⟩
          · have HS : Hid (stepOkB ⟨5, d, a, b, n⟩ len = (decide (b = 0) && decide (n = 0))) := HI.out.trans rfl
            by_cases zb : b = 0
            · subst zb
              go_wp2
              go_ret
              exact ⟨retB (by rw [HS.out, Bool.eq_iff_iff]; simp <;> omega), by repeat (first | exact Below.refl _ _ | apply Below.drew | refine Below.alloc ?_ (by simp <;> omega) _ | refine Below.setCell ?_ (by simp <;> omega) _)⟩
            · have eb : (b == 0) = false := by simpa using zb
              go_wp2
              go_ret
              exact ⟨retB (by rw [HS.out, Bool.eq_iff_iff]; simp <;> omega), by repeat (first | exact Below.refl _ _ | apply Below.drew | refine Below.alloc ?_ (by simp <;> omega) _ | refine Below.setCell ?_ (by simp <;> omega) _)⟩
          · have HS : Hid (stepOkB ⟨6, d, a, b, n⟩ len = (decide (d = 0) && decide (n = 0))) := HI.out.trans rfl
            by_cases zd : d = 0
            · subst zd
              go_wp2
              go_ret
              exact ⟨retB (by rw [HS.out, Bool.eq_iff_iff]; simp <;> omega), by repeat (first | exact Below.refl _ _ | apply Below.drew | refine Below.alloc ?_ (by simp <;> omega) _ | refine Below.setCell ?_ (by simp <;> omega) _)⟩
            · have ed : (d == 0) = false := by simpa using zd
              go_wp2
              go_ret
              exact ⟨retB (by rw [HS.out, Bool.eq_iff_iff]; simp <;> omega), by repeat (first | exact Below.refl _ _ | apply Below.drew | refine Below.alloc ?_ (by simp <;> omega) _ | refine Below.setCell ?_ (by simp <;> omega) _)⟩
          · have HS : Hid (stepOkB ⟨7, d, a, b, n⟩ len = (decide (d = 0) && (decide (b = 0) && decide (n = 0)))) := HI.out.trans rfl
            by_cases zd : d = 0
            · subst zd
              by_cases zb : b = 0
              · subst zb
                go_wp2
                go_ret
                exact ⟨retB (by rw [HS.out, Bool.eq_iff_iff]; simp <;> omega), by repeat (first | exact Below.refl _ _ | apply Below.drew | refine Below.alloc ?_ (by simp <;> omega) _ | refine Below.setCell ?_ (by simp <;> omega) _)⟩
              · have eb : (b == 0) = false := by simpa using zb
                go_wp2
                go_ret
                exact ⟨retB (by rw [HS.out, Bool.eq_iff_iff]; simp <;> omega), by repeat (first | exact Below.refl _ _ | apply Below.drew | refine Below.alloc ?_ (by simp <;> omega) _ | refine Below.setCell ?_ (by simp <;> omega) _)⟩
            · have ed : (d == 0) = false := by simpa using zd
              go_wp2
              go_ret
              exact ⟨retB (by rw [HS.out, Bool.eq_iff_iff]; simp <;> omega), by repeat (first | exact Below.refl _ _ | apply Below.drew | refine Below.alloc ?_ (by simp <;> omega) _ | refine Below.setCell ?_ (by simp <;> omega) _)⟩
          · have HS : Hid (stepOkB ⟨8, d, a, b, n⟩ len = (decide (a = 0) && (decide (b = 0) && decide (n = 0)))) := HI.out.trans rfl
            by_cases za : a = 0
            · subst za
              by_cases zb : b = 0
              · subst zb
                go_wp2
                go_ret
                exact ⟨retB (by rw [HS.out, Bool.eq_iff_iff]; simp <;> omega), by repeat (first | exact Below.refl _ _ | apply Below.drew | refine Below.alloc ?_ (by simp <;> omega) _ | refine Below.setCell ?_ (by simp <;> omega) _)⟩
              · have eb : (b == 0) = false := by simpa using zb
                go_wp2
                go_ret
                exact ⟨retB (by rw [HS.out, Bool.eq_iff_iff]; simp <;> omega), by repeat (first | exact Below.refl _ _ | apply Below.drew | refine Below.alloc ?_ (by simp <;> omega) _ | refine Below.setCell ?_ (by simp <;> omega) _)⟩
            · have ea : (a == 0) = false := by simpa using za
              go_wp2
              go_ret
              exact ⟨retB (by rw [HS.out, Bool.eq_iff_iff]; simp <;> omega), by repeat (first | exact Below.refl _ _ | apply Below.drew | refine Below.alloc ?_ (by simp <;> omega) _ | refine Below.setCell ?_ (by simp <;> omega) _)⟩
          · have HS : Hid (stepOkB ⟨9, d, a, b, n⟩ len = ((decide (0 ≤ n) && decide (n < len)) && (decide (d = 0) && (decide (a = 0) && decide (b = 0))))) := HI.out.trans rfl
            go_wp2
            go_ret
            exact ⟨retB (by rw [HS.out, Bool.eq_iff_iff]; simp <;> omega), by repeat (first | exact Below.refl _ _ | apply Below.drew | refine Below.alloc ?_ (by simp <;> omega) _ | refine Below.setCell ?_ (by simp <;> omega) _)⟩
          · have HS : Hid (stepOkB ⟨10, d, a, b, n⟩ len = ((decide (0 ≤ n) && decide (n < len)) && (decide (d = 0) && decide (b = 0)))) := HI.out.trans rfl
            go_wp2
            go_ret
            exact ⟨retB (by rw [HS.out, Bool.eq_iff_iff]; simp <;> omega), by repeat (first | exact Below.refl _ _ | apply Below.drew | refine Below.alloc ?_ (by simp <;> omega) _ | refine Below.setCell ?_ (by simp <;> omega) _)⟩
          · have HS : Hid (stepOkB ⟨11, d, a, b, n⟩ len = (decide (d = 0) && (decide (b = 0) && decide (n = 0)))) := HI.out.trans rfl
            by_cases zd : d = 0
            · subst zd
              by_cases zb : b = 0
              · subst zb
                go_wp2
                go_ret
                exact ⟨retB (by rw [HS.out, Bool.eq_iff_iff]; simp <;> omega), by repeat (first | exact Below.refl _ _ | apply Below.drew | refine Below.alloc ?_ (by simp <;> omega) _ | refine Below.setCell ?_ (by simp <;> omega) _)⟩
              · have eb : (b == 0) = false := by simpa using zb
                go_wp2
                go_ret
                exact ⟨retB (by rw [HS.out, Bool.eq_iff_iff]; simp <;> omega), by repeat (first | exact Below.refl _ _ | apply Below.drew | refine Below.alloc ?_ (by simp <;> omega) _ | refine Below.setCell ?_ (by simp <;> omega) _)⟩
            · have ed : (d == 0) = false := by simpa using zd
              go_wp2
              go_ret
              exact ⟨retB (by rw [HS.out, Bool.eq_iff_iff]; simp <;> omega), by repeat (first | exact Below.refl _ _ | apply Below.drew | refine Below.alloc ?_ (by simp <;> omega) _ | refine Below.setCell ?_ (by simp <;> omega) _)⟩
          · have HS : Hid (stepOkB ⟨op, d, a, b, n⟩ len = (decide (12 ≤ op ∧ op ≤ 21) && decide (n = 0))) := by
              refine HI.out.trans ?_
              unfold specOk
              rw [if_neg (by omega), if_neg (by omega), if_neg (by omega), if_neg (by omega), if_neg (by omega), if_neg (by omega), if_neg (by omega), if_neg (by omega), if_neg (by omega)]
            have HW : Hid (wordOkV (IntKind.i64.wrap (op - 11)) = decide (12 ≤ op ∧ op ≤ 21)) := opWord HO.out
            obtain ⟨y, HY⟩ : ∃ y, Hid (IntKind.i64.wrap (op - 11) = y) := ⟨_, rfl⟩
            have hy : IntKind.i64.wrap (op - 11) = y := HY.out
            have HW2 : Hid (wordOkV y = true) := by
              show _ = _
              rw [← HY.out, HW.out]
              simp
              omega
            have q1 : (op == 1) = false := by simp; omega
            have q2 : (op == 2) = false := by simp; omega
            have q3 : (op == 3) = false := by simp; omega
            have q4 : (op == 4) = false := by simp; omega
            have q5 : (op == 5) = false := by simp; omega
            have q6 : (op == 6) = false := by simp; omega
            have q7 : (op == 7) = false := by simp; omega
            have q8 : (op == 8) = false := by simp; omega
            have q9 : (op == 9) = false := by simp; omega
            have q10 : (op == 10) = false := by simp; omega
            have q11 : (op == 11) = false := by simp; omega
            have HH : Hid (12 ≤ op ∧ op ≤ 21) := h
            clear h HW
            go_wp2_with fail
            refine (spec_wordOk y _).mono ?_
            rintro e w1 ⟨rfl, hw1⟩
            subst hw1
            rw [HW2.out]
            go_wp2
            go_ret
            exact ⟨retB (by have := HH.out; rw [HS.out, Bool.eq_iff_iff]; simp <;> omega), by repeat (first | exact Below.refl _ _ | apply Below.drew | refine Below.alloc ?_ (by simp <;> omega) _ | refine Below.setCell ?_ (by simp <;> omega) _)⟩
          · have HS : Hid (stepOkB ⟨op, d, a, b, n⟩ len = (decide (12 ≤ op ∧ op ≤ 21) && decide (n = 0))) := by
              refine HI.out.trans ?_
              unfold specOk
              rw [if_neg (by omega), if_neg (by omega), if_neg (by omega), if_neg (by omega), if_neg (by omega), if_neg (by omega), if_neg (by omega), if_neg (by omega), if_neg (by omega)]
            have HW : Hid (wordOkV (IntKind.i64.wrap (op - 11)) = decide (12 ≤ op ∧ op ≤ 21)) := opWord HO.out
            obtain ⟨y, HY⟩ : ∃ y, Hid (IntKind.i64.wrap (op - 11) = y) := ⟨_, rfl⟩
            have hy : IntKind.i64.wrap (op - 11) = y := HY.out
            have HW2 : Hid (wordOkV y = false) := by
              show _ = _
              rw [← HY.out, HW.out]
              simp
              omega
            have q1 : (op == 1) = false := by simp; omega
            have q2 : (op == 2) = false := by simp; omega
            have q3 : (op == 3) = false := by simp; omega
            have q4 : (op == 4) = false := by simp; omega
            have q5 : (op == 5) = false := by simp; omega
            have q6 : (op == 6) = false := by simp; omega
            have q7 : (op == 7) = false := by simp; omega
            have q8 : (op == 8) = false := by simp; omega
            have q9 : (op == 9) = false := by simp; omega
            have q10 : (op == 10) = false := by simp; omega
            have q11 : (op == 11) = false := by simp; omega
            have HH : Hid (op < 1 ∨ 21 < op) := h
            clear h HW
            go_wp2_with fail
            refine (spec_wordOk y _).mono ?_
            rintro e w1 ⟨rfl, hw1⟩
            subst hw1
            rw [HW2.out]
            go_wp2
            go_ret
            exact ⟨retB (by have := HH.out; rw [HS.out, Bool.eq_iff_iff]; simp <;> omega), by repeat (first | exact Below.refl _ _ | apply Below.drew | refine Below.alloc ?_ (by simp <;> omega) _ | refine Below.setCell ?_ (by simp <;> omega) _)⟩
end Go.Proofs.YtkejplddeelahaaGreatDoor

namespace Go.Proofs.YtkejplddeelahaaGreatDoor
open Go.ChangeShapes Go.WideShapes Go.ChangeAt Go.RowKit
set_option linter.unusedVariables false

/-- Ops are numbers of 64 bits. -/
def OpsIn (l : List InsD) : Prop := ∀ x ∈ l, -9223372036854775808 ≤ x.op ∧ x.op ≤ 9223372036854775807
theorem OpsIn.at {l : List InsD} (h : OpsIn l) {k : Nat} {x : InsD} (hx : l[k]? = some x) : -9223372036854775808 ≤ x.op ∧ x.op ≤ 9223372036854775807 := h x (List.mem_of_getElem? hx)

theorem machineOkB_size {l : List InsD} (h : ¬ (1 ≤ l.length ∧ l.length ≤ 900)) : machineOkB l = false := by
  cases e : machineOkB l with
  | false => rfl
  | true => exact absurd ⟨(machineOkB_parts e).1, (machineOkB_parts e).2.1⟩ h
theorem machineOkB_bad {l : List InsD} {k : Nat} {x : InsD} (hx : l[k]? = some x) (h : stepOkB x l.length = false) : machineOkB l = false := by
  cases e : machineOkB l with
  | false => rfl
  | true =>
    have := (machineOkB_parts e).2.2.1 x (List.mem_of_getElem? hx)
    rw [h] at this
    cases this
theorem machineOkB_last {l : List InsD} {x : InsD} (h1 : 1 ≤ l.length) (h2 : l.length ≤ 900) (h : ∀ (k : Nat) (y : InsD), k < l.length → l[k]? = some y → stepOkB y l.length = true) (hx : l[l.length - 1]? = some x) : machineOkB l = (decide (x.op = 9) || decide (x.op = 11)) := by
  unfold machineOkB
  have hall : l.all (fun x => stepOkB x l.length) = true := by
    rw [List.all_eq_true]
    intro y hy
    obtain ⟨k, hk⟩ := List.getElem?_of_mem hy
    exact h k y (List.getElem?_eq_some_iff.1 hk).1 hk
  rw [List.getLast?_eq_getElem?, hx, hall]
  by_cases e : x.op = 9 <;> simp [h1, h2, e]

set_option maxHeartbeats 4000000 in
theorem impl_machineOk (v : Value) (l : List InsD) (w : World) (ha : StepsAt w v l) (ho : OpsIn l) (hT : FTab w) :
    Calls Tryz.prog 16 #[v] w fun e w' => AnsB w (machineOkB l) e w' := by
  obtain ⟨a, cap, rfl, hm, hc⟩ := ha
  obtain ⟨m, HM⟩ : ∃ m, Hid (l.length = m) := ⟨_, rfl⟩
  obtain ⟨R, HR⟩ : ∃ R, Hid (machineOkB l = R) := ⟨_, rfl⟩
  rw [HM.out] at hm hc ⊢
  rw [HR.out]
  have HC : Hid (0 < m → ∃ b off, a = some ⟨b, off, none⟩ ∧ 0 ≤ b ∧ ∀ i x, l[i]? = some x → InsAt w b (off + i * 5) x) := hc
  have HO : Hid (OpsIn l) := ho
  have HT : Hid (FTab w) := hT
  clear hc ho hT
  by_cases h1 : (m : Int) < 1
  · obtain rfl : R = false := by rw [← HR.out]; exact machineOkB_size (by have := HM.out; omega)
    go_enter Tryz.func16, Tryz.ntmps16
    go_wp2
    go_ret
    exact ⟨rfl, Below.refl _ _⟩
  by_cases h2 : (m : Int) > 900
  · obtain rfl : R = false := by rw [← HR.out]; exact machineOkB_size (by have := HM.out; omega)
    go_enter Tryz.func16, Tryz.ntmps16
    go_wp2
    go_ret
    exact ⟨rfl, Below.refl _ _⟩
  obtain ⟨b, off, rfl, _, hc1⟩ := HC.out (by omega)
  have HC1 : Hid (∀ i x, l[i]? = some x → InsAt w b (off + i * 5) x) := hc1
  clear hc1 HC
  go_enter Tryz.func16, Tryz.ntmps16
  go_wp2
  go_loopw [16] (fun i wr => ∃ k : Nat, k ≤ m ∧ i = .int .i64 k ∧ (∀ (j : Nat) (y : InsD), j < k → l[j]? = some y → stepOkB y m = true) ∧ Below w.heap.size w wr) (fun i _ => m - (intOf i).toNat)
  case atStart => exact ⟨0, Nat.zero_le _, rfl, fun j y hj => absurd hj (by omega), Below.refl _ _⟩
  case round =>
    obtain ⟨k, hk, rfl, hd, hb⟩ := hrel
    have HD : Hid (∀ (j : Nat) (y : InsD), j < k → l[j]? = some y → stepOkB y m = true) := hd
    have HB : Hid (Below w.heap.size w wr) := hb
    clear hd hb
    by_cases hlt : (k : Int) < (m : Int)
    · have hkl : k < l.length := by have := HM.out; omega
      obtain ⟨x, HX⟩ : ∃ x, Hid (l[k]? = some x) := ⟨l[k], List.getElem?_eq_getElem hkl⟩
      obtain ⟨c0, c1, c2, c3, c4⟩ := (HC1.out k x HX.out).keep (Keeps.of_below HB.out 0) (Nat.zero_le _)
      clear hkl
      have HXO : Hid (-9223372036854775808 ≤ x.op ∧ x.op ≤ 9223372036854775807) := HO.out.at HX.out
      obtain ⟨x0, x1, x2, x3, x4⟩ := x
      dsimp only at c0 c1 c2 c3 c4 HXO
      obtain ⟨q, HQ⟩ : ∃ q, Hid (stepOkB ⟨x0, x1, x2, x3, x4⟩ (m : Int) = q) := ⟨_, rfl⟩
      go_wp2_with fail
      refine (impl_stepOk x0 x1 x2 x3 x4 (m : Int) _ HXO.out ((HT.out.keep HB.out).keep (by repeat (first | exact Below.refl _ _ | apply Below.drew | refine Below.alloc ?_ (by simp <;> omega) _ | refine Below.setCell ?_ (by simp <;> omega) _)))).mono ?_
      rintro e w1 ⟨rfl, b1⟩
      rw [HQ.out]
      have HB1 : Hid (Below w.heap.size w w1) := by
        show Below _ _ _
        exact Bel.after (Bel.after HB.out (by repeat (first | exact Below.refl _ _ | apply Below.drew | refine Below.alloc ?_ (by simp <;> omega) _ | refine Below.setCell ?_ (by simp <;> omega) _))) b1
      clear b1
      cases q with
      | false =>
        go_wp2
        go_ret
        obtain rfl : R = false := by rw [← HR.out]; exact machineOkB_bad HX.out (by rw [HM.out]; exact HQ.out)
        exact ⟨rfl, HB1.out⟩
      | true =>
        go_wp2
        go_roundw
        case rel =>
          refine ⟨k + 1, by omega, by go_num, fun j y hj hy => ?_, HB1.out⟩
          by_cases hjk : j = k
          · subst hjk
            have e := HX.out.symm.trans hy
            simp only [Option.some.injEq] at e
            subst e
            exact HQ.out
          · exact HD.out j y (by omega) hy
        case measure => simp [intOf]; omega
    · have hkn : k = m := by omega
      subst hkn
      have hkl : k - 1 < l.length := by have := HM.out; omega
      obtain ⟨x, HX⟩ : ∃ x, Hid (l[k - 1]? = some x) := ⟨l[k - 1], List.getElem?_eq_getElem hkl⟩
      obtain ⟨c0, _⟩ := (HC1.out (k - 1) x HX.out).keep (Keeps.of_below HB.out 0) (Nat.zero_le _)
      obtain ⟨x0, x1, x2, x3, x4⟩ := x
      dsimp only at c0
      have hR : R = (decide (x0 = 9) || decide (x0 = 11)) := by
        rw [← HR.out]
        exact machineOkB_last (x := ⟨x0, x1, x2, x3, x4⟩) (by have := HM.out; omega) (by have := HM.out; omega) (by rw [HM.out]; exact HD.out) (by rw [HM.out]; exact HX.out)
      have HRR : Hid (R = (decide (x0 = 9) || decide (x0 = 11))) := hR
      clear hR
      obtain ⟨p, rfl⟩ : ∃ p, k = p + 1 := ⟨k - 1, by omega⟩
      rw [show p + 1 - 1 = p by omega] at c0
      by_cases h9 : x0 = 9
      · subst h9
        go_wp2
        go_ret
        exact ⟨retB (by rw [HRR.out]; rfl), HB.out⟩
      · have e9 : (x0 == 9) = false := by simpa using h9
        have HN : Hid (¬ x0 = 9) := h9
        clear h9
        go_wp2
        go_ret
        exact ⟨retB (by rw [HRR.out, Bool.eq_iff_iff]; have := HN.out; simp <;> omega), HB.out⟩

set_option maxHeartbeats 4000000 in
theorem spec_machineOk (v : Value) (l : List InsD) (w : World) (ha : StepsAt w v l) (ho : OpsIn l) :
    Calls Tryz.prog 23 #[v] w fun e w' => AnsB w (machineOkB l) e w' := by
  obtain ⟨a, cap, rfl, hm, hc⟩ := ha
  obtain ⟨m, HM⟩ : ∃ m, Hid (l.length = m) := ⟨_, rfl⟩
  obtain ⟨R, HR⟩ : ∃ R, Hid (machineOkB l = R) := ⟨_, rfl⟩
  rw [HM.out] at hm hc ⊢
  rw [HR.out]
  have HC : Hid (0 < m → ∃ b off, a = some ⟨b, off, none⟩ ∧ 0 ≤ b ∧ ∀ i x, l[i]? = some x → InsAt w b (off + i * 5) x) := hc
  have HO : Hid (OpsIn l) := ho
  clear hc ho
  obtain ⟨sz, HZ⟩ : ∃ z, Hid ((decide ((1 : Int) ≤ (m : Int)) && decide ((m : Int) ≤ 900)) = z) := ⟨_, rfl⟩
  cases sz with
  | false =>
    obtain rfl : R = false := by rw [← HR.out]; exact machineOkB_size (by have := HM.out; have h := HZ.out; simp at h; omega)
    go_enter Tryz.func23, Tryz.ntmps23
    go_wp2_with fail
    refine (l1In_any (m : Int) 1 900 _).mono ?_
    rintro e w1 ⟨rfl, hw1⟩
    subst hw1
    rw [HZ.out]
    go_wp2
    go_ret
    exact ⟨rfl, Below.refl _ _⟩
  | true =>
  have h1 : 1 ≤ m ∧ m ≤ 900 := by have h := HZ.out; simp at h; omega
  obtain ⟨b, off, rfl, _, hc1⟩ := HC.out (by omega)
  have HC1 : Hid (∀ i x, l[i]? = some x → InsAt w b (off + i * 5) x) := hc1
  clear hc1 HC
  go_enter Tryz.func23, Tryz.ntmps23
  go_wp2_with fail
  refine (l1In_any (m : Int) 1 900 _).mono ?_
  rintro e w1 ⟨rfl, hw1⟩
  replace hw1 := hw1.symm
  subst hw1
  rw [HZ.out]
  go_wp2
  go_loopw [4] (fun i wr => ∃ k : Nat, k ≤ m ∧ i = .int .i64 k ∧ (∀ (j : Nat) (y : InsD), j < k → l[j]? = some y → stepOkB y m = true) ∧ Below w.heap.size w wr) (fun i _ => m - (intOf i).toNat)
  case atStart => exact ⟨0, Nat.zero_le _, rfl, fun j y hj => absurd hj (by omega), Below.refl _ _⟩
  case round =>
    obtain ⟨k, hk, rfl, hd, hb⟩ := hrel
    have HD : Hid (∀ (j : Nat) (y : InsD), j < k → l[j]? = some y → stepOkB y m = true) := hd
    have HB : Hid (Below w.heap.size w wr) := hb
    clear hd hb
    by_cases hlt : (k : Int) < (m : Int)
    · have hkl : k < l.length := by have := HM.out; omega
      obtain ⟨x, HX⟩ : ∃ x, Hid (l[k]? = some x) := ⟨l[k], List.getElem?_eq_getElem hkl⟩
      obtain ⟨c0, c1, c2, c3, c4⟩ := (HC1.out k x HX.out).keep (Keeps.of_below HB.out 0) (Nat.zero_le _)
      clear hkl
      have HXO : Hid (-9223372036854775808 ≤ x.op ∧ x.op ≤ 9223372036854775807) := HO.out.at HX.out
      obtain ⟨x0, x1, x2, x3, x4⟩ := x
      dsimp only at c0 c1 c2 c3 c4 HXO
      obtain ⟨q, HQ⟩ : ∃ q, Hid (stepOkB ⟨x0, x1, x2, x3, x4⟩ (m : Int) = q) := ⟨_, rfl⟩
      go_wp2_with fail
      refine (spec_stepOk x0 x1 x2 x3 x4 (m : Int) _ HXO.out).mono ?_
      rintro e w1 ⟨rfl, b1⟩
      rw [HQ.out]
      have HB1 : Hid (Below w.heap.size w w1) := by
        show Below _ _ _
        exact Bel.after (Bel.after HB.out (by repeat (first | exact Below.refl _ _ | apply Below.drew | refine Below.alloc ?_ (by simp <;> omega) _ | refine Below.setCell ?_ (by simp <;> omega) _))) b1
      clear b1
      cases q with
      | false =>
        go_wp2
        go_ret
        obtain rfl : R = false := by rw [← HR.out]; exact machineOkB_bad HX.out (by rw [HM.out]; exact HQ.out)
        exact ⟨rfl, HB1.out⟩
      | true =>
        go_wp2
        go_roundw
        case rel =>
          refine ⟨k + 1, by omega, by go_num, fun j y hj hy => ?_, HB1.out⟩
          by_cases hjk : j = k
          · subst hjk
            have e := HX.out.symm.trans hy
            simp only [Option.some.injEq] at e
            subst e
            exact HQ.out
          · exact HD.out j y (by omega) hy
        case measure => simp [intOf]; omega
    · have hkn : k = m := by omega
      subst hkn
      have hkl : k - 1 < l.length := by have := HM.out; omega
      obtain ⟨x, HX⟩ : ∃ x, Hid (l[k - 1]? = some x) := ⟨l[k - 1], List.getElem?_eq_getElem hkl⟩
      obtain ⟨c0, _⟩ := (HC1.out (k - 1) x HX.out).keep (Keeps.of_below HB.out 0) (Nat.zero_le _)
      obtain ⟨x0, x1, x2, x3, x4⟩ := x
      dsimp only at c0
      have hR : R = (decide (x0 = 9) || decide (x0 = 11)) := by
        rw [← HR.out]
        exact machineOkB_last (x := ⟨x0, x1, x2, x3, x4⟩) (by have := HM.out; omega) (by have := HM.out; omega) (by rw [HM.out]; exact HD.out) (by rw [HM.out]; exact HX.out)
      have HRR : Hid (R = (decide (x0 = 9) || decide (x0 = 11))) := hR
      clear hR
      obtain ⟨p, rfl⟩ : ∃ p, k = p + 1 := ⟨k - 1, by omega⟩
      rw [show p + 1 - 1 = p by omega] at c0
      by_cases h9 : x0 = 9
      · subst h9
        go_wp2
        go_ret
        exact ⟨retB (by rw [HRR.out]; rfl), HB.out⟩
      · have e9 : (x0 == 9) = false := by simpa using h9
        have HN : Hid (¬ x0 = 9) := h9
        clear h9
        go_wp2
        go_ret
        exact ⟨retB (by rw [HRR.out, Bool.eq_iff_iff]; have := HN.out; simp <;> omega), HB.out⟩
end Go.Proofs.YtkejplddeelahaaGreatDoor
