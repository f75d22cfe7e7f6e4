/- One contract for the functions of all ops of the machine. -/
import Derived.Test.YtebcocehdjoafaaDoorMaI3
namespace Go.Proofs.YtebcocehdjoafaaDoor
open Go.ChangeShapes Go.WideShapes Go.ChangeAt Go.RowKit Go.Shelf
set_option linter.unusedVariables false

/-- The machine behind a step. -/
def doneM (i : InsD) (m : MacS) : MacS := if i.op = 11 then { m with pc := m.pc + 1 } else (macDo wordV i m).2
def doneE (i : InsD) (m : MacS) (x : MacE) : MacE := if i.op = 11 then ⟨x.fuel, true, 0, m.regs i.a.toNat⟩ else if (macDo wordV i m).1 = 0 then x else ⟨x.fuel, true, (macDo wordV i m).1, 0⟩

theorem doF_word {k : Nat} (h1 : 12 ≤ k) : doF k = 65 := by
  unfold doF
  split <;> omega
theorem enters_do {k : Nat} (h1 : 1 ≤ k) (h2 : k ≤ 21) : Enters Tryd.prog (doF k) := by
  by_cases h : 12 ≤ k
  · rw [doF_word h]
    exact enters_of Tryd.func65 (by kernel_rfl) rfl
  · have : k = 1 ∨ k = 2 ∨ k = 3 ∨ k = 4 ∨ k = 5 ∨ k = 6 ∨ k = 7 ∨ k = 8 ∨ k = 9 ∨ k = 10 ∨ k = 11 := by omega
    rcases this with rfl | rfl | rfl | rfl | rfl | rfl | rfl | rfl | rfl | rfl | rfl
    · exact enters_of Tryd.func55 (by kernel_rfl) rfl
    · exact enters_of Tryd.func56 (by kernel_rfl) rfl
    · exact enters_of Tryd.func57 (by kernel_rfl) rfl
    · exact enters_of Tryd.func58 (by kernel_rfl) rfl
    · exact enters_of Tryd.func59 (by kernel_rfl) rfl
    · exact enters_of Tryd.func60 (by kernel_rfl) rfl
    · exact enters_of Tryd.func61 (by kernel_rfl) rfl
    · exact enters_of Tryd.func62 (by kernel_rfl) rfl
    · exact enters_of Tryd.func63 (by kernel_rfl) rfl
    · exact enters_of Tryd.func63 (by kernel_rfl) rfl
    · exact enters_of Tryd.func64 (by kernel_rfl) rfl

theorem part0 {x n : Int} (h : holdsB 0 x n = true) : x = 0 := by simpa [holdsB] using h
theorem part1 {x n : Int} (h : holdsB 1 x n = true) : ∃ k : Nat, x = (k : Int) ∧ k < 8 := by
  simp [holdsB] at h
  exact ⟨x.toNat, by omega, by omega⟩
theorem part2 {x n : Int} (h : holdsB 2 x n = true) : ∃ k : Nat, x = (k : Int) ∧ k < 40 := by
  simp [holdsB] at h
  exact ⟨x.toNat, by omega, by omega⟩
theorem part3 {x n : Int} (h : holdsB 3 x n = true) : ∃ k : Nat, x = (k : Int) ∧ (k : Int) < n := by
  simp [holdsB] at h
  exact ⟨x.toNat, by omega, by omega⟩
theorem cellNat {v : Int} (h : cellOk v) : ∃ n : Nat, v = (n : Int) ∧ n < 8 := ⟨v.toNat, by unfold cellOk at h; omega, by unfold cellOk at h; omega⟩

section
variable {W0 : World} {M : Nat} {x : MacE}

theorem mdo_any (i : InsD) (len : Int) (hok : stepOkB i len = true) (m : MacS) (hl : m.told.length ≤ 40000) (w : World) (h : MacIs W0 w M { m with pc := m.pc + 1 } x) :
    Calls Tryd.prog (doF i.op.toNat) #[.pointer (some ⟨M, 0, none⟩), .agg #[.int .i64 i.op, .int .i64 i.d, .int .i64 i.a, .int .i64 i.b, .int .i64 i.n]] w fun e w' => (∃ v, e = .returned v) ∧ MacTo W0 M w (doneM i m) (doneE i m x) w' := by
  obtain ⟨h0, h1, h2, h3, h4⟩ := stepOkB_parts hok
  obtain ⟨op, d, a, b, n⟩ := i
  dsimp only at h0 h1 h2 h3 h4 ⊢
  clear hok
  rcases op_kinds op with rfl | rfl | rfl | rfl | rfl | rfl | rfl | rfl | rfl | rfl | rfl | h5 | h5
  · obtain ⟨d, rfl, hd⟩ := part1 (show holdsB 1 d len = true from h1)
    obtain rfl := part0 (show holdsB 0 a len = true from h2)
    obtain rfl := part0 (show holdsB 0 b len = true from h3)
    exact mset_any (m := { m with pc := m.pc + 1 }) (x := x) d n hd w h
  · obtain ⟨d, rfl, hd⟩ := part1 (show holdsB 1 d len = true from h1)
    obtain ⟨a, rfl, ha⟩ := part1 (show holdsB 1 a len = true from h2)
    obtain rfl := part0 (show holdsB 0 b len = true from h3)
    obtain rfl := part0 (show holdsB 0 n len = true from h4)
    exact mmove_any (m := { m with pc := m.pc + 1 }) (x := x) d a hd ha w h
  · obtain ⟨d, rfl, hd⟩ := part1 (show holdsB 1 d len = true from h1)
    obtain rfl := part0 (show holdsB 0 a len = true from h2)
    obtain rfl := part0 (show holdsB 0 b len = true from h3)
    obtain ⟨n, rfl, hn⟩ := part2 (show holdsB 2 n len = true from h4)
    exact mget_any (m := { m with pc := m.pc + 1 }) (x := x) d n hd hn w h
  · obtain rfl := part0 (show holdsB 0 d len = true from h1)
    obtain ⟨a, rfl, ha⟩ := part1 (show holdsB 1 a len = true from h2)
    obtain rfl := part0 (show holdsB 0 b len = true from h3)
    obtain ⟨n, rfl, hn⟩ := part2 (show holdsB 2 n len = true from h4)
    exact mput_any (m := { m with pc := m.pc + 1 }) (x := x) a n ha hn w h
  · obtain ⟨d, rfl, hd⟩ := part1 (show holdsB 1 d len = true from h1)
    obtain ⟨a, rfl, ha⟩ := part1 (show holdsB 1 a len = true from h2)
    obtain rfl := part0 (show holdsB 0 b len = true from h3)
    obtain rfl := part0 (show holdsB 0 n len = true from h4)
    by_cases hc0 : cellOk (m.regs a)
    · have e1 : doneM ⟨5, (d : Int), (a : Int), 0, 0⟩ m = { m with pc := m.pc + 1, regs := updN m.regs d (m.cells (m.regs a).toNat) } := by
        show (if cellOk (m.regs a) then _ else _ : Int × MacS).2 = _
        rw [if_pos hc0]
        rfl
      have e2 : doneE ⟨5, (d : Int), (a : Int), 0, 0⟩ m x = x := by
        show (if (if cellOk (m.regs a) then _ else _ : Int × MacS).1 = 0 then x else _) = x
        rw [if_pos hc0]
        rfl
      rw [e1, e2]
      obtain ⟨c, ec, hc⟩ := cellNat hc0
      rw [ec]
      exact mload_yes (m := { m with pc := m.pc + 1 }) (x := x) d a c hd ha hc ec w h
    · have e1 : doneM ⟨5, (d : Int), (a : Int), 0, 0⟩ m = { m with pc := m.pc + 1 } := by
        show (if cellOk (m.regs a) then _ else _ : Int × MacS).2 = _
        rw [if_neg hc0]
      have e2 : doneE ⟨5, (d : Int), (a : Int), 0, 0⟩ m x = ⟨x.fuel, true, 2, 0⟩ := by
        show (if (if cellOk (m.regs a) then _ else _ : Int × MacS).1 = 0 then x else ⟨x.fuel, true, (if cellOk (m.regs a) then _ else _ : Int × MacS).1, 0⟩) = _
        rw [if_neg hc0]
        rfl
      rw [e1, e2]
      exact mload_no (m := { m with pc := m.pc + 1 }) (x := x) d a ha hc0 w h
  · obtain rfl := part0 (show holdsB 0 d len = true from h1)
    obtain ⟨a, rfl, ha⟩ := part1 (show holdsB 1 a len = true from h2)
    obtain ⟨b, rfl, hb⟩ := part1 (show holdsB 1 b len = true from h3)
    obtain rfl := part0 (show holdsB 0 n len = true from h4)
    by_cases hc0 : cellOk (m.regs a)
    · have e1 : doneM ⟨6, 0, (a : Int), (b : Int), 0⟩ m = { m with pc := m.pc + 1, cells := updN m.cells (m.regs a).toNat (m.regs b) } := by
        show (if cellOk (m.regs a) then _ else _ : Int × MacS).2 = _
        rw [if_pos hc0]
        rfl
      have e2 : doneE ⟨6, 0, (a : Int), (b : Int), 0⟩ m x = x := by
        show (if (if cellOk (m.regs a) then _ else _ : Int × MacS).1 = 0 then x else _) = x
        rw [if_pos hc0]
        rfl
      rw [e1, e2]
      obtain ⟨c, ec, hc⟩ := cellNat hc0
      rw [ec]
      exact mstore_yes (m := { m with pc := m.pc + 1 }) (x := x) a b c ha hb hc ec w h
    · have e1 : doneM ⟨6, 0, (a : Int), (b : Int), 0⟩ m = { m with pc := m.pc + 1 } := by
        show (if cellOk (m.regs a) then _ else _ : Int × MacS).2 = _
        rw [if_neg hc0]
      have e2 : doneE ⟨6, 0, (a : Int), (b : Int), 0⟩ m x = ⟨x.fuel, true, 2, 0⟩ := by
        show (if (if cellOk (m.regs a) then _ else _ : Int × MacS).1 = 0 then x else ⟨x.fuel, true, (if cellOk (m.regs a) then _ else _ : Int × MacS).1, 0⟩) = _
        rw [if_neg hc0]
        rfl
      rw [e1, e2]
      exact mstore_no (m := { m with pc := m.pc + 1 }) (x := x) a b ha hc0 w h
  · obtain rfl := part0 (show holdsB 0 d len = true from h1)
    obtain ⟨a, rfl, ha⟩ := part1 (show holdsB 1 a len = true from h2)
    obtain rfl := part0 (show holdsB 0 b len = true from h3)
    obtain rfl := part0 (show holdsB 0 n len = true from h4)
    exact mout_any (m := { m with pc := m.pc + 1 }) (x := x) a ha hl w h
  · obtain ⟨d, rfl, hd⟩ := part1 (show holdsB 1 d len = true from h1)
    obtain rfl := part0 (show holdsB 0 a len = true from h2)
    obtain rfl := part0 (show holdsB 0 b len = true from h3)
    obtain rfl := part0 (show holdsB 0 n len = true from h4)
    exact mreadstep_any (m := { m with pc := m.pc + 1 }) (x := x) d hd w h
  · obtain rfl := part0 (show holdsB 0 d len = true from h1)
    obtain rfl := part0 (show holdsB 0 a len = true from h2)
    obtain rfl := part0 (show holdsB 0 b len = true from h3)
    obtain ⟨n, rfl, hn⟩ := part3 (show holdsB 3 n len = true from h4)
    exact mjump_any (m := { m with pc := m.pc + 1 }) (x := x) n w h
  · obtain rfl := part0 (show holdsB 0 d len = true from h1)
    obtain ⟨a, rfl, ha⟩ := part1 (show holdsB 1 a len = true from h2)
    obtain rfl := part0 (show holdsB 0 b len = true from h3)
    obtain ⟨n, rfl, hn⟩ := part3 (show holdsB 3 n len = true from h4)
    by_cases hz : m.regs a = 0
    · have e1 : doneM ⟨10, 0, (a : Int), 0, (n : Int)⟩ m = { m with pc := n } := by
        show (if m.regs a = 0 then _ else _ : Int × MacS).2 = _
        rw [if_pos hz]
        rfl
      have e2 : doneE ⟨10, 0, (a : Int), 0, (n : Int)⟩ m x = x := by
        show (if (if m.regs a = 0 then _ else _ : Int × MacS).1 = 0 then x else _) = x
        rw [if_pos hz]
        rfl
      rw [e1, e2]
      exact mzero_yes (m := { m with pc := m.pc + 1 }) (x := x) a n ha hz w h
    · have e1 : doneM ⟨10, 0, (a : Int), 0, (n : Int)⟩ m = { m with pc := m.pc + 1 } := by
        show (if m.regs a = 0 then _ else _ : Int × MacS).2 = _
        rw [if_neg hz]
      have e2 : doneE ⟨10, 0, (a : Int), 0, (n : Int)⟩ m x = x := by
        show (if (if m.regs a = 0 then _ else _ : Int × MacS).1 = 0 then x else _) = x
        rw [if_neg hz]
        rfl
      rw [e1, e2]
      exact mzero_no (m := { m with pc := m.pc + 1 }) (x := x) a n ha hz w h
  · obtain rfl := part0 (show holdsB 0 d len = true from h1)
    obtain ⟨a, rfl, ha⟩ := part1 (show holdsB 1 a len = true from h2)
    obtain rfl := part0 (show holdsB 0 b len = true from h3)
    obtain rfl := part0 (show holdsB 0 n len = true from h4)
    exact mend_any (m := { m with pc := m.pc + 1 }) (x := x) a ha w h
  · rw [formV_word h5.1 h5.2] at h1 h2 h3 h4
    obtain ⟨d, rfl, hd⟩ := part1 h1
    obtain ⟨a, rfl, ha⟩ := part1 h2
    obtain ⟨b, rfl, hb⟩ := part1 h3
    obtain rfl := part0 h4
    have em : macDo wordV ⟨op, (d : Int), (a : Int), (b : Int), 0⟩ m = (0, { m with pc := m.pc + 1, regs := updN m.regs d (wordV (op - 11) (m.regs a) (m.regs b)) }) := by
      unfold macDo
      dsimp only
      rw [if_neg (by omega), if_neg (by omega), if_neg (by omega), if_neg (by omega), if_neg (by omega), if_neg (by omega), if_neg (by omega), if_neg (by omega), if_neg (by omega), if_neg (by omega)]
      rfl
    have e1 : doneM ⟨op, (d : Int), (a : Int), (b : Int), 0⟩ m = { m with pc := m.pc + 1, regs := updN m.regs d (wordV (op - 11) (m.regs a) (m.regs b)) } := by
      unfold doneM
      dsimp only
      rw [if_neg (by omega), em]
    have e2 : doneE ⟨op, (d : Int), (a : Int), (b : Int), 0⟩ m x = x := by
      unfold doneE
      dsimp only
      rw [if_neg (by omega), em]
      rfl
    rw [e1, e2, doF_word (by omega)]
    exact mword_any (m := { m with pc := m.pc + 1 }) (x := x) op d a b hd ha hb h5 w h
  · omega
end
end Go.Proofs.YtebcocehdjoafaaDoor
