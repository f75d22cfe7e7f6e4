/- One contract for the model's step of the machine. -/
import Derived.Test.YtebcocehdjoafaaDoorMsSt1
import Derived.Test.YtebcocehdjoafaaDoorMsSt2
import Derived.Test.YtebcocehdjoafaaDoorMaI4
namespace Go.Proofs.YtebcocehdjoafaaDoor
open Go.ChangeShapes Go.WideShapes Go.ChangeAt Go.RowKit Go.Shelf
set_option linter.unusedVariables false

section
variable {W0 : World} {T : Nat}

theorem tstep_any (i : InsD) (len : Int) (hok : stepOkB i len = true) (h11 : i.op ≠ 11) (m : MacS) (hl : m.told.length ≤ 40000) (hpc : m.pc ≤ 900) (w : World) (h : TIs W0 w T m) :
    Calls Tryd.prog 39 #[.pointer (some ⟨T, 0, none⟩), .agg #[.int .i64 i.op, .int .i64 i.d, .int .i64 i.a, .int .i64 i.b, .int .i64 i.n]] w fun e w' => e = .returned (.int .i64 (macDo wordV i m).1) ∧ TIs W0 w' T (macDo wordV i m).2 := by
  obtain ⟨h0, h1, h2, h3, h4⟩ := stepOkB_parts hok
  obtain ⟨op, d, a, b, n⟩ := i
  dsimp only at h0 h1 h2 h3 h4 h11 ⊢
  clear hok
  rcases op_kinds op with rfl | rfl | rfl | rfl | rfl | rfl | rfl | rfl | rfl | rfl | rfl | h5 | h5
  · obtain ⟨d, rfl, hd⟩ := part1 (show holdsB 1 d len = true from h1)
    obtain rfl := part0 (show holdsB 0 a len = true from h2)
    obtain rfl := part0 (show holdsB 0 b len = true from h3)
    exact ts_set d n hd w h hpc
  · obtain ⟨d, rfl, hd⟩ := part1 (show holdsB 1 d len = true from h1)
    obtain ⟨a, rfl, ha⟩ := part1 (show holdsB 1 a len = true from h2)
    obtain rfl := part0 (show holdsB 0 b len = true from h3)
    obtain rfl := part0 (show holdsB 0 n len = true from h4)
    exact ts_move d a hd ha w h hpc
  · obtain ⟨d, rfl, hd⟩ := part1 (show holdsB 1 d len = true from h1)
    obtain rfl := part0 (show holdsB 0 a len = true from h2)
    obtain rfl := part0 (show holdsB 0 b len = true from h3)
    obtain ⟨n, rfl, hn⟩ := part2 (show holdsB 2 n len = true from h4)
    exact ts_get d n hd hn w h hpc
  · obtain rfl := part0 (show holdsB 0 d len = true from h1)
    obtain ⟨a, rfl, ha⟩ := part1 (show holdsB 1 a len = true from h2)
    obtain rfl := part0 (show holdsB 0 b len = true from h3)
    obtain ⟨n, rfl, hn⟩ := part2 (show holdsB 2 n len = true from h4)
    exact ts_put a n ha hn w h hpc
  · obtain ⟨d, rfl, hd⟩ := part1 (show holdsB 1 d len = true from h1)
    obtain ⟨a, rfl, ha⟩ := part1 (show holdsB 1 a len = true from h2)
    obtain rfl := part0 (show holdsB 0 b len = true from h3)
    obtain rfl := part0 (show holdsB 0 n len = true from h4)
    by_cases hc0 : cellOk (m.regs a)
    · have e1 : macDo wordV ⟨5, (d : Int), (a : Int), 0, 0⟩ m = (0, { m with pc := m.pc + 1, regs := updN m.regs d (m.cells (m.regs a).toNat) }) := by
        show (if cellOk (m.regs a) then _ else _ : Int × MacS) = _
        rw [if_pos hc0]
        rfl
      rw [e1]
      obtain ⟨c, ec, hc⟩ := cellNat hc0
      rw [ec]
      exact ts_load d a c hd ha hc ec w h hpc
    · have e1 : macDo wordV ⟨5, (d : Int), (a : Int), 0, 0⟩ m = (2, { m with pc := m.pc + 1 }) := by
        show (if cellOk (m.regs a) then _ else _ : Int × MacS) = _
        rw [if_neg hc0]
      rw [e1]
      exact ts_loadNo d a ha hc0 w h hpc
  · obtain rfl := part0 (show holdsB 0 d len = true from h1)
    obtain ⟨a, rfl, ha⟩ := part1 (show holdsB 1 a len = true from h2)
    obtain ⟨b, rfl, hb⟩ := part1 (show holdsB 1 b len = true from h3)
    obtain rfl := part0 (show holdsB 0 n len = true from h4)
    by_cases hc0 : cellOk (m.regs a)
    · have e1 : macDo wordV ⟨6, 0, (a : Int), (b : Int), 0⟩ m = (0, { m with pc := m.pc + 1, cells := updN m.cells (m.regs a).toNat (m.regs b) }) := by
        show (if cellOk (m.regs a) then _ else _ : Int × MacS) = _
        rw [if_pos hc0]
        rfl
      rw [e1]
      obtain ⟨c, ec, hc⟩ := cellNat hc0
      rw [ec]
      exact ts_store a b c ha hb hc ec w h hpc
    · have e1 : macDo wordV ⟨6, 0, (a : Int), (b : Int), 0⟩ m = (2, { m with pc := m.pc + 1 }) := by
        show (if cellOk (m.regs a) then _ else _ : Int × MacS) = _
        rw [if_neg hc0]
      rw [e1]
      exact ts_storeNo a b ha hc0 w h hpc
  · obtain rfl := part0 (show holdsB 0 d len = true from h1)
    obtain ⟨a, rfl, ha⟩ := part1 (show holdsB 1 a len = true from h2)
    obtain rfl := part0 (show holdsB 0 b len = true from h3)
    obtain rfl := part0 (show holdsB 0 n len = true from h4)
    exact ts_out a ha hl w h hpc
  · obtain ⟨d, rfl, hd⟩ := part1 (show holdsB 1 d len = true from h1)
    obtain rfl := part0 (show holdsB 0 a len = true from h2)
    obtain rfl := part0 (show holdsB 0 b len = true from h3)
    obtain rfl := part0 (show holdsB 0 n len = true from h4)
    cases hr : m.reads with
    | nil =>
      have e1 : macDo wordV ⟨8, (d : Int), 0, 0, 0⟩ m = (0, { m with pc := m.pc + 1, regs := updN m.regs d 0 }) := by
        show ((0, { m with pc := m.pc + 1, regs := updN m.regs d (m.reads.headD 0), reads := m.reads.tail }) : Int × MacS) = _
        rw [hr]
        show ((0, { m with pc := m.pc + 1, regs := updN m.regs d 0, reads := [] }) : Int × MacS) = _
        rw [← hr]
      rw [e1]
      exact ts_readNo d hd hr w h hpc
    | cons z l =>
      have e1 : macDo wordV ⟨8, (d : Int), 0, 0, 0⟩ m = (0, { m with pc := m.pc + 1, regs := updN m.regs d z, reads := l }) := by
        show ((0, { m with pc := m.pc + 1, regs := updN m.regs d (m.reads.headD 0), reads := m.reads.tail }) : Int × MacS) = _
        rw [hr]
        rfl
      rw [e1]
      exact ts_read d hd z l hr w h hpc
  · obtain rfl := part0 (show holdsB 0 d len = true from h1)
    obtain rfl := part0 (show holdsB 0 a len = true from h2)
    obtain rfl := part0 (show holdsB 0 b len = true from h3)
    obtain ⟨n, rfl, hn⟩ := part3 (show holdsB 3 n len = true from h4)
    exact ts_jump n w h hpc
  · obtain rfl := part0 (show holdsB 0 d len = true from h1)
    obtain ⟨a, rfl, ha⟩ := part1 (show holdsB 1 a len = true from h2)
    obtain rfl := part0 (show holdsB 0 b len = true from h3)
    obtain ⟨n, rfl, hn⟩ := part3 (show holdsB 3 n len = true from h4)
    by_cases hz : m.regs a = 0
    · have e1 : macDo wordV ⟨10, 0, (a : Int), 0, (n : Int)⟩ m = (0, { m with pc := n }) := by
        show (if m.regs a = 0 then _ else _ : Int × MacS) = _
        rw [if_pos hz]
        rfl
      rw [e1]
      exact ts_zero a n ha hz w h hpc
    · have e1 : macDo wordV ⟨10, 0, (a : Int), 0, (n : Int)⟩ m = (0, { m with pc := m.pc + 1 }) := by
        show (if m.regs a = 0 then _ else _ : Int × MacS) = _
        rw [if_neg hz]
      rw [e1]
      exact ts_zeroNo a n ha hz w h hpc
  · exact absurd rfl h11
  · rw [formV_word h5.1 h5.2] at h1 h2 h3 h4
    obtain ⟨d, rfl, hd⟩ := part1 h1
    obtain ⟨a, rfl, ha⟩ := part1 h2
    obtain ⟨b, rfl, hb⟩ := part1 h3
    obtain rfl := part0 h4
    have em : macDo wordV ⟨op, (d : Int), (a : Int), (b : Int), 0⟩ m = (0, { m with pc := m.pc + 1, regs := updN m.regs d (wordV (op - 11) (m.regs a) (m.regs b)) }) := by
      unfold macDo
      dsimp only
      rw [if_neg (by omega), if_neg (by omega), if_neg (by omega), if_neg (by omega), if_neg (by omega), if_neg (by omega), if_neg (by omega), if_neg (by omega), if_neg (by omega), if_neg (by omega)]
      rfl
    rw [em]
    exact ts_word op d a b hd ha hb h5 w h hpc
  · omega
end
end Go.Proofs.YtebcocehdjoafaaDoor
