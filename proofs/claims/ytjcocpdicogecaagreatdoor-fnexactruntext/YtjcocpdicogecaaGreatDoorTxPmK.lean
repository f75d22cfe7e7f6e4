/- Code read from a text: the state of the reading, both sides (mathematics and one list). -/
import Derived.Test.YtjcocpdicogecaaGreatDoorKDef
import Derived.Test.YtjcocpdicogecaaGreatDoorKTx1
import Derived.Test.YtjcocpdicogecaaGreatDoorStOK
namespace Go.Proofs.YtjcocpdicogecaaGreatDoor
open Go.ChangeShapes Go.WideShapes Go.ChangeAt Go.RowKit
set_option linter.unusedVariables false

theorem pm_take {l q : List UInt8} {c : UInt8} {k f : Nat} (hf : f ≤ k) (hc : l[k]? = some c) (hq : (l.drop f).take (k - f) = q) : (l.drop f).take (k + 1 - f) = q ++ [c] := by
  rw [show k + 1 - f = (k - f) + 1 by omega, List.take_add_one, List.getElem?_drop, show f + (k - f) = k by omega, hc, hq]
  rfl
theorem pm_drop {l q : List UInt8} {c : UInt8} {k f : Nat} (hf : f ≤ k) (h : (l.drop f).take (k + 1 - f) = q ++ [c]) : l.drop f = q ++ c :: l.drop (k + 1) := by
  have h8 := List.take_append_drop (k + 1 - f) (l.drop f)
  rw [h, List.drop_drop, show f + (k + 1 - f) = k + 1 by omega] at h8
  rw [← h8]
  simp
/-- The reading's state: what stands before place f is the steps l0; from f up to k there is no line's end. -/
structure PM (t : List UInt8) (k f : Nat) (l0 : List InsD) : Prop where
  fk : f ≤ k
  kn : k ≤ t.length
  says : StepsIn l0
  done : joinX l0 ++ t.drop f = t
  plain : ∀ x ∈ (t.drop f).take (k - f), x ≠ 10
theorem PM.start (t : List UInt8) : PM t 0 0 [] := ⟨Nat.le_refl _, Nat.zero_le _, (fun x hx => by cases hx), rfl, (fun x hx => by simp at hx)⟩
theorem PM.plainR {t : List UInt8} {k f : Nat} {l0 : List InsD} {c : UInt8} (h : PM t k f l0) (hc : t[k]? = some c) (hn : c ≠ 10) : PM t (k + 1) f l0 := by
  refine ⟨Nat.le_succ_of_le h.fk, (List.getElem?_eq_some_iff.1 hc).1, h.says, h.done, fun x hx => ?_⟩
  rw [pm_take h.fk hc rfl, List.mem_append, List.mem_singleton] at hx
  rcases hx with hx | rfl
  · exact h.plain x hx
  · exact hn
/-- Many places without a line's end. -/
theorem PM.plains {t : List UInt8} {k f m : Nat} {l0 : List InsD} (h : PM t k f l0) (hm : k ≤ m) (hml : m ≤ t.length) (hn : ∀ j, k ≤ j → j < m → t[j]? ≠ some 10) : PM t m f l0 := by
  obtain ⟨d, rfl⟩ : ∃ d, m = k + d := ⟨m - k, by omega⟩
  clear hm
  induction d with
  | zero => exact h
  | succ d ih =>
    have h9 := ih (by omega) (fun j h1 h2 => hn j h1 (by omega))
    obtain ⟨c, hc⟩ : ∃ c, t[k + d]? = some c := ⟨_, List.getElem?_eq_getElem (by omega)⟩
    exact h9.plainR hc (fun e => hn (k + d) (by omega) (by omega) (by rw [hc, e]))
theorem PM.cut {t q : List UInt8} {k f : Nat} {l0 : List InsD} (h : PM t k f l0) (hc : t[k]? = some 10) (hq : (t.drop f).take (k - f) = q) : joinX l0 ++ (q ++ 10 :: t.drop (k + 1)) = t := by
  rw [← pm_drop h.fk (pm_take h.fk hc hq)]
  exact h.done
theorem PM.q10 {t q : List UInt8} {k f : Nat} {l0 : List InsD} (h : PM t k f l0) (hq : (t.drop f).take (k - f) = q) : ∀ x ∈ q, x ≠ 10 := hq ▸ h.plain
theorem PM.qlen {t q : List UInt8} {k f : Nat} (hq : (t.drop f).take (k - f) = q) : q.length ≤ t.length := by
  rw [← hq, List.length_take, List.length_drop]
  omega
/-- A line that is none: nothing is read. -/
theorem PM.no {t q : List UInt8} {k f : Nat} {l0 : List InsD} (h : PM t k f l0) (hc : t[k]? = some 10) (hq : (t.drop f).take (k - f) = q) (hl : ∀ y, ¬ IsLine q y) : parseB t = false ∧ parseOf t = [] := by
  refine parse_no fun l h1 _ => ?_
  rw [← h.cut hc hq] at h1
  obtain ⟨x, hx⟩ := tx_step h1 (h.q10 hq) h.says
  exact hl x hx
/-- One step too many. -/
theorem PM.full {t q : List UInt8} {k f : Nat} {l0 : List InsD} (h : PM t k f l0) (hc : t[k]? = some 10) (hq : (t.drop f).take (k - f) = q) (hl : 900 ≤ l0.length) : parseB t = false ∧ parseOf t = [] := by
  refine parse_no fun l h1 hm => ?_
  rw [← h.cut hc hq] at h1
  obtain ⟨l1, rfl, h2⟩ := tx_over l0 h1 h.says
  obtain ⟨x, l2, rfl, _⟩ := tx_head (t := q) h2 (h.q10 hq)
  have := (machineOkB_parts hm).2.1
  simp at this
  omega
theorem PM.next {t q : List UInt8} {k f : Nat} {l0 : List InsD} {x : InsD} (h : PM t k f l0) (hc : t[k]? = some 10) (hq : (t.drop f).take (k - f) = q) (hl : IsLine q x) : PM t (k + 1) (k + 1) (l0 ++ [x]) := by
  refine ⟨Nat.le_refl _, (List.getElem?_eq_some_iff.1 hc).1, fun y hy => ?_, ?_, fun y hy => by simp at hy⟩
  · rcases List.mem_append.1 hy with hy | hy
    · exact h.says y hy
    · rw [List.mem_singleton] at hy
      subst hy
      exact ⟨hl.1, hl.2.1⟩
  · rw [joinX_snoc, hl.2.2, List.append_assoc, List.append_assoc]
    exact h.cut hc hq
theorem PM.rest {t : List UInt8} {f : Nat} {l0 : List InsD} (h : PM t t.length f l0) (hf : f < t.length) : parseB t = false ∧ parseOf t = [] := by
  refine parse_no fun l h1 _ => ?_
  rw [← h.done] at h1
  have hp := h.plain
  rw [List.take_of_length_le (by rw [List.length_drop]; exact Nat.le_refl _)] at hp
  have := congrArg List.length (tx_rest h1 hp h.says)
  simp at this
  omega
theorem PM.all {t : List UInt8} {f : Nat} {l0 : List InsD} (h : PM t t.length f l0) (hf : ¬ f < t.length) : joinX l0 = t := by
  have := h.done
  rwa [List.drop_eq_nil_of_le (by omega), List.append_nil] at this
theorem PM.bad {t : List UInt8} {f : Nat} {l0 : List InsD} (h : PM t t.length f l0) (hf : ¬ f < t.length) (hm : machineOkB l0 = false) : parseB t = false ∧ parseOf t = [] := by
  refine parse_no fun l h1 h2 => ?_
  rw [← h.all hf] at h1
  rw [tx_all h1 h.says, hm] at h2
  cases h2
theorem PM.good {t : List UInt8} {f : Nat} {l0 : List InsD} (h : PM t t.length f l0) (hf : ¬ f < t.length) (hm : machineOkB l0 = true) : parseB t = true ∧ parseOf t = l0 := by
  have := parse_yes h.says hm
  rw [h.all hf] at this
  exact this
theorem StepsIn.ops {l : List InsD} (h : StepsIn l) : ∀ x ∈ l, -9223372036854775808 ≤ x.op ∧ x.op ≤ 9223372036854775807 := fun x hx => by
  have := (stepOkB_parts (h x hx).1).1
  omega
def GivesParse (w : World) (t : List UInt8) (e : Ending) (w' : World) : Prop := ∃ v, e = .returned (.tuple #[v, .bool (parseB t)]) ∧ OwnSteps w' w.heap.size v (parseOf t) ∧ Below w.heap.size w w'
/-- The reading's state with its list in memory. -/
structure PMem (t : List UInt8) (w : World) (S0 : Nat) (k f : Nat) (l0 : List InsD) (ov : Value) (wr : World) : Prop where
  pm : PM t k f l0
  own : OwnSteps wr S0 ov l0
  below : Below S0 w wr
  lt : S0 < wr.heap.size
theorem PMem.keep {t : List UInt8} {w wr wr' : World} {S0 k f : Nat} {l0 : List InsD} {ov : Value} (h : PMem t w S0 k f l0 ov wr) (hb : Below wr.heap.size wr wr') : PMem t w S0 k f l0 ov wr' :=
  ⟨h.pm, h.own.keep hb, h.below.trans (hb.mono (Nat.le_of_lt h.lt)), Nat.lt_of_lt_of_le h.lt hb.size⟩
theorem pm_one (w : World) (x0 x1 x2 x3 x4 : Int) : StepsAt (w.alloc (.cells #[.int .i64 x0, .int .i64 x1, .int .i64 x2, .int .i64 x3, .int .i64 x4] 36)) (.slice (some ⟨w.heap.size, 0, none⟩) 1 1) [⟨x0, x1, x2, x3, x4⟩] := by
  have hb : (w.alloc (.cells #[.int .i64 x0, .int .i64 x1, .int .i64 x2, .int .i64 x3, .int .i64 x4] 36)).heap[w.heap.size]? = some (.cells #[.int .i64 x0, .int .i64 x1, .int .i64 x2, .int .i64 x3, .int .i64 x4] 36 (0, 0)) := World.alloc_heap_new w _
  generalize w.alloc (.cells #[.int .i64 x0, .int .i64 x1, .int .i64 x2, .int .i64 x3, .int .i64 x4] 36) = w' at hb ⊢
  refine ⟨_, _, rfl, by simp, fun _ => ⟨_, 0, rfl, Nat.zero_le _, fun i x hx => ?_⟩⟩
  have hi : i = 0 := by have := (List.getElem?_eq_some_iff.1 hx).1; simp at this; omega
  subst hi
  simp at hx
  subst hx
  refine ⟨?_, ?_, ?_, ?_, ?_⟩ <;> simp [World.cell?, hb]
/-- A step is added: what 'append' gives, ahead of the walk. -/
theorem PMem.add {t : List UInt8} {w wr : World} {S0 k f : Nat} {l0 : List InsD} {ov : Value} {x0 x1 x2 x3 x4 : Int} (h : PMem t w S0 k f l0 ov wr) (hl : l0.length ≤ 1048576) :
    ∃ v' w', (∀ ty, (Builtin.append_ #[22, 22] ty #[ov, .slice (some ⟨wr.heap.size, 0, none⟩) 1 1]).run Tryz.prog (wr.alloc (.cells #[.int .i64 x0, .int .i64 x1, .int .i64 x2, .int .i64 x3, .int .i64 x4] 36)) = .ok v' w') ∧ OwnSteps w' S0 v' (l0 ++ [⟨x0, x1, x2, x3, x4⟩]) ∧ Below S0 w w' ∧ S0 < w'.heap.size := by
  have ha := Bel.alloc wr (.cells #[.int .i64 x0, .int .i64 x1, .int .i64 x2, .int .i64 x3, .int .i64 x4] 36)
  have h1 := h.keep ha
  obtain ⟨v', w', hrun, ho, hg, _⟩ := add_steps S0 _ _ l0 [⟨x0, x1, x2, x3, x4⟩] _ h1.own (Nat.le_of_lt h1.lt) (pm_one wr x0 x1 x2 x3 x4) (by simp; omega) 22
  have hb := h1.own.under (Nat.le_of_lt h1.lt) hg
  exact ⟨v', w', fun ty => hrun, ho, h1.below.trans hb, Nat.lt_of_lt_of_le h1.lt hb.size⟩
theorem OwnSteps.formP {w : World} {lo : Nat} {v : Value} {l : List InsD} (h : OwnSteps w lo v l) : ∃ a c, v = .slice a l.length c := by
  obtain ⟨a, c, e, _⟩ := h.row
  exact ⟨a, c, e⟩
theorem parse_len (x : Nat) (h : x ≤ 900) : x ≤ 1048576 := by omega
end Go.Proofs.YtjcocpdicogecaaGreatDoor
