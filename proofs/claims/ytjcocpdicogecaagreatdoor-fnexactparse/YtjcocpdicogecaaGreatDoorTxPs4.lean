/- A step of a line: what its words say (mathematics). -/
import Derived.Test.YtjcocpdicogecaaGreatDoorTxPs3
namespace Go.Proofs.YtjcocpdicogecaaGreatDoor
open Go.ChangeShapes Go.WideShapes Go.ChangeAt Go.RowKit
set_option linter.unusedVariables false

def regW (rs : List Int) (k : Nat) : Int := (rs ++ [0, 0, 0]).getD k 0
/-- The step that an op, registers and a number make. -/
def stepW (op : Int) (rs : List Int) (n : Int) : InsD :=
  if op = 1 ∨ op = 3 ∨ op = 8 then ⟨op, regW rs 0, 0, 0, n⟩
  else if op = 2 ∨ op = 5 then ⟨op, regW rs 0, regW rs 1, 0, n⟩
  else if op = 4 ∨ op = 7 ∨ op = 10 ∨ op = 11 then ⟨op, 0, regW rs 0, 0, n⟩
  else if op = 6 then ⟨op, 0, regW rs 0, regW rs 1, n⟩
  else ⟨op, regW rs 0, regW rs 1, regW rs 2, n⟩
theorem wordsTo_r {ws : List (List UInt8)} {rs : List Int} {n : Int} (h : WordsTo ws rs n) : R64 n := by
  induction h with
  | none => exact ⟨by omega, by omega⟩
  | reg h hx ih => exact ih
  | slot h hx ih => exact hx
  | num h hx ih => exact hx
theorem stepW_n (op : Int) (rs : List Int) (n : Int) : (stepW op rs n).n = n := by unfold stepW; (repeat' split) <;> rfl
theorem stepW_op (op : Int) (rs : List Int) (n : Int) : (stepW op rs n).op = op := by unfold stepW; (repeat' split) <;> rfl
theorem stepW_is {x : InsD} (h : stepOkB x 900 = true) : stepW x.op (regsF ((kindsX x.op).map (fun q => (q.1, getF x q.2)))) (numF ((kindsX x.op).map (fun q => (q.1, getF x q.2))) 0) = x := by
  have hp := putF_is h
  obtain ⟨op, d, a, b, n⟩ := x
  have hb := (stepOkB_parts h).1
  simp only at hb hp ⊢
  rcases kinds_of op with ⟨e, hk⟩ | ⟨e, hk⟩ | ⟨e, hk⟩ | ⟨e, hk⟩ | ⟨e, hk⟩ | ⟨e, hk⟩ | ⟨e, hk⟩ | ⟨e, hk⟩ | ⟨e, hk⟩ | ⟨e, hk⟩ | ⟨e, hk⟩ | ⟨e, hk⟩ | ⟨e, hk⟩
  case inr.inr.inr.inr.inr.inr.inr.inr.inr.inr.inr.inl =>
    rw [hk] at hp ⊢
    simp [putF, setF, getF] at hp
    have n1 : ¬ (op = 1 ∨ op = 3 ∨ op = 8) := by omega
    have n2 : ¬ (op = 2 ∨ op = 5) := by omega
    have n3 : ¬ (op = 4 ∨ op = 7 ∨ op = 10 ∨ op = 11) := by omega
    have n4 : ¬ op = 6 := by omega
    unfold stepW
    rw [if_neg n1, if_neg n2, if_neg n3, if_neg n4]
    (try simp [regsF, numF, regW, getF]) <;> omega
  case inr.inr.inr.inr.inr.inr.inr.inr.inr.inr.inr.inr => exfalso; omega
  all_goals
    subst e
    rw [hk] at hp ⊢
    simp [putF, setF, getF] at hp
    (try simp [stepW, regsF, numF, regW, getF]) <;> omega
theorem IsLine.len {b : List UInt8} {x : InsD} (h : IsLine b x) : (spl 32 b).tail.length ≤ 4 := by
  rw [h.pieces, List.length_map]
  exact kinds_len _
theorem IsLine.from {b : List UInt8} {x : InsD} (h : IsLine b x) {rs : List Int} {n : Int} (hw : WordsTo ((spl 32 b).tail.take 4) rs n) : stepW (opOfL ((spl 32 b).headD []) : Nat) rs n = x := by
  rw [List.take_of_length_le h.len] at hw
  have e : (spl 32 b).tail = ((kindsX x.op).map (fun q => (q.1, getF x q.2))).map (fun q => piece q.1 q.2) := by
    rw [h.pieces, List.map_map]
    rfl
  obtain ⟨e1, e2⟩ := wordsTo_fields _ (fun q hq => by
    obtain ⟨p, _, rfl⟩ := List.mem_map.1 hq
    exact getF_in h.1 h.2.1 _) hw e
  have ho := h.op
  rw [e1, e2, ho.1, Int.toNat_of_nonneg (by omega)]
  exact stepW_is h.1
/-- A line's answer: the step, and whether there is one. -/
def GivesLine (w : World) (l : List UInt8) (e : Ending) (w' : World) : Prop := ∃ (x : InsD) (ok : Bool), e = .returned (.tuple #[.agg #[.int .i64 x.op, .int .i64 x.d, .int .i64 x.a, .int .i64 x.b, .int .i64 x.n], .bool ok]) ∧ (ok = true → IsLine l x) ∧ (ok = false → ∀ y, ¬ IsLine l y) ∧ Below w.heap.size w w'
theorem line_word {l wd : List UInt8} {i : Nat} (hi : (spl 32 l).tail[i]? = some wd) (h1 : ∀ y, R64 y → wd ≠ 114 :: Lib.itoa y) (h2 : ∀ y, R64 y → wd ≠ 115 :: Lib.itoa y) (h3 : ∀ y, R64 y → Lib.itoa y ≠ wd) : ∀ y, ¬ IsLine l y := by
  intro y h
  rw [h.pieces, List.getElem?_map] at hi
  cases hq : (kindsX y.op)[i]? with
  | none => rw [hq] at hi; cases hi
  | some q =>
    rw [hq] at hi
    have e : piece q.1 (getF y q.2) = wd := by simpa using hi
    have hr : R64 (getF y q.2) := getF_in h.1 h.2.1 _
    unfold piece letL at e
    split at e
    · exact h1 _ hr e.symm
    · split at e
      · exact h2 _ hr e.symm
      · exact h3 _ hr e
theorem line_yes {l : List UInt8} {rs : List Int} {n op : Int} (hn : R64 n) (h0 : textX (stepW op rs n) ≠ []) (h1 : textX (stepW op rs n) = l) : IsLine l (stepW op rs n) :=
  (isLine_text (by show R64 _; rw [stepW_n]; exact hn) (by rw [← h1]; exact h0)).2 h1
theorem line_no {l : List UInt8} {rs : List Int} {n : Int} (hw : WordsTo ((spl 32 l).tail.take 4) rs n) (h : textX (stepW (opOfL ((spl 32 l).headD []) : Nat) rs n) ≠ [] → textX (stepW (opOfL ((spl 32 l).headD []) : Nat) rs n) ≠ l) : ∀ y, ¬ IsLine l y := by
  intro y hy
  rw [hy.from hw] at h
  have e := (isLine_text hy.2.1 hy.ne).1 hy
  exact h (by rw [e]; exact hy.ne) e
end Go.Proofs.YtjcocpdicogecaaGreatDoor
