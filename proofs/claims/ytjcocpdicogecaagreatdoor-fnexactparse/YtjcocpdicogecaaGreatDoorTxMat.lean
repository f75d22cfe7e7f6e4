/- Steps as text: what a line is read as. -/
import Derived.Test.YtjcocpdicogecaaGreatDoorTxDef
import Derived.Lib.Strings
namespace Go.Proofs.YtjcocpdicogecaaGreatDoor
open Go.Lib
set_option linter.unusedVariables false

def InR (x : InsD) : Prop := -9223372036854775808 ≤ x.n ∧ x.n ≤ 9223372036854775807
/-- A line that is one of a step. -/
def IsLine (b : List UInt8) (x : InsD) : Prop := stepOkB x 900 = true ∧ InR x ∧ lineX x = b

def getF (x : InsD) (k : Nat) : Int := if k = 1 then x.d else if k = 2 then x.a else if k = 3 then x.b else x.n
def setF (x : InsD) (k : Nat) (v : Int) : InsD := if k = 1 then { x with d := v } else if k = 2 then { x with a := v } else if k = 3 then { x with b := v } else { x with n := v }
/-- What an op names: what it stands for, and which of the numbers. -/
def kindsX (op : Int) : List (Int × Nat) :=
  (if op = 4 then [((formV op).n, 4), ((formV op).a, 2)] else [((formV op).r, 1), ((formV op).a, 2), ((formV op).b, 3), ((formV op).n, 4)]).filter (fun q => decide (q.1 ≠ 0))
theorem fieldsX_kinds (x : InsD) : fieldsX x = (kindsX x.op).map (fun q => (q.1, getF x q.2)) := by
  unfold fieldsX kindsX
  by_cases h : x.op = 4
  · rw [if_pos h, if_pos h]
    have e : formV x.op = ⟨0, 1, 0, 2⟩ := by rw [h]; rfl
    rw [e]
    rfl
  · rw [if_neg h, if_neg h]
    generalize formV x.op = f
    obtain ⟨f0, f1, f2, f3⟩ := f
    simp only [List.filter_cons, List.filter_nil]
    by_cases h0 : f0 = 0 <;> by_cases h1 : f1 = 0 <;> by_cases h2 : f2 = 0 <;> by_cases h3 : f3 = 0 <;> simp [h0, h1, h2, h3, getF]
theorem kinds_len (op : Int) : (kindsX op).length ≤ 4 := by
  unfold kindsX
  split
  · exact Nat.le_trans (List.length_filter_le _ _) (by simp)
  · exact Nat.le_trans (List.length_filter_le _ _) (by simp)

/-- The numbers put where an op names them. -/
def putF (x : InsD) : List (Int × Nat) → List Int → InsD
  | q :: ks, v :: vs => putF (setF x q.2 v) ks vs
  | _, _ => x
theorem kinds_of (op : Int) : op = 1 ∧ kindsX op = [(1, 1), (4, 4)] ∨ op = 2 ∧ kindsX op = [(1, 1), (1, 2)] ∨ op = 3 ∧ kindsX op = [(1, 1), (2, 4)] ∨ op = 4 ∧ kindsX op = [(2, 4), (1, 2)] ∨ op = 5 ∧ kindsX op = [(1, 1), (1, 2)] ∨ op = 6 ∧ kindsX op = [(1, 2), (1, 3)] ∨ op = 7 ∧ kindsX op = [(1, 2)] ∨ op = 8 ∧ kindsX op = [(1, 1)] ∨ op = 9 ∧ kindsX op = [(3, 4)] ∨ op = 10 ∧ kindsX op = [(1, 2), (3, 4)] ∨ op = 11 ∧ kindsX op = [(1, 2)] ∨ (12 ≤ op ∧ op ≤ 21) ∧ kindsX op = [(1, 1), (1, 2), (1, 3)] ∨ (op < 1 ∨ 21 < op) ∧ kindsX op = [] := by
  rcases op_kinds op with rfl | rfl | rfl | rfl | rfl | rfl | rfl | rfl | rfl | rfl | rfl | ⟨h1, h2⟩ | h
  · exact .inl ⟨rfl, rfl⟩
  · exact .inr (.inl ⟨rfl, rfl⟩)
  · exact .inr (.inr (.inl ⟨rfl, rfl⟩))
  · exact .inr (.inr (.inr (.inl ⟨rfl, rfl⟩)))
  · exact .inr (.inr (.inr (.inr (.inl ⟨rfl, rfl⟩))))
  · exact .inr (.inr (.inr (.inr (.inr (.inl ⟨rfl, rfl⟩)))))
  · exact .inr (.inr (.inr (.inr (.inr (.inr (.inl ⟨rfl, rfl⟩))))))
  · exact .inr (.inr (.inr (.inr (.inr (.inr (.inr (.inl ⟨rfl, rfl⟩)))))))
  · exact .inr (.inr (.inr (.inr (.inr (.inr (.inr (.inr (.inl ⟨rfl, rfl⟩))))))))
  · exact .inr (.inr (.inr (.inr (.inr (.inr (.inr (.inr (.inr (.inl ⟨rfl, rfl⟩)))))))))
  · exact .inr (.inr (.inr (.inr (.inr (.inr (.inr (.inr (.inr (.inr (.inl ⟨rfl, rfl⟩))))))))))
  · refine .inr (.inr (.inr (.inr (.inr (.inr (.inr (.inr (.inr (.inr (.inr (.inl ⟨⟨h1, h2⟩, ?_⟩)))))))))))
    unfold kindsX
    rw [formV_word h1 h2, if_neg (by omega)]
    rfl
  · refine .inr (.inr (.inr (.inr (.inr (.inr (.inr (.inr (.inr (.inr (.inr (.inr ⟨h, ?_⟩)))))))))))
    unfold kindsX
    rw [if_neg (by omega)]
    unfold formV
    rw [if_neg (by omega)]
    unfold formAt
    split <;> first | rfl | omega
theorem formV_kinds (op : Int) : op = 1 ∧ formV op = ⟨1, 0, 0, 4⟩ ∨ op = 2 ∧ formV op = ⟨1, 1, 0, 0⟩ ∨ op = 3 ∧ formV op = ⟨1, 0, 0, 2⟩ ∨ op = 4 ∧ formV op = ⟨0, 1, 0, 2⟩ ∨ op = 5 ∧ formV op = ⟨1, 1, 0, 0⟩ ∨ op = 6 ∧ formV op = ⟨0, 1, 1, 0⟩ ∨ op = 7 ∧ formV op = ⟨0, 1, 0, 0⟩ ∨ op = 8 ∧ formV op = ⟨1, 0, 0, 0⟩ ∨ op = 9 ∧ formV op = ⟨0, 0, 0, 3⟩ ∨ op = 10 ∧ formV op = ⟨0, 1, 0, 3⟩ ∨ op = 11 ∧ formV op = ⟨0, 1, 0, 0⟩ ∨ (12 ≤ op ∧ op ≤ 21) ∧ formV op = ⟨1, 1, 1, 0⟩ ∨ (op < 1 ∨ 21 < op) := by
  rcases op_kinds op with rfl | rfl | rfl | rfl | rfl | rfl | rfl | rfl | rfl | rfl | rfl | ⟨h1, h2⟩ | h
  · exact .inl ⟨rfl, rfl⟩
  · exact .inr (.inl ⟨rfl, rfl⟩)
  · exact .inr (.inr (.inl ⟨rfl, rfl⟩))
  · exact .inr (.inr (.inr (.inl ⟨rfl, rfl⟩)))
  · exact .inr (.inr (.inr (.inr (.inl ⟨rfl, rfl⟩))))
  · exact .inr (.inr (.inr (.inr (.inr (.inl ⟨rfl, rfl⟩)))))
  · exact .inr (.inr (.inr (.inr (.inr (.inr (.inl ⟨rfl, rfl⟩))))))
  · exact .inr (.inr (.inr (.inr (.inr (.inr (.inr (.inl ⟨rfl, rfl⟩)))))))
  · exact .inr (.inr (.inr (.inr (.inr (.inr (.inr (.inr (.inl ⟨rfl, rfl⟩))))))))
  · exact .inr (.inr (.inr (.inr (.inr (.inr (.inr (.inr (.inr (.inl ⟨rfl, rfl⟩)))))))))
  · exact .inr (.inr (.inr (.inr (.inr (.inr (.inr (.inr (.inr (.inr (.inl ⟨rfl, rfl⟩))))))))))
  · exact .inr (.inr (.inr (.inr (.inr (.inr (.inr (.inr (.inr (.inr (.inr (.inl ⟨⟨h1, h2⟩, formV_word h1 h2⟩)))))))))))
  · exact .inr (.inr (.inr (.inr (.inr (.inr (.inr (.inr (.inr (.inr (.inr (.inr h)))))))))))
theorem holds0 {x n : Int} (h : holdsB 0 x n = true) : x = 0 := by simpa [holdsB] using h
/-- A step is what its op names, and else zero. -/
theorem putF_is {x : InsD} {n : Int} (h : stepOkB x n = true) : putF ⟨x.op, 0, 0, 0, 0⟩ (kindsX x.op) ((kindsX x.op).map (fun q => getF x q.2)) = x := by
  obtain ⟨h0, hr, ha, hb, hn⟩ := stepOkB_parts h
  obtain ⟨op, d, a, b, m⟩ := x
  dsimp only at h0 hr ha hb hn ⊢
  rcases kinds_of op with ⟨e, k⟩ | ⟨e, k⟩ | ⟨e, k⟩ | ⟨e, k⟩ | ⟨e, k⟩ | ⟨e, k⟩ | ⟨e, k⟩ | ⟨e, k⟩ | ⟨e, k⟩ | ⟨e, k⟩ | ⟨e, k⟩ | ⟨e, k⟩ | ⟨e, k⟩
  all_goals first | (exfalso; omega) | skip
  all_goals rw [k]
  all_goals first | subst e | rw [formV_word e.1 e.2] at hr ha hb hn
  all_goals (try have e0 := holds0 hr); (try have e1 := holds0 ha); (try have e2 := holds0 hb); (try have e3 := holds0 hn)
  all_goals simp only [List.map_cons, List.map_nil, putF, setF, getF]
  all_goals simp_all
/-- The numbers of a step have 64 bits. -/
theorem getF_in {x : InsD} (h : stepOkB x 900 = true) (hr : InR x) (k : Nat) : -9223372036854775808 ≤ getF x k ∧ getF x k ≤ 9223372036854775807 := by
  obtain ⟨h1, h2, h3⟩ := stepOkB_regs h
  unfold getF InR at *
  split
  · omega
  · split
    · omega
    · split
      · omega
      · exact hr

theorem trim_piece (p x : Int) : trimPrefix (piece p x) (letL p) = itoa x := by
  unfold piece trimPrefix hasPrefix
  rw [if_pos (by simp)]
  simp
theorem IsLine.op {b : List UInt8} {x : InsD} (h : IsLine b x) : opOfL ((spl 32 b).headD []) = x.op.toNat ∧ 1 ≤ x.op ∧ x.op ≤ 21 := by
  obtain ⟨h1, h2, rfl⟩ := h
  obtain ⟨h0, _⟩ := stepOkB_parts h1
  rw [spl_line]
  exact ⟨opOfL_nm _ (by omega) (by omega), h0⟩
theorem IsLine.pieces {b : List UInt8} {x : InsD} (h : IsLine b x) : (spl 32 b).tail = (kindsX x.op).map (fun q => piece q.1 (getF x q.2)) := by
  obtain ⟨h1, h2, rfl⟩ := h
  rw [spl_line, fieldsX_kinds]
  simp
theorem IsLine.num {b : List UInt8} {x : InsD} (h : IsLine b x) {j : Nat} {q : Int × Nat} (hq : (kindsX x.op)[j]? = some q) : ∃ p, (spl 32 b)[j + 1]? = some p ∧ atoiAll (trimPrefix p (letL q.1)) = .ok (getF x q.2) := by
  refine ⟨piece q.1 (getF x q.2), ?_, ?_⟩
  · have h9 := h.pieces
    rw [← List.getElem?_tail, h9, List.getElem?_map, hq]
    rfl
  · rw [trim_piece]
    have h9 := getF_in h.1 h.2.1 q.2
    exact atoi_itoa _ h9.1 h9.2
/-- A line is one of one step. -/
theorem IsLine.uniq {b : List UInt8} {x y : InsD} (hx : IsLine b x) (hy : IsLine b y) : x = y := by
  have e1 : x.op = y.op := by
    have a := hx.op
    have c := hy.op
    rw [a.1] at c
    omega
  have e2 : (kindsX x.op).map (fun q => getF x q.2) = (kindsX x.op).map (fun q => getF y q.2) := by
    apply List.map_congr_left
    intro q hq
    obtain ⟨j, hj⟩ := List.getElem?_of_mem hq
    obtain ⟨p, h1, h2⟩ := hx.num hj
    rw [e1] at hj
    obtain ⟨p', h3, h4⟩ := hy.num hj
    rw [h1] at h3
    cases h3
    rw [h2] at h4
    simp only [NumEnd.ok.injEq] at h4
    exact h4
  have h1 := putF_is hx.1
  have h2 := putF_is hy.1
  rw [← e1, ← e2] at h2
  rw [← h1, ← h2]
theorem textX_line {x : InsD} (h : stepOkB x 900 = true) : textX x = lineX x := if_pos h
theorem textX_no {x : InsD} (h : stepOkB x 900 = false) : textX x = [] := if_neg (by rw [h]; simp)
theorem lineX_ne {x : InsD} (h : stepOkB x 900 = true) : lineX x ≠ [] := by
  obtain ⟨h0, _⟩ := stepOkB_parts h
  unfold lineX
  intro e
  exact opNm_ne x.op.toNat (by omega) (by omega) (List.append_eq_nil_iff.1 e).1
theorem isLine_text {b : List UInt8} {x : InsD} (hr : InR x) (hb : b ≠ []) : IsLine b x ↔ textX x = b := by
  constructor
  · rintro ⟨h1, _, h2⟩
    rw [textX_line h1]
    exact h2
  · intro h
    cases e : stepOkB x 900 with
    | true => exact ⟨e, hr, by rw [← h, textX_line e]⟩
    | false => rw [textX_no e] at h; exact absurd h.symm hb
theorem IsLine.ne {b : List UInt8} {x : InsD} (h : IsLine b x) : b ≠ [] := by
  rw [← h.2.2]
  exact lineX_ne h.1
end Go.Proofs.YtjcocpdicogecaaGreatDoor
