/- Code as text: what a text is read as. -/
import Derived.Test.YtjcocpdicogecaaGreatDoorTxMat
namespace Go.Proofs.YtjcocpdicogecaaGreatDoor
open Go.Lib
set_option linter.unusedVariables false

def joinX (l : List InsD) : List UInt8 := l.flatMap (fun x => lineX x ++ [10])
def StepsIn (l : List InsD) : Prop := ∀ x ∈ l, stepOkB x 900 = true ∧ InR x
def ReadAs (t : List UInt8) (l : List InsD) : Prop := joinX l = t ∧ StepsIn l
theorem joinX_cons (x : InsD) (l : List InsD) : joinX (x :: l) = lineX x ++ 10 :: joinX l := by simp [joinX]
theorem joinX_snoc (x : InsD) (l : List InsD) : joinX (l ++ [x]) = joinX l ++ (lineX x ++ [10]) := by simp [joinX]
theorem joinX_app (l m : List InsD) : joinX (l ++ m) = joinX l ++ joinX m := by simp [joinX]
theorem tx_cut10 : ∀ {a b c d : List UInt8}, (∀ x ∈ a, x ≠ 10) → (∀ x ∈ b, x ≠ 10) → a ++ 10 :: c = b ++ 10 :: d → a = b ∧ c = d
  | [], [], c, d, _, _, h => by simp at h; exact ⟨rfl, h⟩
  | [], y :: b, c, d, _, h2, h => by simp at h; exact absurd h.1.symm (h2 y List.mem_cons_self)
  | x :: a, [], c, d, h1, _, h => by simp at h; exact absurd h.1 (h1 x List.mem_cons_self)
  | x :: a, y :: b, c, d, h1, h2, h => by
    simp only [List.cons_append, List.cons.injEq] at h
    obtain ⟨e1, e2⟩ := tx_cut10 (fun z hz => h1 z (List.mem_cons_of_mem _ hz)) (fun z hz => h2 z (List.mem_cons_of_mem _ hz)) h.2
    exact ⟨by rw [h.1, e1], e2⟩
theorem tx_head {t : List UInt8} {b r : List UInt8} {l : List InsD} (h : ReadAs (b ++ 10 :: r) l) (hb : ∀ c ∈ b, c ≠ 10) : ∃ x l', l = x :: l' ∧ IsLine b x ∧ ReadAs r l' := by
  obtain ⟨h1, h2⟩ := h
  cases l with
  | nil => simp [joinX] at h1
  | cons x l' =>
    rw [joinX_cons] at h1
    obtain ⟨e1, e2⟩ := tx_cut10 (line_no10 x) hb h1
    have h3 := h2 x List.mem_cons_self
    exact ⟨x, l', rfl, ⟨h3.1, h3.2, e1⟩, e2, fun z hz => h2 z (List.mem_cons_of_mem _ hz)⟩
theorem tx_over (l0 : List InsD) : ∀ {t : List UInt8} {l : List InsD}, ReadAs (joinX l0 ++ t) l → StepsIn l0 → ∃ l', l = l0 ++ l' ∧ ReadAs t l' := by
  induction l0 with
  | nil => intro t l h _; exact ⟨l, rfl, h⟩
  | cons y l0 ih =>
    intro t l h hs
    rw [joinX_cons, List.append_assoc, List.cons_append] at h
    obtain ⟨x, l1, rfl, hx, h1⟩ := tx_head (t := t) h (line_no10 y)
    have hy := hs y List.mem_cons_self
    have e : x = y := hx.uniq ⟨hy.1, hy.2, rfl⟩
    subst e
    obtain ⟨l2, rfl, h2⟩ := ih h1 (fun z hz => hs z (List.mem_cons_of_mem _ hz))
    exact ⟨l2, rfl, h2⟩
/-- A line that is none of a step: the text is read as nothing. -/
theorem tx_step {l0 : List InsD} {b r : List UInt8} {l : List InsD} (h : ReadAs (joinX l0 ++ (b ++ 10 :: r)) l) (hb : ∀ c ∈ b, c ≠ 10) (hs : StepsIn l0) : ∃ x, IsLine b x := by
  obtain ⟨l1, rfl, h1⟩ := tx_over l0 h hs
  obtain ⟨x, _, _, hx, _⟩ := tx_head (t := b) h1 hb
  exact ⟨x, hx⟩
theorem tx_rest {l0 : List InsD} {b : List UInt8} {l : List InsD} (h : ReadAs (joinX l0 ++ b) l) (hb : ∀ c ∈ b, c ≠ 10) (hs : StepsIn l0) : b = [] := by
  obtain ⟨l1, rfl, h1, _⟩ := tx_over l0 h hs
  cases l1 with
  | nil => rw [← h1]; rfl
  | cons x l2 =>
    rw [joinX_cons] at h1
    exact absurd rfl (hb 10 (by rw [← h1]; simp))
theorem tx_all {l0 l : List InsD} (h : ReadAs (joinX l0) l) (hs : StepsIn l0) : l = l0 := by
  obtain ⟨l1, rfl, h1, _⟩ := tx_over (t := []) l0 (by rw [List.append_nil]; exact h) hs
  cases l1 with
  | nil => simp
  | cons x l2 => rw [joinX_cons] at h1; simp at h1
noncomputable def parseB (t : List UInt8) : Bool := @decide (∃ l, ReadAs t l ∧ machineOkB l = true) (Classical.propDecidable _)
noncomputable def parseOf (t : List UInt8) : List InsD := @dite _ (∃ l, ReadAs t l ∧ machineOkB l = true) (Classical.propDecidable _) (fun h => h.choose) (fun _ => [])
theorem parse_yes {l : List InsD} (hs : StepsIn l) (h : machineOkB l = true) : parseB (joinX l) = true ∧ parseOf (joinX l) = l := by
  have hx : ∃ m, ReadAs (joinX l) m ∧ machineOkB m = true := ⟨l, ⟨rfl, hs⟩, h⟩
  refine ⟨@decide_eq_true _ (Classical.propDecidable _) hx, ?_⟩
  unfold parseOf
  rw [dif_pos hx]
  exact tx_all hx.choose_spec.1 hs
theorem parse_no {t : List UInt8} (h : ∀ l, ReadAs t l → machineOkB l = true → False) : parseB t = false ∧ parseOf t = [] := by
  have hx : ¬ ∃ m, ReadAs t m ∧ machineOkB m = true := fun ⟨m, h1, h2⟩ => h m h1 h2
  refine ⟨@decide_eq_false _ (Classical.propDecidable _) hx, ?_⟩
  unfold parseOf
  rw [dif_neg hx]
theorem machine_steps {l : List InsD} (h : machineOkB l = true) (hr : ∀ x ∈ l, InR x) : StepsIn l := fun x hx => by
  obtain ⟨_, h2, h3, _⟩ := machineOkB_parts h
  exact ⟨stepOkB_more (h3 x hx) (by omega), hr x hx⟩
theorem join_text : ∀ {m : List InsD}, (∀ x ∈ m, stepOkB x 900 = true) → m.flatMap (fun x => textX x ++ [10]) = joinX m
  | [], _ => rfl
  | x :: m, h => by
    rw [joinX_cons, List.flatMap_cons, textX_line (h x List.mem_cons_self), join_text (fun z hz => h z (List.mem_cons_of_mem _ hz))]
    simp
theorem printL_yes {l : List InsD} (h : machineOkB l = true) : printL l = joinX l := by
  unfold printL
  rw [if_pos h]
  obtain ⟨_, h2, h3, _⟩ := machineOkB_parts h
  exact join_text (fun x hx => stepOkB_more (h3 x hx) (by omega))
theorem printL_no {l : List InsD} (h : machineOkB l = false) : printL l = [] := if_neg (by rw [h]; simp)
theorem parseOf_len (t : List UInt8) : (parseOf t).length ≤ 900 := by
  by_cases h : ∃ l, ReadAs t l ∧ machineOkB l = true
  · obtain ⟨l, ⟨rfl, hs⟩, hm⟩ := h
    rw [(parse_yes hs hm).2]
    exact (machineOkB_parts hm).2.1
  · rw [(parse_no (fun l h1 h2 => h ⟨l, h1, h2⟩)).2]
    simp
end Go.Proofs.YtjcocpdicogecaaGreatDoor
