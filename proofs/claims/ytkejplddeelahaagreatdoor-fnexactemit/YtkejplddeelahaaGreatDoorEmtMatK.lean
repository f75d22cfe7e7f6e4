/- The code of a program: bounds, and which of it is right. -/
import Derived.Test.YtkejplddeelahaaGreatDoorEmtDefK
import Derived.Test.YtkejplddeelahaaGreatDoorKMa
import Derived.Test.YtkejplddeelahaaGreatDoorKEdge
import Derived.Test.YtkejplddeelahaaGreatDoorKDfs
namespace Go.Proofs.YtkejplddeelahaaGreatDoor
set_option linter.unusedVariables false

theorem order_in {F : FnD} (h : FnShape F) : ∀ b ∈ orderOf F, 0 ≤ b ∧ b < (F.blocks.length : Int) := by
  intro b hb
  rw [orderOf_yes h, List.mem_reverse] at hb
  exact (wayOf_len h).2.2 b hb
theorem blockL_len {F : FnD} (h : FnShape F) {j : Nat} {x : BlockD} (hx : F.blocks[j]? = some x) : (blockL x).length ≤ 99 := by
  have hb := (h.2.2.2.2 j x hx).2.1
  have h1 := listTo_len x.list x.list.length
  have h2 := termL_len x.term
  unfold blockL
  rw [List.length_append]
  omega
theorem codeTo_len {F : FnD} (h : FnShape F) (o : List Int) (k : Nat) : (codeTo F o k).length ≤ 99 * k := by
  induction k with
  | zero => simp [codeTo]
  | succ k ih =>
    cases e : o[k]? with
    | none =>
      have e9 : codeTo F o (k + 1) = codeTo F o k := by rw [codeTo, e]
      rw [e9]
      omega
    | some b =>
      cases e2 : F.blocks[b.toNat]? with
      | none =>
        have e9 : codeTo F o (k + 1) = codeTo F o k := by rw [codeTo, e]; simp [e2]
        rw [e9]
        omega
      | some x =>
        rw [codeTo_next e e2, List.length_append]
        have := blockL_len h e2
        omega
/-- A step that is none of a jump, with an op that there is. -/
def Quiet (s : InsD) : Prop := jumpE s = false ∧ 1 ≤ s.op ∧ s.op ≤ 21
theorem quiet_of {op d a b n : Int} (h1 : 1 ≤ op) (h2 : op ≤ 21) (h9 : op ≠ 9) (h10 : op ≠ 10) : Quiet ⟨op, d, a, b, n⟩ := ⟨by simp [jumpE, h9, h10], h1, h2⟩
theorem take_quiet {h way : Int} : ∀ s ∈ takeL h way, Quiet s := fun s hs => by
  unfold takeL at hs
  split at hs
  · rw [List.mem_singleton] at hs
    subst hs
    exact quiet_of (by omega) (by omega) (by omega) (by omega)
  · simp at hs
theorem give_quiet {h op a b n : Int} (h1 : 1 ≤ op) (h2 : op ≤ 21) (h9 : op ≠ 9) (h10 : op ≠ 10) : ∀ s ∈ giveL h op a b n, Quiet s := fun s hs => by
  unfold giveL at hs
  split at hs
  · simp only [List.mem_cons, List.not_mem_nil, or_false] at hs
    rcases hs with rfl | rfl
    · exact quiet_of h1 h2 h9 h10
    · exact quiet_of (by omega) (by omega) (by omega) (by omega)
  · rw [List.mem_singleton] at hs
    subst hs
    exact quiet_of h1 h2 h9 h10
theorem copy_quiet {d a : Int} : ∀ s ∈ copyL d a, Quiet s := fun s hs => by
  unfold copyL at hs
  split at hs
  · rw [List.mem_append, List.mem_singleton] at hs
    rcases hs with hs | rfl
    · exact take_quiet s hs
    · exact quiet_of (by omega) (by omega) (by omega) (by omega)
  · split at hs
    · rw [List.mem_singleton] at hs
      subst hs
      exact quiet_of (by omega) (by omega) (by omega) (by omega)
    · rw [List.mem_singleton] at hs
      subst hs
      exact quiet_of (by omega) (by omega) (by omega) (by omega)
theorem emit_quiet (x : InsD) : ∀ s ∈ emitX x, Quiet s := fun s hs => by
  unfold emitX at hs
  split at hs
  case isFalse => simp at hs
  unfold stepsX at hs
  by_cases e0 : x.op = 20
  · rw [if_pos e0] at hs; exact give_quiet (by omega) (by omega) (by omega) (by omega) s hs
  rw [if_neg e0] at hs
  by_cases e1 : x.op = 21
  · rw [if_pos e1, List.mem_append] at hs
    rcases hs with hs | hs
    · exact take_quiet s hs
    · exact give_quiet (by omega) (by omega) (by omega) (by omega) s hs
  rw [if_neg e1] at hs
  by_cases e2 : x.op = 22
  · rw [if_pos e2, List.mem_append, List.mem_append, List.mem_singleton] at hs
    rcases hs with hs | hs | rfl
    · exact take_quiet s hs
    · exact take_quiet s hs
    · exact quiet_of (by omega) (by omega) (by omega) (by omega)
  rw [if_neg e2] at hs
  by_cases e3 : x.op = 23
  · rw [if_pos e3, List.mem_append, List.mem_singleton] at hs
    rcases hs with hs | rfl
    · exact take_quiet s hs
    · exact quiet_of (by omega) (by omega) (by omega) (by omega)
  rw [if_neg e3] at hs
  by_cases e4 : x.op = 24
  · rw [if_pos e4] at hs; exact give_quiet (by omega) (by omega) (by omega) (by omega) s hs
  rw [if_neg e4] at hs
  by_cases e5 : x.op = 25
  · rw [if_pos e5] at hs; exact copy_quiet s hs
  rw [if_neg e5] at hs
  by_cases ew : 1 ≤ x.op ∧ x.op ≤ 10
  · rw [if_pos ew, List.mem_append, List.mem_append] at hs
    rcases hs with hs | hs | hs
    · exact take_quiet s hs
    · exact take_quiet s hs
    · exact give_quiet (by omega) (by omega) (by omega) (by omega) s hs
  · rw [if_neg ew] at hs
    simp at hs
/-- A step of a code: its op, and where it jumps to. -/
def StepIn (n : Nat) (s : InsD) : Prop := (1 ≤ s.op ∧ s.op ≤ 21) ∧ (jumpE s = true → 0 ≤ s.n ∧ s.n < (n : Int))
theorem Quiet.in {s : InsD} (h : Quiet s) (n : Nat) : StepIn n s := ⟨h.2, fun e => by rw [h.1] at e; cases e⟩
theorem listTo_in (l : List InsD) (j n : Nat) : ∀ s ∈ listTo l j, StepIn n s := by
  induction j with
  | zero => intro s hs; simp [listTo] at hs
  | succ j ih =>
    intro s hs
    cases h : l[j]? with
    | none =>
      have e : listTo l (j + 1) = listTo l j := by rw [listTo, h]
      rw [e] at hs
      exact ih s hs
    | some x =>
      rw [listTo_next h, List.mem_append] at hs
      rcases hs with hs | hs
      · exact ih s hs
      · exact (emit_quiet x s hs).in n
theorem term_kinds {n V k a t e : Int} (h : termOkV n V k a t e = true) : (k = 1 ∧ 0 ≤ t ∧ t < n) ∨ (k = 2 ∧ (0 ≤ t ∧ t < n) ∧ (0 ≤ e ∧ e < n) ∧ 0 ≤ a ∧ a < V) ∨ (k = 3 ∧ 0 ≤ a ∧ a < V) := by
  unfold termOkV at h
  by_cases e1 : k = 1
  · rw [if_pos e1] at h
    simp only [Bool.and_eq_true] at h
    exact .inl ⟨e1, valIn_iff.1 h.1.1⟩
  rw [if_neg e1] at h
  by_cases e2 : k = 2
  · rw [if_pos e2] at h
    simp only [Bool.and_eq_true] at h
    exact .inr (.inl ⟨e2, valIn_iff.1 h.1.1, valIn_iff.1 h.1.2, valIn_iff.1 h.2⟩)
  rw [if_neg e2] at h
  by_cases e3 : k = 3
  · rw [if_pos e3] at h
    simp only [Bool.and_eq_true] at h
    exact .inr (.inr ⟨e3, valIn_iff.1 h.1.1⟩)
  · rw [if_neg e3] at h
    cases h
theorem term_in {n : Nat} {V : Int} {t : TermD} (h : termOkV n V t.k t.a t.t t.e = true) : ∀ s ∈ termL t, StepIn n s := by
  intro s hs
  unfold termL at hs
  rcases term_kinds h with ⟨k, h1⟩ | ⟨k, h1, h2, _⟩ | ⟨k, _⟩
  · rw [if_pos k, List.mem_singleton] at hs
    subst hs
    exact ⟨⟨by simp, by simp⟩, fun _ => h1⟩
  · rw [if_neg (by omega), if_pos k, List.mem_append] at hs
    rcases hs with hs | hs
    · exact (take_quiet s hs).in n
    · simp only [List.mem_cons, List.not_mem_nil, or_false] at hs
      rcases hs with rfl | rfl
      · exact ⟨⟨by simp, by simp⟩, fun _ => h2⟩
      · exact ⟨⟨by simp, by simp⟩, fun _ => h1⟩
  · rw [if_neg (by omega), if_neg (by omega), List.mem_append, List.mem_singleton] at hs
    rcases hs with hs | rfl
    · exact (take_quiet s hs).in n
    · exact (quiet_of (by omega) (by omega) (by omega) (by omega)).in n
theorem code_in {F : FnD} (h : FnShape F) (o : List Int) (k : Nat) : ∀ s ∈ codeTo F o k, StepIn F.blocks.length s := by
  induction k with
  | zero => intro s hs; simp [codeTo] at hs
  | succ k ih =>
    intro s hs
    cases e : o[k]? with
    | none =>
      have e9 : codeTo F o (k + 1) = codeTo F o k := by rw [codeTo, e]
      rw [e9] at hs
      exact ih s hs
    | some b =>
      cases e2 : F.blocks[b.toNat]? with
      | none =>
        have e9 : codeTo F o (k + 1) = codeTo F o k := by rw [codeTo, e]; simp [e2]
        rw [e9] at hs
        exact ih s hs
      | some x =>
        rw [codeTo_next e e2, List.mem_append] at hs
        rcases hs with hs | hs
        · exact ih s hs
        · unfold blockL at hs
          rw [List.mem_append] at hs
          rcases hs with hs | hs
          · exact listTo_in _ _ _ s hs
          · exact term_in (h.2.2.2.2 _ x e2).2.2.2.2 s hs
theorem termL_pos (t : TermD) : 0 < (termL t).length := by
  unfold termL
  by_cases e1 : t.k = 1
  · rw [if_pos e1]; simp
  rw [if_neg e1]
  by_cases e2 : t.k = 2
  · rw [if_pos e2, List.length_append]; simp
  · rw [if_neg e2, List.length_append]; simp
/-- The code of a program, jumps naming blocks; and aimed. -/
noncomputable def rawE (F : FnD) : List InsD := codeTo F (orderOf F) (orderOf F).length
noncomputable def codeE (F : FnD) : List InsD := (rawE F).map (aimE (begTo F (orderOf F) (orderOf F).length))
noncomputable def emitB (F : FnD) : Bool := @decide (FnPlain F ∧ F.values ≤ 40 ∧ machineOkB (codeE F) = true) (Classical.propDecidable _)
noncomputable def emitOf (F : FnD) : List InsD := if emitB F = true then codeE F else []
theorem aimE_op (bg : Nat → Int) (x : InsD) : (aimE bg x).op = x.op := by unfold aimE; split <;> rfl
theorem codeE_ops {F : FnD} (h : FnShape F) : OpsIn (codeE F) := by
  intro x hx
  unfold codeE at hx
  rw [List.mem_map] at hx
  obtain ⟨y, hy, rfl⟩ := hx
  rw [aimE_op]
  have := (code_in h _ _ y hy).1
  omega
theorem rawE_ops {F : FnD} (h : FnShape F) : OpsIn (rawE F) := fun x hx => by have := (code_in h _ _ x hx).1; omega
theorem rawE_jumps {F : FnD} (h : FnShape F) : ∀ x ∈ rawE F, jumpE x = true → 0 ≤ x.n ∧ x.n < (F.blocks.length : Int) := fun x hx hj => (code_in h _ _ x hx).2 hj
theorem rawE_len {F : FnD} (h : FnShape F) : (rawE F).length ≤ 9900 := by
  have h1 := codeTo_len h (orderOf F) (orderOf F).length
  have h2 := orderOf_small F
  unfold rawE
  omega
end Go.Proofs.YtkejplddeelahaaGreatDoor
