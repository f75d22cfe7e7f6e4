/- Trimming as mathematics: which steps stay, where each is then, where jumps go. -/
import Derived.Test.YtgnngibbojjebaaDoorMaDef
namespace Go.Proofs.YtgnngibbojjebaaDoor
set_option linter.unusedVariables false

def jumpB (x : InsD) : Bool := decide (x.op = 9 ∨ x.op = 10)
def idleB (x : InsD) (i : Int) : Bool := if x.op = 2 then decide (x.d = x.a) else if x.op = 9 ∨ x.op = 10 then decide (x.n = i + 1) else false
def staysB (n i : Nat) (x : InsD) : Bool := decide (i + 1 = n) || !idleB x i
/-- Of the first k steps those that stay. -/
def keptL (l : List InsD) : Nat → List InsD
  | 0 => []
  | k + 1 => match l[k]? with
    | some x => if staysB l.length k x = true then keptL l k ++ [x] else keptL l k
    | none => keptL l k
def keptN (l : List InsD) (k : Nat) : Nat := (keptL l k).length
def aimS (l : List InsD) (x : InsD) : InsD := if jumpB x = true then ⟨x.op, x.d, x.a, x.b, (keptN l x.n.toNat : Int)⟩ else x
def trimL (l : List InsD) : List InsD := (keptL l l.length).map (aimS l)
def trimOf (l : List InsD) : List InsD := if machineOkB l = true then trimL l else l

theorem keptL_yes {l : List InsD} {k : Nat} {x : InsD} (hx : l[k]? = some x) (h : staysB l.length k x = true) : keptL l (k + 1) = keptL l k ++ [x] := by
  rw [keptL, hx]
  simp [h]
theorem keptL_no {l : List InsD} {k : Nat} {x : InsD} (hx : l[k]? = some x) (h : staysB l.length k x = false) : keptL l (k + 1) = keptL l k := by
  rw [keptL, hx]
  simp [h]
theorem keptN_yes {l : List InsD} {k : Nat} {x : InsD} (hx : l[k]? = some x) (h : staysB l.length k x = true) : keptN l (k + 1) = keptN l k + 1 := by
  unfold keptN
  rw [keptL_yes hx h, List.length_append]
  rfl
theorem keptN_no {l : List InsD} {k : Nat} {x : InsD} (hx : l[k]? = some x) (h : staysB l.length k x = false) : keptN l (k + 1) = keptN l k := by
  unfold keptN
  rw [keptL_no hx h]
theorem keptN_le (l : List InsD) (k : Nat) : keptN l k ≤ k := by
  induction k with
  | zero => exact Nat.le_refl _
  | succ k ih =>
    cases hx : l[k]? with
    | none =>
      have e : keptL l (k + 1) = keptL l k := by rw [keptL, hx]
      unfold keptN at ih ⊢
      rw [e]
      omega
    | some x =>
      cases h : staysB l.length k x with
      | true => rw [keptN_yes hx h]; omega
      | false => rw [keptN_no hx h]; omega
theorem keptN_last {l : List InsD} {x : InsD} {k : Nat} (hl : l.length = k + 1) (hx : l[k]? = some x) : keptN l l.length = keptN l k + 1 := by
  rw [hl]
  exact keptN_yes hx (by simp [staysB, hl])
theorem keptL_mem {l : List InsD} {k : Nat} {x : InsD} (h : x ∈ keptL l k) : x ∈ l := by
  induction k with
  | zero => simp [keptL] at h
  | succ k ih =>
    cases hx : l[k]? with
    | none => rw [keptL, hx] at h; exact ih h
    | some y =>
      cases hs : staysB l.length k y with
      | true =>
        rw [keptL_yes hx hs, List.mem_append] at h
        rcases h with h | h
        · exact ih h
        · rw [List.mem_singleton] at h
          subst h
          exact List.mem_of_getElem? hx
      | false => rw [keptL_no hx hs] at h; exact ih h
theorem jump_place {l : List InsD} {x : InsD} (h : machineOkB l = true) (hx : x ∈ l) (hj : jumpB x = true) : 0 ≤ x.n ∧ x.n < l.length := by
  obtain ⟨_, _, _, _, h4⟩ := stepOkB_parts ((machineOkB_parts h).2.2.1 x hx)
  unfold jumpB at hj
  simp at hj
  have : holdsB 3 x.n l.length = true := by
    rcases hj with e | e
    · rw [e] at h4; exact h4
    · rw [e] at h4; exact h4
  simp [holdsB] at this
  omega
theorem move_regs {l : List InsD} {x : InsD} (h : machineOkB l = true) (hx : x ∈ l) : 0 ≤ x.d ∧ x.d ≤ 7 := (stepOkB_regs ((machineOkB_parts h).2.2.1 x hx)).1
theorem trimOf_len (l : List InsD) : (trimOf l).length ≤ l.length := by
  unfold trimOf
  split
  · unfold trimL
    rw [List.length_map]
    exact keptN_le l l.length
  · exact Nat.le_refl _
end Go.Proofs.YtgnngibbojjebaaDoor
