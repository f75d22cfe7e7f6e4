/- The code of a program as mathematics: blocks by Order, ends, where blocks begin, jumps aimed. -/
import Derived.Test.YtkejplddeelahaaGreatDoorKEmA
import Derived.Test.YtkejplddeelahaaGreatDoorKMake
namespace Go.Proofs.YtkejplddeelahaaGreatDoor
set_option linter.unusedVariables false

def jumpE (x : InsD) : Bool := decide (x.op = 9 ∨ x.op = 10)
def termL (t : TermD) : List InsD :=
  if t.k = 1 then [⟨9, 0, 0, 0, t.t⟩] else if t.k = 2 then takeL t.a 4 ++ [⟨10, 0, takeR t.a 4, 0, t.e⟩, ⟨9, 0, 0, 0, t.t⟩] else takeL t.a 4 ++ [⟨11, 0, takeR t.a 4, 0, 0⟩]
/-- The steps of the first j places. -/
def listTo (l : List InsD) : Nat → List InsD
  | 0 => []
  | j + 1 => match l[j]? with
    | some x => listTo l j ++ emitX x
    | none => listTo l j
def blockL (x : BlockD) : List InsD := listTo x.list x.list.length ++ termL x.term
/-- The code of the first k blocks of an order; jumps name blocks. -/
def codeTo (F : FnD) (o : List Int) : Nat → List InsD
  | 0 => []
  | k + 1 => match o[k]? with
    | some b => match F.blocks[b.toNat]? with
      | some x => codeTo F o k ++ blockL x
      | none => codeTo F o k
    | none => codeTo F o k
/-- Where the blocks begin. -/
def begTo (F : FnD) (o : List Int) : Nat → Nat → Int
  | 0 => fun _ => 0
  | k + 1 => updN (begTo F o k) (o.getD k 0).toNat ((codeTo F o k).length : Int)
def aimE (bg : Nat → Int) (x : InsD) : InsD := if jumpE x = true then ⟨x.op, x.d, x.a, x.b, bg x.n.toNat⟩ else x
theorem listTo_next {l : List InsD} {j : Nat} {x : InsD} (h : l[j]? = some x) : listTo l (j + 1) = listTo l j ++ emitX x := by rw [listTo, h]
theorem codeTo_next {F : FnD} {o : List Int} {k : Nat} {b : Int} {x : BlockD} (h : o[k]? = some b) (hx : F.blocks[b.toNat]? = some x) : codeTo F o (k + 1) = codeTo F o k ++ blockL x := by rw [codeTo, h]; simp [hx]
theorem listTo_len (l : List InsD) (j : Nat) : (listTo l j).length ≤ 4 * j := by
  induction j with
  | zero => simp [listTo]
  | succ j ih =>
    cases h : l[j]? with
    | none =>
      have e : listTo l (j + 1) = listTo l j := by rw [listTo, h]
      rw [e]
      omega
    | some x =>
      rw [listTo_next h, List.length_append]
      have := emitX_len x
      omega
theorem termL_len (t : TermD) : (termL t).length ≤ 3 := by
  have h := takeL_len t.a 4
  unfold termL
  by_cases e1 : t.k = 1
  · rw [if_pos e1]; simp
  rw [if_neg e1]
  by_cases e2 : t.k = 2
  · rw [if_pos e2, List.length_append]; simp; omega
  · rw [if_neg e2, List.length_append]; simp; omega
end Go.Proofs.YtkejplddeelahaaGreatDoor
