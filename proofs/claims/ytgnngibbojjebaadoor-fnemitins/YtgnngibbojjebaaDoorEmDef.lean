/- Code from homes as mathematics: the steps of a place. -/
import Derived.Test.YtgnngibbojjebaaDoorUses
import Derived.Test.YtgnngibbojjebaaDoorDeep
import Derived.Test.YtgnngibbojjebaaDoorHmAll
namespace Go.Proofs.YtgnngibbojjebaaDoor
set_option linter.unusedVariables false

def takeL (h way : Int) : List InsD := if 4 ≤ h then [⟨3, way, 0, 0, h - 4⟩] else []
def takeR (h way : Int) : Int := if 4 ≤ h then way else h
def giveL (h op a b n : Int) : List InsD := if 4 ≤ h then [⟨op, 6, a, b, n⟩, ⟨4, 0, 6, 0, h - 4⟩] else [⟨op, h, a, b, n⟩]
def copyL (d a : Int) : List InsD := if 4 ≤ d then takeL a 4 ++ [⟨4, 0, takeR a 4, 0, d - 4⟩] else if 4 ≤ a then [⟨3, d, 0, 0, a - 4⟩] else [⟨2, d, a, 0, 0⟩]
/-- Are all values that a place names homes? -/
def homesX (x : InsD) : Bool := (!makesV x.op || homeB x.d) && (usesV x.op x.a x.b).all homeB
def stepsX (x : InsD) : List InsD :=
  if x.op = 20 then giveL x.d 1 0 0 x.n
  else if x.op = 21 then takeL x.a 4 ++ giveL x.d 5 (takeR x.a 4) 0 0
  else if x.op = 22 then takeL x.a 4 ++ (takeL x.b 5 ++ [⟨6, 0, takeR x.a 4, takeR x.b 5, 0⟩])
  else if x.op = 23 then takeL x.a 4 ++ [⟨7, 0, takeR x.a 4, 0, 0⟩]
  else if x.op = 24 then giveL x.d 8 0 0 0
  else if x.op = 25 then copyL x.d x.a
  else if 1 ≤ x.op ∧ x.op ≤ 10 then takeL x.a 4 ++ (takeL x.b 5 ++ giveL x.d (11 + x.op) (takeR x.a 4) (takeR x.b 5) 0)
  else []
def emitX (x : InsD) : List InsD := if homesX x = true then stepsX x else []
theorem takeL_len (h way : Int) : (takeL h way).length ≤ 1 := by unfold takeL; split <;> simp
theorem giveL_len (h op a b n : Int) : (giveL h op a b n).length ≤ 2 := by unfold giveL; split <;> simp
theorem copyL_len (d a : Int) : (copyL d a).length ≤ 2 := by
  unfold copyL
  split
  · have := takeL_len a 4
    simp
    omega
  · split <;> simp
theorem stepsX_len (x : InsD) : (stepsX x).length ≤ 4 := by
  have h1 := takeL_len x.a 4
  have h2 := takeL_len x.b 5
  have hg : ∀ op a b n, (giveL x.d op a b n).length ≤ 2 := giveL_len x.d
  unfold stepsX
  by_cases e0 : x.op = 20
  · rw [if_pos e0]; have := hg 1 0 0 x.n; omega
  rw [if_neg e0]
  by_cases e1 : x.op = 21
  · rw [if_pos e1, List.length_append]; have := hg 5 (takeR x.a 4) 0 0; omega
  rw [if_neg e1]
  by_cases e2 : x.op = 22
  · rw [if_pos e2, List.length_append, List.length_append, List.length_singleton]; omega
  rw [if_neg e2]
  by_cases e3 : x.op = 23
  · rw [if_pos e3, List.length_append, List.length_singleton]; omega
  rw [if_neg e3]
  by_cases e4 : x.op = 24
  · rw [if_pos e4]; have := hg 8 0 0 0; omega
  rw [if_neg e4]
  by_cases e5 : x.op = 25
  · rw [if_pos e5]; have := copyL_len x.d x.a; omega
  rw [if_neg e5]
  by_cases ew : 1 ≤ x.op ∧ x.op ≤ 10
  · rw [if_pos ew, List.length_append, List.length_append]; have := hg (11 + x.op) (takeR x.a 4) (takeR x.b 5) 0; omega
  · rw [if_neg ew]; simp
theorem emitX_len (x : InsD) : (emitX x).length ≤ 4 := by
  unfold emitX
  split
  · exact stepsX_len x
  · simp
end Go.Proofs.YtgnngibbojjebaaDoor
