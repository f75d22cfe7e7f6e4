/- What a program makes and where, by blocks, phis first, as mathematics. -/
import Derived.Test.YtlmkipmkanhcfaaShapeDef
namespace Go.Proofs.Ytlmkipmkanhcfaa
set_option linter.unusedVariables false

/-- A value, the block in which it is made, and its place. -/
abbrev Made := Int × Int × Int
def phiMakes (b : Nat) (ps : List PhiD) : List Made := ps.map (fun p => (p.d, (b : Int), -1))
theorem phiMakes_next {b : Nat} {ps : List PhiD} {k : Nat} {p : PhiD} (h : ps[k]? = some p) : phiMakes b (ps.take (k + 1)) = phiMakes b (ps.take k) ++ [(p.d, (b : Int), -1)] := by
  rw [List.take_add_one, h]
  simp [phiMakes]
/-- The first k places of a list. -/
def insMakes (b : Nat) (l : List InsD) : Nat → List Made
  | 0 => []
  | k + 1 => insMakes b l k ++ (match l[k]? with | some x => if makesV x.op = true then [(x.d, (b : Int), (k : Int))] else [] | none => [])
theorem insMakes_yes {b : Nat} {l : List InsD} {k : Nat} {x : InsD} (h : l[k]? = some x) (hm : makesV x.op = true) : insMakes b l (k + 1) = insMakes b l k ++ [(x.d, (b : Int), (k : Int))] := by simp [insMakes, h, hm]
theorem insMakes_no {b : Nat} {l : List InsD} {k : Nat} {x : InsD} (h : l[k]? = some x) (hm : makesV x.op = false) : insMakes b l (k + 1) = insMakes b l k := by simp [insMakes, h, hm]
def blockMakes (b : Nat) (x : BlockD) : List Made := phiMakes b x.phis ++ insMakes b x.list x.list.length
/-- The first k blocks. -/
def makesUp (F : FnD) : Nat → List Made
  | 0 => []
  | k + 1 => makesUp F k ++ (match F.blocks[k]? with | some x => blockMakes k x | none => [])
theorem makesUp_next {F : FnD} {k : Nat} {x : BlockD} (h : F.blocks[k]? = some x) : makesUp F (k + 1) = makesUp F k ++ blockMakes k x := by simp [makesUp, h]
def makesOf (F : FnD) : List Made := makesUp F F.blocks.length
theorem insMakes_pre (b : Nat) (l : List InsD) (k : Nat) (j : Nat) : insMakes b l k <+: insMakes b l (k + j) := by
  induction j with
  | zero => exact List.prefix_refl _
  | succ j ih => exact ih.trans (List.prefix_append _ _)
theorem makesUp_pre (F : FnD) (k j : Nat) : makesUp F k <+: makesUp F (k + j) := by
  induction j with
  | zero => exact List.prefix_refl _
  | succ j ih => exact ih.trans (List.prefix_append _ _)
theorem makes_phi {F : FnD} {b k : Nat} {x : BlockD} (h : F.blocks[b]? = some x) : makesUp F b ++ phiMakes b (x.phis.take k) <+: makesOf F := by
  have hlt : b < F.blocks.length := (List.getElem?_eq_some_iff.1 h).1
  have h1 : makesUp F (b + 1) <+: makesOf F := by
    have := makesUp_pre F (b + 1) (F.blocks.length - (b + 1))
    rw [show b + 1 + (F.blocks.length - (b + 1)) = F.blocks.length by omega] at this
    exact this
  refine List.IsPrefix.trans ?_ h1
  rw [makesUp_next h]
  refine (List.prefix_append_right_inj _).2 ?_
  unfold blockMakes
  refine List.IsPrefix.trans ?_ (List.prefix_append _ _)
  unfold phiMakes
  exact (List.take_prefix _ _).map _
theorem makes_ins {F : FnD} {b k : Nat} {x : BlockD} (h : F.blocks[b]? = some x) (hk : k ≤ x.list.length) : makesUp F b ++ phiMakes b x.phis ++ insMakes b x.list k <+: makesOf F := by
  have hlt : b < F.blocks.length := (List.getElem?_eq_some_iff.1 h).1
  have h1 : makesUp F (b + 1) <+: makesOf F := by
    have := makesUp_pre F (b + 1) (F.blocks.length - (b + 1))
    rw [show b + 1 + (F.blocks.length - (b + 1)) = F.blocks.length by omega] at this
    exact this
  refine List.IsPrefix.trans ?_ h1
  rw [makesUp_next h, List.append_assoc]
  refine (List.prefix_append_right_inj _).2 ?_
  unfold blockMakes
  refine (List.prefix_append_right_inj _).2 ?_
  have := insMakes_pre b x.list k (x.list.length - k)
  rw [show k + (x.list.length - k) = x.list.length by omega] at this
  exact this

/-- The first that makes v. -/
def firstV (v : Int) (l : List Made) : Option Made := l.find? (fun m => decide (m.1 = v))
theorem firstV_none {v : Int} {l : List Made} : firstV v l = none ↔ ∀ m ∈ l, m.1 ≠ v := by simp [firstV]
theorem firstV_app {v : Int} {l m : List Made} (h : firstV v l = none) : firstV v (l ++ m) = firstV v m := by
  unfold firstV at *
  rw [List.find?_append, h]
  rfl
theorem firstV_pre {v : Int} {l m : List Made} {x : Made} (h : firstV v l = some x) (hp : l <+: m) : firstV v m = some x := by
  obtain ⟨t, rfl⟩ := hp
  unfold firstV at *
  rw [List.find?_append, h]
  rfl
theorem firstV_hit {v : Int} {l : List Made} {x : Made} (h : firstV v l = none) (hx : x.1 = v) : firstV v (l ++ [x]) = some x := by
  rw [firstV_app h]
  simp [firstV, hx]
theorem firstV_miss {v : Int} {l : List Made} {x : Made} (h : firstV v l = none) (hx : x.1 ≠ v) : firstV v (l ++ [x]) = none := by
  rw [firstV_app h]
  simp [firstV, hx]
/-- Where the first is made, as the document says it. -/
def atOf : Option Made → Int × Int
  | some m => m.2
  | none => (-1, -2)
open Classical in
noncomputable def defAtOf (F : FnD) (v : Int) : Int × Int := if FnShape F then atOf (firstV v (makesOf F)) else (-1, -2)
theorem defAtOf_yes {F : FnD} {v : Int} (h : FnShape F) : defAtOf F v = atOf (firstV v (makesOf F)) := if_pos h
theorem defAtOf_no {F : FnD} {v : Int} (h : ¬ FnShape F) : defAtOf F v = (-1, -2) := if_neg h
theorem defAtOf_hit {F : FnD} {v : Int} {l : List Made} {x : Made} (hS : FnShape F) (h : firstV v l = none) (hx : x.1 = v) (hp : l ++ [x] <+: makesOf F) : defAtOf F v = x.2 := by
  rw [defAtOf_yes hS, firstV_pre (firstV_hit h hx) hp]
  rfl
theorem defAtOf_end {F : FnD} {v : Int} (hS : FnShape F) (h : firstV v (makesOf F) = none) : defAtOf F v = (-1, -2) := by
  rw [defAtOf_yes hS, h]
  rfl
end Go.Proofs.Ytlmkipmkanhcfaa
