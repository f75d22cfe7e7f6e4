/- Programs as bytes: the numbers of a program in their order. -/
import Derived.Test.YtgjojajodkagbaaPkDef
import Derived.Test.YtgjojajodkagbaaShapeDef
namespace Go.Proofs.Ytgjojajodkagbaa
open Go.ChangeShapes Go.WideShapes Go.ChangeAt Go.RowKit
set_option linter.unusedVariables false

def packB (xs : List Int) : List UInt8 := xs.flatMap packX
def allF (xs : List Int) : Bool := xs.all (fun x => decide (Formed x))
theorem packB_app (a b : List Int) : packB (a ++ b) = packB a ++ packB b := by simp [packB]
theorem allF_app (a b : List Int) : allF (a ++ b) = (allF a && allF b) := by simp [allF]
theorem packB_nil : packB [] = [] := rfl
theorem allF_nil : allF [] = true := rfl
theorem packB_one (x : Int) : packB [x] = packX x := by simp [packB]
theorem allF_one (x : Int) : allF [x] = decide (Formed x) := by simp [allF]
theorem packB_len (xs : List Int) : (packB xs).length ≤ 9 * xs.length := by
  induction xs with
  | nil => simp [packB]
  | cons x r ih =>
    have h9 := packX_len x
    unfold packB at ih ⊢
    rw [List.flatMap_cons, List.length_append, List.length_cons]
    omega
theorem packB_next {xs : List Int} {k : Nat} {x : Int} (h : xs[k]? = some x) : packB (xs.take (k + 1)) = packB (xs.take k) ++ packX x := by
  rw [List.take_add_one, h, packB_app]
  simp [packB]
theorem allF_next {xs : List Int} {k : Nat} {x : Int} (h : xs[k]? = some x) : allF (xs.take (k + 1)) = (allF (xs.take k) && decide (Formed x)) := by
  rw [List.take_add_one, h, allF_app]
  simp [allF]

def armsN (l : List ArmD) : List Int := l.flatMap (fun a => [a.fr, a.v])
def phiN (p : PhiD) : List Int := [p.d, (p.arms.length : Int)] ++ armsN p.arms
def phisN (l : List PhiD) : List Int := l.flatMap phiN
def insN (l : List InsD) : List Int := l.flatMap (fun x => [x.op, x.d, x.a, x.b, x.n])
def blockN (x : BlockD) : List Int := [(x.phis.length : Int)] ++ phisN x.phis ++ [(x.list.length : Int)] ++ insN x.list ++ [x.term.k, x.term.a, x.term.t, x.term.e]
def fnN (F : FnD) : List Int := [F.values, (F.blocks.length : Int)] ++ F.blocks.flatMap blockN
theorem armsN_next {l : List ArmD} {k : Nat} {a : ArmD} (h : l[k]? = some a) : armsN (l.take (k + 1)) = armsN (l.take k) ++ [a.fr, a.v] := by
  rw [List.take_add_one, h]
  simp [armsN]
theorem phisN_next {l : List PhiD} {k : Nat} {p : PhiD} (h : l[k]? = some p) : phisN (l.take (k + 1)) = phisN (l.take k) ++ phiN p := by
  rw [List.take_add_one, h]
  simp [phisN]
theorem insN_next {l : List InsD} {k : Nat} {x : InsD} (h : l[k]? = some x) : insN (l.take (k + 1)) = insN (l.take k) ++ [x.op, x.d, x.a, x.b, x.n] := by
  rw [List.take_add_one, h]
  simp [insN]
def blocksN (l : List BlockD) : List Int := l.flatMap blockN
theorem blocksN_next {l : List BlockD} {k : Nat} {x : BlockD} (h : l[k]? = some x) : blocksN (l.take (k + 1)) = blocksN (l.take k) ++ blockN x := by
  rw [List.take_add_one, h]
  simp [blocksN]
theorem armsN_len (l : List ArmD) : (armsN l).length = 2 * l.length := by
  induction l with
  | nil => rfl
  | cons a r ih => unfold armsN at ih ⊢; rw [List.flatMap_cons, List.length_append, ih, List.length_cons]; simp; omega
theorem insN_len (l : List InsD) : (insN l).length = 5 * l.length := by
  induction l with
  | nil => rfl
  | cons a r ih => unfold insN at ih ⊢; rw [List.flatMap_cons, List.length_append, ih, List.length_cons]; simp; omega
theorem phisN_len : ∀ (l : List PhiD), (∀ p ∈ l, p.arms.length ≤ 16) → (phisN l).length ≤ 34 * l.length
  | [], _ => by simp [phisN]
  | p :: r, h => by
    have h1 := phisN_len r (fun q hq => h q (List.mem_cons_of_mem _ hq))
    have h2 := h p List.mem_cons_self
    unfold phisN at h1 ⊢
    rw [List.flatMap_cons, List.length_append, List.length_cons]
    unfold phiN
    rw [List.length_append, armsN_len]
    simp only [List.length_cons, List.length_nil]
    unfold phiN at h1
    omega
/-- A block with no more than its limits. -/
def BlockLim (x : BlockD) : Prop := x.phis.length ≤ 24 ∧ x.list.length ≤ 24 ∧ ∀ p ∈ x.phis, p.arms.length ≤ 16
theorem blockN_len {x : BlockD} (h : BlockLim x) : (blockN x).length ≤ 1000 := by
  have h1 := phisN_len x.phis h.2.2
  have h2 := insN_len x.list
  obtain ⟨h3, h4, _⟩ := h
  unfold blockN
  simp only [List.length_append, List.length_cons, List.length_nil]
  omega
theorem blocksN_len : ∀ (l : List BlockD), (∀ x ∈ l, BlockLim x) → (blocksN l).length ≤ 1000 * l.length
  | [], _ => by simp [blocksN]
  | x :: r, h => by
    have h1 := blocksN_len r (fun q hq => h q (List.mem_cons_of_mem _ hq))
    have h2 := blockN_len (h x List.mem_cons_self)
    unfold blocksN at h1 ⊢
    rw [List.flatMap_cons, List.length_append, List.length_cons]
    omega
theorem shape_lim {F : FnD} (h : FnShape F) : ∀ x ∈ F.blocks, BlockLim x := fun x hx => by
  obtain ⟨i, hi⟩ := List.getElem?_of_mem hx
  obtain ⟨h1, h2, h3, _⟩ := h.2.2.2.2 i x hi
  refine ⟨h1, h2, fun p hp => ?_⟩
  obtain ⟨j, hj⟩ := List.getElem?_of_mem hp
  exact (h3 j p hj).2.1

/-- What PackFn answers. -/
def PackOk (F : FnD) : Prop := FnShape F ∧ allF (fnN F) = true
open Classical in
noncomputable def packFnB (F : FnD) : List UInt8 := if PackOk F then packB (fnN F) else []
open Classical in
noncomputable def packFnOk (F : FnD) : Bool := decide (PackOk F)
theorem packFn_yes {F : FnD} (h : PackOk F) : packFnB F = packB (fnN F) ∧ packFnOk F = true := ⟨if_pos h, by simp [packFnOk, h]⟩
theorem packFn_no {F : FnD} (h : ¬ PackOk F) : packFnB F = [] ∧ packFnOk F = false := ⟨if_neg h, by simp [packFnOk, h]⟩
end Go.Proofs.Ytgjojajodkagbaa
