/- Which values are used: as mathematics, and as rounds over the blocks. What is known to be used, in a map whose keys are structs. What is used, of the program: the parts of a round. -/
import Derived.Test.YtfmdnjnmbkgmjaaGreatDoorKMake
import Derived.Test.YtfmdnjnmbkgmjaaGreatDoorKSh1
import Derived.Test.YtfmdnjnmbkgmjaaGreatDoorKDrA
import Derived.Test.YtfmdnjnmbkgmjaaGreatDoorKSeq
import Derived.DeepKeys4
import Derived.Maps.OwnSet
import Derived.Maps.Views
import Derived.Maps.OwnOps
import Derived.Test.YtfmdnjnmbkgmjaaGreatDoorKEdge
import Derived.Test.YtfmdnjnmbkgmjaaGreatDoorKLast
import Derived.Test.YtfmdnjnmbkgmjaaGreatDoorKGraph
namespace Go.Proofs.YtfmdnjnmbkgmjaaGreatDoor
set_option linter.unusedVariables false
/-! ### Rounds -/
def addAll (U vs : List Int) : List Int := vs.foldl (fun U v => if v ∈ U then U else U ++ [v]) U
def phiStep (U : List Int) (p : PhiD) : List Int := if p.d ∈ U then addAll U (p.arms.map (fun a => a.v)) else U
def stayB (U : List Int) (y : InsD) : Bool := if (1 ≤ y.op ∧ y.op ≤ 10) ∨ y.op = 20 then decide (y.d ∈ U) else true
def insStep (U : List Int) (y : InsD) : List Int := if stayB U y then addAll U (usesV y.op y.a y.b) else U
def phisTake (U : List Int) (l : List PhiD) : List Int := l.foldl phiStep U
def insTake (U : List Int) (l : List InsD) : List Int := l.foldl insStep U
def passB (U : List Int) (x : BlockD) : List Int := addAll (insTake (phisTake U x.phis) x.list) (endsV x.term.k x.term.a)
def passN (F : FnD) (U : List Int) (b : Int) : List Int := match F.blocks[b.toNat]? with | some x => passB U x | none => U
def roundOf (F : FnD) (order : List Int) (U : List Int) : List Int := order.foldl (passN F) U
/-! ### Of a program that is well -/
theorem check_well {F : FnD} (h : checkOf F = 0) : FnShape F ∧ ¬ CopyIn F ∧ AllReached F := by
  unfold checkOf at h
  split at h
  · cases h
  · rename_i h1
    split at h
    · cases h
    · rename_i h2
      exact ⟨Classical.not_not.1 (fun e => h1 (.inl e)), fun e => h1 (.inr e), Classical.not_not.1 h2⟩
end Go.Proofs.YtfmdnjnmbkgmjaaGreatDoor
namespace Go.Proofs.YtfmdnjnmbkgmjaaGreatDoor
open Go.ChangeShapes Go.WideShapes Go.ChangeAt Go.RowKit
set_option linter.unusedVariables false
set_option maxRecDepth 100000
def factV (v : Int) : Value := .agg #[.int .i64 1, .int .i64 v]
theorem fact_laid : laidOutB Tryz.prog = true := by kernel_rfl
theorem fact_row : (200 : TypeId) < Tryz.prog.types.size := of_decide_eq_true (by kernel_rfl)
theorem fact_wide : (match Tryz.prog.underlying 200 with | some (.array _ _) | some (.struct _) => true | _ => false) = true := by kernel_rfl
theorem fact_keyed : Maps.Keyed Tryz.prog 200 := Maps.Keyed.of_law (deep_law_laid fact_laid (m := 2) (by omega) fact_row (by kernel_rfl) fact_wide)
noncomputable def fk (v : Int) : Lit := (keyOf Tryz.prog 200 (factV v)).getD (.bool false)
theorem nodup_le : ∀ (l m : List Nat), l.Nodup → (∀ x ∈ l, x ∈ m) → l.length ≤ m.length
  | [], m, _, _ => Nat.zero_le _
  | x :: l, m, h, hs => by
    have hx : x ∈ m := hs x (by simp)
    obtain ⟨h1, h2⟩ := List.nodup_cons.1 h
    have h3 := nodup_le l (m.erase x) h2 (fun y hy => (List.mem_erase_of_ne (a := y) (b := x) (by rintro rfl; exact h1 hy)).2 (hs y (by simp [hy])))
    rw [List.length_erase_of_mem hx] at h3
    have : 0 < m.length := List.length_pos_of_mem hx
    simp
    omega
theorem small_list {U : List Int} (hn : U.Nodup) (hs : ∀ v ∈ U, 0 ≤ v ∧ v < 80) : U.length ≤ 80 := by
  have h1 : (U.map Int.toNat).Nodup := by
    unfold List.Nodup at hn ⊢
    rw [List.pairwise_map]
    refine List.Pairwise.imp_of_mem (fun {a b} ha hb hne e => hne ?_) hn
    have := hs a ha
    have := hs b hb
    omega
  have h2 : ∀ x ∈ U.map Int.toNat, x ∈ List.range 80 := fun x hx => by
    obtain ⟨v, hv, rfl⟩ := List.mem_map.1 hx
    have := hs v hv
    simp
    omega
  have h3 := nodup_le _ _ h1 h2
  simpa using h3
theorem retight {w : World} {P : Program} {k : TypeId} {R : Value → Option (DataW Unit × List MemPlace)} {b n m : Nat} {D : DataW Unit} (h : w.ownsMap P k R b n D) (hm : Maps.size D ≤ m) : w.ownsMap P k R b m D := by
  obtain ⟨es, ck, h1, h2, h3, rfl⟩ := h
  refine ⟨es, ck, h1, h2, ?_, rfl⟩
  rw [Maps.size_eq, length_sorted, List.length_map] at hm
  simpa using hm
theorem zero_int (w : World) : (zeroValue 3).run Tryz.prog w = .ok (.int .i64 0) w := by kernel_rfl
end Go.Proofs.YtfmdnjnmbkgmjaaGreatDoor
namespace Go.Proofs.YtfmdnjnmbkgmjaaGreatDoor
open Go.ChangeShapes Go.WideShapes Go.ChangeAt Go.RowKit
set_option linter.unusedVariables false
set_option maxRecDepth 100000
theorem Fr.more {p : Nat} {a w w' : World} (h : Fr p a w) (hb : Below w.heap.size w w') : Fr p a w' := h.trans (Fr.ofBelow hb)
end Go.Proofs.YtfmdnjnmbkgmjaaGreatDoor
