/- Moves: what is right, what they do at once, what they do one behind the other: as lists. -/
import Derived.Test.YtijihgkhdknkeaaMvMem
namespace Go.Proofs.Ytijihgkhdknkeaa
open Go.ChangeShapes Go.WideShapes Go.ChangeAt Go.RowKit
set_option linter.unusedVariables false

/-- Both places of a move are within n. -/
def mvIn (x : ArmD) (n : Int) : Bool := decide (0 ≤ x.fr ∧ x.fr < n ∧ 0 ≤ x.v ∧ x.v < n)
/-- All within n, no two to one place. -/
def mvFine (l : List ArmD) (n : Int) : Bool := l.all (fun x => mvIn x n) && decide ((l.map (fun x => x.fr)).Nodup)
def movesOk (l : List ArmD) (n : Int) : Bool := decide (l.length ≤ 24) && mvFine l n
theorem mvFine_iff {l : List ArmD} {n : Int} : mvFine l n = true ↔ (∀ x ∈ l, mvIn x n = true) ∧ (l.map (fun x => x.fr)).Nodup := by
  simp [mvFine]
theorem take_one_more {α : Type} {l : List α} {k : Nat} {x : α} (h : l[k]? = some x) : l.take (k + 1) = l.take k ++ [x] := by
  rw [List.take_add_one, h]
  rfl
theorem mvFine_nil (n : Int) : mvFine [] n = true := rfl
theorem mvFine_next {l : List ArmD} {n : Int} {k : Nat} {x : ArmD} (hx : l[k]? = some x) (h : mvFine (l.take k) n = true) (h1 : mvIn x n = true) (h2 : x.fr ∉ (l.take k).map (fun x => x.fr)) : mvFine (l.take (k + 1)) n = true := by
  rw [mvFine_iff] at h ⊢
  rw [take_one_more hx]
  refine ⟨fun y hy => ?_, ?_⟩
  · rcases List.mem_append.1 hy with hy | hy
    · exact h.1 y hy
    · simp at hy; subst hy; exact h1
  · rw [List.map_append, List.nodup_append]
    refine ⟨h.2, by simp, fun a ha b hb e => ?_⟩
    simp at hb
    subst hb
    subst e
    exact h2 ha
theorem mvFine_out {l : List ArmD} {n : Int} {x : ArmD} (hx : x ∈ l) (h1 : mvIn x n = false) : mvFine l n = false := by
  cases h : mvFine l n with
  | false => rfl
  | true =>
    rw [mvFine_iff] at h
    rw [h.1 x hx] at h1
    cases h1
theorem mvFine_twice {l : List ArmD} {n : Int} {k : Nat} {x : ArmD} (hx : l[k]? = some x) (h2 : x.fr ∈ (l.take k).map (fun x => x.fr)) : mvFine l n = false := by
  cases h : mvFine l n with
  | false => rfl
  | true =>
    rw [mvFine_iff] at h
    have hk : (l.take (k + 1)).Sublist l := List.take_sublist _ _
    have hn := (hk.map (fun x => x.fr)).nodup h.2
    rw [take_one_more hx, List.map_append, List.nodup_append] at hn
    exact absurd rfl (hn.2.2 x.fr h2 x.fr (by simp))
theorem movesOk_long {l : List ArmD} {n : Int} (h : ¬ l.length ≤ 24) : movesOk l n = false := by simp [movesOk, h]
theorem movesOk_not {l : List ArmD} {n : Int} (h : mvFine l n = false) : movesOk l n = false := by simp [movesOk, h]
theorem movesOk_yes {l : List ArmD} {n : Int} (h1 : l.length ≤ 24) (h : mvFine l n = true) : movesOk l n = true := by simp [movesOk, h, h1]
theorem movesOk_len {l : List ArmD} {n : Int} (h : movesOk l n = true) : l.length ≤ 24 := by
  simp [movesOk] at h
  exact h.1
theorem movesOk_fine {l : List ArmD} {n : Int} (h : movesOk l n = true) : (∀ x ∈ l, mvIn x n = true) ∧ (l.map (fun x => x.fr)).Nodup := by
  simp only [movesOk, Bool.and_eq_true] at h
  exact mvFine_iff.1 h.2
theorem mvIn_iff {x : ArmD} {n : Int} : mvIn x n = true ↔ 0 ≤ x.fr ∧ x.fr < n ∧ 0 ≤ x.v ∧ x.v < n := by simp [mvIn]

/-- All at once. -/
def mvDo (l : List ArmD) (vals : List Int) : List Int := l.foldl (fun out x => out.set x.fr.toNat (vals.getD x.v.toNat 0)) vals
def movesDo (l : List ArmD) (vals : List Int) : List Int := if movesOk l vals.length then mvDo l vals else vals
theorem mvDo_next {l : List ArmD} {vals : List Int} {k : Nat} {x : ArmD} (hx : l[k]? = some x) : mvDo (l.take (k + 1)) vals = (mvDo (l.take k) vals).set x.fr.toNat (vals.getD x.v.toNat 0) := by
  rw [take_one_more hx]
  simp [mvDo]
theorem foldl_set_len {α : Type} (f : List Int → α → List Int) (hf : ∀ o x, (f o x).length = o.length) : ∀ (l : List α) (o : List Int), (l.foldl f o).length = o.length
  | [], o => rfl
  | x :: l, o => by rw [List.foldl_cons, foldl_set_len f hf l, hf]
theorem mvDo_len (l : List ArmD) (vals : List Int) : (mvDo l vals).length = vals.length := foldl_set_len _ (fun _ _ => List.length_set) _ _
theorem movesDo_len (l : List ArmD) (vals : List Int) : (movesDo l vals).length = vals.length := by
  unfold movesDo
  split
  · exact mvDo_len _ _
  · rfl

/-- One behind the other. -/
def mvStep (out : List Int) (x : ArmD) : List Int := if mvIn x out.length then out.set x.fr.toNat (out.getD x.v.toNat 0) else out
def mvEach (l : List ArmD) (vals : List Int) : List Int := l.foldl mvStep vals
theorem mvStep_len (o : List Int) (x : ArmD) : (mvStep o x).length = o.length := by
  unfold mvStep
  split
  · exact List.length_set
  · rfl
theorem mvEach_len (l : List ArmD) (vals : List Int) : (mvEach l vals).length = vals.length := foldl_set_len _ mvStep_len _ _
theorem mvEach_next {l : List ArmD} {vals : List Int} {k : Nat} {x : ArmD} (hx : l[k]? = some x) : mvEach (l.take (k + 1)) vals = mvStep (mvEach (l.take k) vals) x := by
  rw [take_one_more hx]
  simp [mvEach]
theorem mvEach_app (l m : List ArmD) (vals : List Int) : mvEach (l ++ m) vals = mvEach m (mvEach l vals) := by simp [mvEach]
theorem mvEach_cut (l : List ArmD) (k : Nat) (vals : List Int) : mvEach (l.drop k) (mvEach (l.take k) vals) = mvEach l vals := by
  rw [← mvEach_app, List.take_append_drop]
theorem mvStep_in {o : List Int} {x : ArmD} (h : mvIn x o.length = true) : mvStep o x = o.set x.fr.toNat (o.getD x.v.toNat 0) := by simp [mvStep, h]
theorem mvStep_out {o : List Int} {x : ArmD} (h : mvIn x o.length = false) : mvStep o x = o := by simp [mvStep, h]
end Go.Proofs.Ytijihgkhdknkeaa
