/- Folding, as mathematics. -/
import Derived.Test.YtfmdnjnmbkgmjaaGreatDoorKWord
import Derived.Test.YtfmdnjnmbkgmjaaGreatDoorKSh1
namespace Go.Proofs.YtfmdnjnmbkgmjaaGreatDoor
open Go.ChangeShapes Go.WideShapes Go.ChangeAt Go.RowKit
set_option linter.unusedVariables false
abbrev Kn := Int → Option Int
def foldX (K : Kn) (x : InsD) : InsD := if 1 ≤ x.op ∧ x.op ≤ 10 then (match K x.a, K x.b with | some p, some q => ⟨20, x.d, 0, 0, wordV x.op p q⟩ | _, _ => x) else x
def learnX (K : Kn) (x : InsD) : Kn := if x.op = 20 then (fun v => if v = x.d then some x.n else K v) else K
def foldAt (s : List InsD × Kn) (k : Nat) : List InsD × Kn := match s.1[k]? with | none => s | some x => (s.1.set k (foldX s.2 x), learnX s.2 (foldX s.2 x))
def foldN : Nat → List InsD × Kn → List InsD × Kn
  | 0, s => s
  | n + 1, s => foldAt (foldN n s) n
def foldB (s : List BlockD × Kn) (b : Nat) : List BlockD × Kn := match s.1[b]? with | none => s | some x => (s.1.set b { x with list := (foldN x.list.length (x.list, s.2)).1 }, (foldN x.list.length (x.list, s.2)).2)
def foldO (o : List Int) (s : List BlockD × Kn) : List BlockD × Kn := o.foldl (fun s b => foldB s b.toNat) s
def noKn : Kn := fun _ => none
theorem foldAt_len (s : List InsD × Kn) (k : Nat) : (foldAt s k).1.length = s.1.length := by
  unfold foldAt
  split
  · rfl
  · simp
theorem foldN_len (s : List InsD × Kn) : ∀ n, (foldN n s).1.length = s.1.length
  | 0 => rfl
  | n + 1 => by rw [foldN, foldAt_len, foldN_len s n]
theorem foldAt_other (s : List InsD × Kn) {k j : Nat} (h : k ≠ j) : (foldAt s k).1[j]? = s.1[j]? := by
  unfold foldAt
  split
  · rfl
  · simp only
    rw [List.getElem?_set_ne h]
theorem foldN_at (s : List InsD × Kn) : ∀ {n j : Nat}, n ≤ j → (foldN n s).1[j]? = s.1[j]?
  | 0, j, _ => rfl
  | n + 1, j, h => by rw [foldN, foldAt_other _ (by omega), foldN_at s (by omega)]
theorem foldN_next {s : List InsD × Kn} {n : Nat} {x : InsD} (h : s.1[n]? = some x) : foldN (n + 1) s = ((foldN n s).1.set n (foldX (foldN n s).2 x), learnX (foldN n s).2 (foldX (foldN n s).2 x)) := by
  have h2 : (foldN n s).1[n]? = some x := (foldN_at s (Nat.le_refl n)).trans h
  rw [foldN, foldAt, h2]
theorem foldB_len (s : List BlockD × Kn) (b : Nat) : (foldB s b).1.length = s.1.length := by
  unfold foldB
  split
  · rfl
  · simp
theorem foldO_len : ∀ (o : List Int) (s : List BlockD × Kn), (foldO o s).1.length = s.1.length
  | [], s => rfl
  | b :: o, s => by
    have h := foldO_len o (foldB s b.toNat)
    rw [foldB_len] at h
    exact h
theorem foldO_snoc (o : List Int) (b : Int) (s : List BlockD × Kn) : foldO (o ++ [b]) s = foldB (foldO o s) b.toNat := by simp [foldO]
def InsIn (x : InsD) : Prop := ((1 ≤ x.op ∧ x.op ≤ 10) → (0 ≤ x.d ∧ x.d < 80) ∧ (0 ≤ x.a ∧ x.a < 80) ∧ (0 ≤ x.b ∧ x.b < 80)) ∧ (x.op = 20 → 0 ≤ x.d ∧ x.d < 80)
theorem insIn_of {V : Int} {x : InsD} (hV : V ≤ 80) (h : placeOkV V x = true) : InsIn x := by
  unfold placeOkV at h
  refine ⟨fun ho => ?_, fun ho => ?_⟩
  · rw [insOkV_word ho.1 ho.2] at h
    simp only [Bool.and_eq_true] at h
    obtain ⟨⟨⟨h1, h2⟩, h3⟩, _⟩ := h
    have := valIn_iff.1 h1
    have := valIn_iff.1 h2
    have := valIn_iff.1 h3
    omega
  · rw [ho, insOkV_const] at h
    simp only [Bool.and_eq_true] at h
    have := valIn_iff.1 h.1.1
    omega
theorem foldX_in {K : Kn} {x : InsD} (h : InsIn x) : InsIn (foldX K x) := by
  unfold foldX
  split
  · rename_i ho
    split
    · exact ⟨fun h1 => absurd h1 (by simp), fun _ => (h.1 ho).1⟩
    · exact h
  · exact h
def BlocksIn (bs : List BlockD) : Prop := ∀ (i : Nat) x, bs[i]? = some x → (∀ (k : Nat) y, x.list[k]? = some y → InsIn y) ∧ x.list.length ≤ 24
theorem foldN_all {s : List InsD × Kn} (h : ∀ (k : Nat) y, s.1[k]? = some y → InsIn y) : ∀ n, ∀ (k : Nat) y, (foldN n s).1[k]? = some y → InsIn y
  | 0 => h
  | n + 1 => fun k y hy => by
    by_cases e : k = n
    · subst e
      cases hx : s.1[k]? with
      | none =>
        have h2 : (foldN k s).1[k]? = none := (foldN_at s (Nat.le_refl k)).trans hx
        rw [foldN, foldAt, h2] at hy
        exact foldN_all h k k y hy
      | some x =>
        rw [foldN_next hx] at hy
        have hk : k < (foldN k s).1.length := by rw [foldN_len]; exact (List.getElem?_eq_some_iff.1 hx).1
        rw [List.getElem?_set_self hk] at hy
        cases hy
        exact foldX_in (h k x hx)
    · rw [foldN, foldAt_other _ (by omega)] at hy
      exact foldN_all h n k y hy
theorem BlocksIn.foldB {s : List BlockD × Kn} (h : BlocksIn s.1) (b : Nat) : BlocksIn (foldB s b).1 := by
  unfold Go.Proofs.YtfmdnjnmbkgmjaaGreatDoor.foldB
  split
  · exact h
  · rename_i x hx
    intro i y hy
    by_cases e : i = b
    · subst e
      rw [List.getElem?_set_self (List.getElem?_eq_some_iff.1 hx).1] at hy
      cases hy
      refine ⟨foldN_all (fun k y hy => (h i x hx).1 k y hy) _, ?_⟩
      rw [foldN_len]
      exact (h i x hx).2
    · rw [List.getElem?_set_ne (by omega)] at hy
      exact h i y hy
theorem BlocksIn.foldO : ∀ (o : List Int) {s : List BlockD × Kn}, BlocksIn s.1 → BlocksIn (foldO o s).1
  | [], s, h => h
  | b :: o, s, h => BlocksIn.foldO o (h.foldB b.toNat)
theorem blocksIn_of {F : FnD} (h : FnShape F) : BlocksIn F.blocks := fun i x hx => by
  have hb := h.2.2.2.2 i x hx
  exact ⟨fun k y hy => insIn_of h.2.2.2.1 (hb.2.2.2.1 k y hy), hb.2.1⟩
end Go.Proofs.YtfmdnjnmbkgmjaaGreatDoor
