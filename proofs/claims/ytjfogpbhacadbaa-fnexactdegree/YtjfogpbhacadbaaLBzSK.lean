/- How many are needed at once: the model's Busy. -/
import Derived.Test.YtjfogpbhacadbaaLPlainK
namespace Go.Proofs.Ytjfogpbhacadbaa
open Go.ChangeShapes Go.WideShapes Go.ChangeAt Go.RowKit Go.Shelf
set_option linter.unusedVariables false

/-- How many are needed ahead of a place; the places of a block. -/
noncomputable def lenAt (F : FnD) (b j : Nat) : Nat := match F.blocks[b]? with
  | some x => (atS x (outF F (liveL F) b) j).length
  | none => 0
def placesN (F : FnD) (b : Nat) : Nat := match F.blocks[b]? with
  | some x => x.list.length
  | none => 0
theorem lenAt_at {F : FnD} {b : Nat} {x : BlockD} (h : F.blocks[b]? = some x) (j : Nat) : lenAt F b j = (atS x (outF F (liveL F) b) j).length := by unfold lenAt; rw [h]
theorem placesN_at {F : FnD} {b : Nat} {x : BlockD} (h : F.blocks[b]? = some x) : placesN F b = x.list.length := by unfold placesN; rw [h]
theorem lenAt_le (F : FnD) (b j : Nat) : lenAt F b j ≤ 80 := by
  unfold lenAt
  split
  · exact atS_len _ _ _
  · omega
/-- The greatest of those that were looked at. -/
def Top (F : FnD) (P : Nat → Nat → Prop) (M : Nat) : Prop := (∀ b j, P b j → lenAt F b j ≤ M) ∧ (M = 0 ∨ ∃ b j, P b j ∧ M = lenAt F b j)
theorem Top.le {F : FnD} {P : Nat → Nat → Prop} {M : Nat} (h : Top F P M) : M ≤ 80 := by
  rcases h.2 with h | ⟨b, j, _, h⟩
  · omega
  · have := lenAt_le F b j
    omega
theorem Top.uniq {F : FnD} {P : Nat → Nat → Prop} {M N : Nat} (h : Top F P M) (k : Top F P N) : M = N := by
  have a : M ≤ N := by
    rcases h.2 with h2 | ⟨b, j, h1, h2⟩
    · omega
    · rw [h2]; exact k.1 b j h1
  have b : N ≤ M := by
    rcases k.2 with h2 | ⟨b, j, h1, h2⟩
    · omega
    · rw [h2]; exact h.1 b j h1
  omega
theorem Top.congr {F : FnD} {P P' : Nat → Nat → Prop} {M : Nat} (h : Top F P M) (e : ∀ b j, P b j ↔ P' b j) : Top F P' M :=
  ⟨fun b j hp => h.1 b j ((e b j).2 hp), h.2.imp id (fun ⟨b, j, h1, h2⟩ => ⟨b, j, (e b j).1 h1, h2⟩)⟩
theorem Top.add {F : FnD} {P P' : Nat → Nat → Prop} {M b0 j0 : Nat} (h : Top F P M) (e : ∀ b j, P' b j ↔ P b j ∨ (b = b0 ∧ j = j0)) : Top F P' (max M (lenAt F b0 j0)) := by
  refine ⟨fun b j hp => ?_, ?_⟩
  · rcases (e b j).1 hp with hp | ⟨rfl, rfl⟩
    · have := h.1 b j hp
      omega
    · omega
  · by_cases hc : M ≤ lenAt F b0 j0
    · exact .inr ⟨b0, j0, (e _ _).2 (.inr ⟨rfl, rfl⟩), by omega⟩
    · rcases h.2 with h2 | ⟨b, j, h1, h2⟩
      · omega
      · exact .inr ⟨b, j, (e _ _).2 (.inl h1), by omega⟩
def ToBlock (F : FnD) (k : Nat) (b j : Nat) : Prop := b < k ∧ j ≤ placesN F b
def ToPlace (F : FnD) (k i : Nat) (b j : Nat) : Prop := ToBlock F k b j ∨ (b = k ∧ j < i)
theorem top_none (F : FnD) : Top F (ToBlock F 0) 0 := ⟨fun b j h => absurd h.1 (by omega), .inl rfl⟩
def BusyIs (F : FnD) (M : Int) : Prop := (¬ FnPlain F ∧ M = -1) ∨ (FnPlain F ∧ ∃ m : Nat, M = (m : Int) ∧ Top F (ToBlock F F.blocks.length) m)
theorem BusyIs.uniq {F : FnD} {M N : Int} (h : BusyIs F M) (k : BusyIs F N) : M = N := by
  rcases h with ⟨h1, h2⟩ | ⟨h1, m, h2, h3⟩ <;> rcases k with ⟨k1, k2⟩ | ⟨k1, l, k2, k3⟩
  · omega
  · exact absurd k1 h1
  · exact absurd h1 k1
  · have := h3.uniq k3
    omega
open Classical in
noncomputable def busyOf (F : FnD) : Int := if h : ∃ M, BusyIs F M then h.choose else 0
theorem busyOf_eq {F : FnD} {M : Int} (h : BusyIs F M) : busyOf F = M := by
  have he : ∃ M, BusyIs F M := ⟨M, h⟩
  unfold busyOf
  rw [dif_pos he]
  exact he.choose_spec.uniq h
def GivesInt (w : World) (x : Int) (e : Ending) (w' : World) : Prop := e = .returned (.int .i64 x) ∧ Below w.heap.size w w'

end Go.Proofs.Ytjfogpbhacadbaa
