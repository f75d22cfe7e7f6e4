/- A scope in which the run jumps back to two labels: a law of the walk. -/
import Derived.ScopeJumps
import Derived.WalkMore
import Derived.Test.YtjfogpbhacadbaaRows
namespace Go.Proofs.Ytjfogpbhacadbaa

/-- As Q; by a goto: G. -/
def exitJumps (G : Nat → Act → World → Prop) (Q : Exit → Act → World → Prop) : Exit → Act → World → Prop
  | .goto l, a, w => G l a w
  | e, a, w => Q e a w
theorem skip_seq {P : Program} {a : Act} {w : World} {Q : Exit → Act → World → Prop} {c : Code} (h : c.wp P Q a w) : (Code.skip.seq c).wp P Q a w := wp_seq (wp_skip h)
theorem wp_scope_two {P : Program} {a : Act} {w : World} {Q : Exit → Act → World → Prop} {c r0 r1 : Code} (J0 J1 : Nat → Act → World → Prop) (hf0 : findLabel c 0 = some (Code.skip.seq r0)) (hf1 : findLabel c 1 = some (Code.skip.seq r1))
    (first : (∀ m a w, J1 m a w → r1.wp P (exitJumps (fun l a w => (l = 0 ∧ ∃ m', m' < m ∧ J0 m' a w) ∨ (l = 1 ∧ ∃ m', m' < m ∧ J1 m' a w)) Q) a w) → c.wp P (exitJumps (fun l a w => (l = 0 ∧ ∃ m, J0 m a w) ∨ (l = 1 ∧ ∃ m, J1 m a w)) Q) a w)
    (pass0 : (∀ m a w, J1 m a w → r1.wp P (exitJumps (fun l a w => (l = 0 ∧ ∃ m', m' < m ∧ J0 m' a w) ∨ (l = 1 ∧ ∃ m', m' < m ∧ J1 m' a w)) Q) a w) → ∀ m a w, J0 m a w → r0.wp P (exitJumps (fun l a w => (l = 0 ∧ ∃ m', m' < m ∧ J0 m' a w) ∨ (l = 1 ∧ ∃ m', m' < m ∧ J1 m' a w)) Q) a w)
    (pass1 : ∀ m a w, J1 m a w → r1.wp P (exitJumps (fun l a w => (l = 0 ∧ ∃ m', m' < m ∧ J0 m' a w) ∨ (l = 1 ∧ ∃ m', m' < m ∧ J1 m' a w)) Q) a w) : (Code.scope c).wp P Q a w := by
  replace first := first pass1
  replace pass0 := pass0 pass1
  intro b k cs
  have hg0 : gotoIn 0 (.inScope c :: k) = some (.code (Code.skip.seq r0) :: .inScope c :: k) := by simp [gotoIn, hf0]
  have hg1 : gotoIn 1 (.inScope c :: k) = some (.code (Code.skip.seq r1) :: .inScope c :: k) := by simp [gotoIn, hf1]
  have key : ∀ n a w, (J0 n a w → ∃ e a' w', Q e a' w' ∧ Arrives P (lone (b.at a (.code (Code.skip.seq r0) :: .inScope c :: k)) cs w) b k cs e a' w') ∧ (J1 n a w → ∃ e a' w', Q e a' w' ∧ Arrives P (lone (b.at a (.code (Code.skip.seq r1) :: .inScope c :: k)) cs w) b k cs e a' w') := by
    intro n
    induction n using Nat.strongRecOn with
    | _ n ih =>
      intro a w
      refine ⟨fun hJ => ?_, fun hJ => ?_⟩
      · obtain ⟨e, a₁, w₁, hq, harr⟩ := skip_seq (pass0 n a w hJ) b (.inScope c :: k) cs
        cases e with
        | normal => exact ⟨.normal, a₁, w₁, hq, Steps.trans harr (.one step_inScope)⟩
        | exit id => exact ⟨.exit id, a₁, w₁, hq, fun k' hk => harr k' (by simp [exitTo, hk])⟩
        | goto l' =>
          rcases hq with ⟨rfl, m', hlt, hJ'⟩ | ⟨rfl, m', hlt, hJ'⟩
          · obtain ⟨e₂, a₂, w₂, hq₂, harr₂⟩ := (ih m' hlt a₁ w₁).1 hJ'
            exact ⟨e₂, a₂, w₂, hq₂, .of_steps (harr _ hg0) harr₂⟩
          · obtain ⟨e₂, a₂, w₂, hq₂, harr₂⟩ := (ih m' hlt a₁ w₁).2 hJ'
            exact ⟨e₂, a₂, w₂, hq₂, .of_steps (harr _ hg1) harr₂⟩
        | ret => exact ⟨_, a₁, w₁, hq, harr⟩
        | panic ch => exact ⟨_, a₁, w₁, hq, harr⟩
        | outgrown => exact ⟨_, a₁, w₁, hq, harr⟩
      · obtain ⟨e, a₁, w₁, hq, harr⟩ := skip_seq (pass1 n a w hJ) b (.inScope c :: k) cs
        cases e with
        | normal => exact ⟨.normal, a₁, w₁, hq, Steps.trans harr (.one step_inScope)⟩
        | exit id => exact ⟨.exit id, a₁, w₁, hq, fun k' hk => harr k' (by simp [exitTo, hk])⟩
        | goto l' =>
          rcases hq with ⟨rfl, m', hlt, hJ'⟩ | ⟨rfl, m', hlt, hJ'⟩
          · obtain ⟨e₂, a₂, w₂, hq₂, harr₂⟩ := (ih m' hlt a₁ w₁).1 hJ'
            exact ⟨e₂, a₂, w₂, hq₂, .of_steps (harr _ hg0) harr₂⟩
          · obtain ⟨e₂, a₂, w₂, hq₂, harr₂⟩ := (ih m' hlt a₁ w₁).2 hJ'
            exact ⟨e₂, a₂, w₂, hq₂, .of_steps (harr _ hg1) harr₂⟩
        | ret => exact ⟨_, a₁, w₁, hq, harr⟩
        | panic ch => exact ⟨_, a₁, w₁, hq, harr⟩
        | outgrown => exact ⟨_, a₁, w₁, hq, harr⟩
  obtain ⟨e, a₁, w₁, hq, harr⟩ := first b (.inScope c :: k) cs
  cases e with
  | normal => exact ⟨.normal, a₁, w₁, hq, .head step_scope (Steps.trans harr (.one step_inScope))⟩
  | exit id => exact ⟨.exit id, a₁, w₁, hq, fun k' hk => .head step_scope (harr k' (by simp [exitTo, hk]))⟩
  | goto l' =>
    rcases hq with ⟨rfl, m', hJ'⟩ | ⟨rfl, m', hJ'⟩
    · obtain ⟨e₂, a₂, w₂, hq₂, harr₂⟩ := (key m' a₁ w₁).1 hJ'
      exact ⟨e₂, a₂, w₂, hq₂, .of_steps (.head step_scope (harr _ hg0)) harr₂⟩
    · obtain ⟨e₂, a₂, w₂, hq₂, harr₂⟩ := (key m' a₁ w₁).2 hJ'
      exact ⟨e₂, a₂, w₂, hq₂, .of_steps (.head step_scope (harr _ hg1)) harr₂⟩
  | ret => exact ⟨_, a₁, w₁, hq, .of_steps (.one step_scope) harr⟩
  | panic ch => exact ⟨_, a₁, w₁, hq, .of_steps (.one step_scope) harr⟩
  | outgrown => exact ⟨_, a₁, w₁, hq, .of_steps (.one step_scope) harr⟩
theorem exitJumps_mono {G H : Nat → Act → World → Prop} {Q : Exit → Act → World → Prop} (h : ∀ l a w, G l a w → H l a w) : ∀ e a w, exitJumps G Q e a w → exitJumps H Q e a w
  | .normal, _, _, x => x
  | .exit _, _, _, x => x
  | .ret, _, _, x => x
  | .goto l, a, w, x => h l a w x
  | .panic _, _, _, x => x
  | .outgrown, _, _, x => x
end Go.Proofs.Ytjfogpbhacadbaa
