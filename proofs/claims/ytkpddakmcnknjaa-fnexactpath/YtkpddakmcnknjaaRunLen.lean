/- How much a run tells at most. -/
import Derived.Test.YtkpddakmcnknjaaImplRunP
namespace Go.Proofs.Ytkpddakmcnknjaa
set_option linter.unusedVariables false

theorem placesDo_len (W : Int → Int → Int → Int) : ∀ (l : List InsD) (s : RunS), (placesDo W l s).2.told.length + (placesDo W l s).2.fuel ≤ s.told.length + s.fuel ∧ (placesDo W l s).2.path = s.path
  | [], s => ⟨Nat.le_refl _, rfl⟩
  | x :: xs, s => by
    rw [placesDo_cons]
    split
    · exact ⟨Nat.le_refl _, rfl⟩
    · rename_i hf
      have h1 := insDo_len W x { s with fuel := s.fuel - 1 }
      have h2 := insDo_fuel W x { s with fuel := s.fuel - 1 }
      dsimp only at h1 h2
      split
      · have h3 := placesDo_len W xs (insDo W x { s with fuel := s.fuel - 1 }).2
        refine ⟨by omega, h3.2.trans h1.2⟩
      · exact ⟨by omega, h1.2⟩
theorem tellN_len (W : Int → Int → Int → Int) (F : FnD) : ∀ (k at_ : Nat) (fr : Int) (s : RunS), (tellN W F k at_ fr s).2.2.told.length ≤ s.told.length + s.fuel ∧ (tellN W F k at_ fr s).2.2.path.length ≤ s.path.length + s.fuel + 1
  | 0, _, _, s => ⟨Nat.le_add_right _ _, by show s.path.length ≤ _; omega⟩
  | k + 1, at_, fr, s => by
    unfold tellN
    cases hb : F.blocks[at_]? with
    | none => exact ⟨Nat.le_add_right _ _, by show s.path.length ≤ _; omega⟩
    | some b =>
      dsimp only
      have h1 := placesDo_len W b.list (enterDo b at_ fr s)
      have h2 := placesDo_fuel W b.list (enterDo b at_ fr s)
      have e1 : (enterDo b at_ fr s).told = s.told := rfl
      have e2 : (enterDo b at_ fr s).fuel = s.fuel := rfl
      have e3 : (enterDo b at_ fr s).path.length = s.path.length + 1 := by simp [enterDo]
      rw [e1, e2] at h1
      rw [e2] at h2
      have h3 := congrArg List.length h1.2
      rw [e3] at h3
      split
      · exact ⟨by dsimp only; omega, by dsimp only; omega⟩
      · split
        · exact ⟨by dsimp only; omega, by dsimp only; omega⟩
        · split
          · exact ⟨by dsimp only; omega, by dsimp only; omega⟩
          · have h4 := tellN_len W F k (nextDo b.term (placesDo W b.list (enterDo b at_ fr s)).2).toNat at_ { (placesDo W b.list (enterDo b at_ fr s)).2 with fuel := (placesDo W b.list (enterDo b at_ fr s)).2.fuel - 1 }
            dsimp only at h4
            exact ⟨by omega, by omega⟩
theorem start_len (reads : List Int) (fuel : Int) : (startDo reads fuel).fuel ≤ 5000 := by
  simp only [startDo]
  omega
theorem runOf_len (F : FnD) (reads : List Int) (fuel : Int) : (runOf F reads fuel).1.length ≤ 6000 := by
  unfold runOf
  split
  · have h1 := tellN_len wordV F 5001 0 (-1) (startDo reads fuel)
    have h2 := start_len reads fuel
    have h3 : (startDo reads fuel).told.length = 0 := rfl
    show (tellN wordV F 5001 0 (-1) (startDo reads fuel)).2.2.told.length ≤ 6000
    omega
  · exact Nat.zero_le _
theorem pathOf_len (F : FnD) (reads : List Int) (fuel : Int) : (pathOf F reads fuel).length ≤ 6000 := by
  unfold pathOf
  split
  · have h1 := tellN_len wordV F 5001 0 (-1) (startDo reads fuel)
    have h2 := start_len reads fuel
    have h3 : (startDo reads fuel).path.length = 0 := rfl
    show (tellN wordV F 5001 0 (-1) (startDo reads fuel)).2.2.path.length ≤ 6000
    omega
  · exact Nat.zero_le _
end Go.Proofs.Ytkpddakmcnknjaa
