/- The program's names of steps, numerals and letters. -/
import Derived.Test.YtjcocpdicogecaaGreatDoorTxDig
import Derived.Test.YtjcocpdicogecaaGreatDoorTxPar
import Derived.Test.YtjcocpdicogecaaGreatDoorItoaLay
import Derived.Lib.AppendIntMem
namespace Go.Proofs.YtjcocpdicogecaaGreatDoor
open Go.ChangeShapes Go.WideShapes Go.ChangeAt Go.RowKit
set_option linter.unusedVariables false

theorem itoa_any (n : Int) (w : World) (hr : -9223372036854775808 ≤ n ∧ n ≤ 9223372036854775807) (hT : Tabs w) :
    Calls Tryz.prog 66 #[.int .i64 n] w fun e w' => GivesTxt w (Lib.itoa n) e w' := by
  refine (Any.strconv_Itoa Tryz.laysmn171 n hr.1 hr.2 w hT.pt).mono ?_
  rintro e w' ⟨rfl, k, os, rfl⟩
  exact ⟨rfl, Lib.below_grow _ _ (Nat.le_refl _) _ _⟩
theorem letter_any (p : Int) (w : World) :
    Calls Tryz.prog 51 #[.int .i64 p] w fun e w' => e = .returned (.string (bs (letL p))) ∧ w' = w := by
  unfold letL
  by_cases h1 : p = 1
  · subst h1
    go_enter Tryz.func51, Tryz.ntmps51
    go_wp2
    go_ret
    exact ⟨rfl, rfl⟩
  · by_cases h2 : p = 2
    · subst h2
      go_enter Tryz.func51, Tryz.ntmps51
      go_wp2
      go_ret
      exact ⟨rfl, rfl⟩
    · rw [if_neg h1, if_neg h2]
      go_enter Tryz.func51, Tryz.ntmps51
      go_wp2
      go_ret
      exact ⟨rfl, rfl⟩
theorem impl_wordName (k : Nat) (w : World) (h1 : 1 ≤ k) (h2 : k ≤ 10) (hT : Tabs w) :
    Calls Tryz.prog 83 #[.int .i64 k] w fun e w' => GivesTxt w (opNm (k + 11)) e w' := by
  have hv : wordOkV (k : Int) = true := by unfold wordOkV; simp; omega
  have h9 := hT.wt k (by omega)
  have h8 : wNm k = opNm (k + 11) := by unfold wNm; rw [if_neg (by omega)]
  rw [h8] at h9
  clear hT
  go_enter Tryz.func83, Tryz.ntmps83
  go_wp2_with fail
  refine (impl_wordOk (k : Int) _).mono ?_
  rintro e w1 ⟨rfl, hw1⟩
  subst hw1
  rw [hv]
  have hk : (k : Int) < 11 := by omega
  go_wp2
  go_ret
  exact ⟨rfl, by repeat (first | exact Below.refl _ _ | apply Below.drew | refine Below.alloc ?_ (by simp <;> omega) _ | refine Below.setCell ?_ (by simp <;> omega) _)⟩
theorem stepName_any (k : Nat) (w : World) (h1 : 1 ≤ k) (h2 : k ≤ 21) (hT : Tabs w) :
    Calls Tryz.prog 62 #[.int .i64 k] w fun e w' => GivesTxt w (opNm k) e w' := by
  by_cases h : k ≤ 11
  · have h9 := hT.nt k (by omega)
    have hk : (k : Int) < 12 := by omega
    have hk1 : (1 : Int) ≤ (k : Int) := by omega
    have hk2 : (k : Int) ≤ 11 := by omega
    clear hT
    go_enter Tryz.func62, Tryz.ntmps62
    go_wp2
    go_ret
    exact ⟨rfl, by repeat (first | exact Below.refl _ _ | apply Below.drew | refine Below.alloc ?_ (by simp <;> omega) _ | refine Below.setCell ?_ (by simp <;> omega) _)⟩
  · obtain ⟨j, rfl⟩ : ∃ j : Nat, k = j + 11 := ⟨k - 11, by omega⟩
    have hk1 : (1 : Int) ≤ ((j + 11 : Nat) : Int) := by omega
    have hk2 : ¬ ((j + 11 : Nat) : Int) ≤ 11 := by omega
    have hwk : wrap64 (((j + 11 : Nat) : Int) - 11) = (j : Int) := by unfold wrap64; omega
    obtain ⟨z, HZ⟩ : ∃ z, Hid (((j + 11 : Nat) : Int) = z) := ⟨_, rfl⟩
    rw [HZ.out] at hk1 hk2 hwk ⊢
    have hwk2 : IntKind.i64.wrap (z - 11) = (j : Int) := by rw [IntWalk.i64_left, hwk]
    have hz : ¬ z < 1 := by omega
    have hz2 : 11 < z := by omega
    go_enter Tryz.func62, Tryz.ntmps62
    go_wp2_with fail
    refine (impl_wordName j _ (by omega) (by omega) hT).mono ?_
    rintro e w1 ⟨rfl, b1⟩
    go_wp2
    go_ret
    exact ⟨rfl, b1⟩
end Go.Proofs.YtjcocpdicogecaaGreatDoor
