/- What the laws of moves take besides: bytes, parts of lists. -/
import Derived.Test.YtijihgkhdknkeaaMvDrawV
import Derived.Test.YtijihgkhdknkeaaMvSq2
import Derived.Test.YtijihgkhdknkeaaMvRun
namespace Go.Proofs.Ytijihgkhdknkeaa
open Go.ChangeShapes Go.WideShapes Go.ChangeAt Go.RowKit
set_option linter.unusedVariables false

def SomeBool (w : World) (e : Ending) (w' : World) : Prop := (∃ b : Bool, e = .returned (.bool b)) ∧ w' = w
theorem big_any (a : Option Addr) (len cap : Nat) (w : World) : Calls Try.prog 9 #[.slice a len cap] w fun e w' => SomeBool w e w' := by
  go_enter Try.func9, Try.ntmps9
  go_wp2
  go_ret
  exact ⟨⟨_, rfl⟩, rfl⟩
def SomeAt (w : World) (e : Ending) (w' : World) : Prop := (∃ x : Nat, e = .returned (.int .i64 (x : Int)) ∧ x ≤ 255) ∧ w' = w
theorem at_any (a : Option Addr) (len cap : Nat) (zs : List Int) (w : World) (hr : IsRow .u8 w a len cap zs) : Calls Try.prog 21 #[.slice a len cap, .int .i64 1] w fun e w' => SomeAt w e w' := by
  by_cases h1 : (1 : Int) < (len : Int)
  · rcases hr with ⟨_, rfl, _, _⟩ | ⟨x, rfl, hl, hm, hz, hcell, hwz⟩
    · omega
    · obtain ⟨b, off, spot⟩ := x
      have hck := hcell 0 (by omega)
      have hspot : spot = none := by simpa [Addr.add] using World.cell?_spot hck
      subst hspot
      have hc0 : w.cell? ⟨b, off + 1, none⟩ = some (.int .u8 (zs.getD 1 0)) := by rw [← addr_add]; exact hcell 1 (by omega)
      have hz1 : zs.getD 1 0 ∈ zs := by
        rw [List.getD_eq_getElem?_getD, List.getElem?_eq_getElem (by omega)]
        simp
      have hw := hwz _ hz1
      generalize zs.getD 1 0 = z at *
      have hz0 : 0 ≤ z ∧ z ≤ 255 := by simpa [Lit.wf, IntKind.min, IntKind.max, IntKind.bits, IntKind.signed] using hw
      obtain ⟨hza, hzb⟩ := hz0
      obtain ⟨z, rfl⟩ := Int.eq_ofNat_of_zero_le hza
      clear hcell hwz hck hw hz hz1
      go_enter Try.func21, Try.ntmps21
      go_wp2
      go_ret
      exact ⟨⟨z, rfl, by omega⟩, rfl⟩
  · go_enter Try.func21, Try.ntmps21
    go_wp2
    go_ret
    exact ⟨⟨(7 + len) % 256, by simp, by omega⟩, rfl⟩

/-- Parts of a list of moves. -/
theorem moves_head {w : World} {lo g q cap : Nat} {l : List ArmD} (h : OwnMoves w lo (.slice (some ⟨g, 0, none⟩) q cap) l) {k : Nat} (hk : k ≤ l.length) : MovesAt w (.slice (some ⟨g, 0, none⟩) k cap) (l.take k) := by
  have hl : (l.take k).length = k := by rw [List.length_take]; omega
  have hs := h.small
  refine ⟨_, cap, by rw [hl], by rw [hl]; have : maxLen ≤ 9223372036854775807 := by decide
                                 omega, fun _ => ⟨g, 0, rfl, Nat.zero_le _, fun i x hx => ?_⟩⟩
  rw [Nat.zero_add]
  exact h.cellAt (get_of_take hx)
theorem moves_tail {w : World} {lo g q cap : Nat} {l : List ArmD} (h : OwnMoves w lo (.slice (some ⟨g, 0, none⟩) q cap) l) (hq : l.length = q) {k : Nat} (hk : k ≤ q) : MovesAt w (.slice (if cap = k then some ⟨g, 0, none⟩ else some ⟨g, k * 2, none⟩) (q - k) (cap - k)) (l.drop k) := by
  have hl : (l.drop k).length = q - k := by rw [List.length_drop]; omega
  have hs := h.small
  refine ⟨_, cap - k, by rw [hl], by rw [hl]; have : maxLen ≤ 9223372036854775807 := by decide
                                     omega, fun hp => ?_⟩
  have hcap : q ≤ cap := by
    rcases h.2 with ⟨h0, _⟩ | ⟨g2, cap2, cur2, h0, _, _, h5, _⟩
    · cases h0
    · cases h0; omega
  rw [hl] at hp
  rw [if_neg (by omega)]
  refine ⟨g, k * 2, rfl, Nat.zero_le _, fun i x hx => ?_⟩
  rw [List.getElem?_drop] at hx
  rw [show k * 2 + i * 2 = (k + i) * 2 by omega]
  exact h.cellAt hx
end Go.Proofs.Ytijihgkhdknkeaa
