/- Sequence, of the model, whole. -/
import Derived.Test.YtijihgkhdknkeaaMvSq
import Derived.Test.YtijihgkhdknkeaaMvSp2
namespace Go.Proofs.Ytijihgkhdknkeaa
open Go.ChangeShapes Go.WideShapes Go.ChangeAt Go.RowKit
set_option linter.unusedVariables false

set_option maxHeartbeats 4000000 in
theorem spec_sequence (v : Value) (l : List ArmD) (n : Int) (w : World) (ha : MovesAt w v l) :
    Calls Try.prog 13 #[v, .int .i64 n] w fun e w' => GivesSeq w (seqRow l n) (movesOk l n) e w' := by
  have HA : Hid (MovesAt w v l) := ha
  obtain ⟨a, cap, rfl, hm, hc⟩ := ha
  obtain ⟨m, HM⟩ : ∃ m, Hid (l.length = m) := ⟨_, rfl⟩
  obtain ⟨R, HR⟩ : ∃ R, Hid (movesOk l n = R) := ⟨_, rfl⟩
  obtain ⟨L, HL⟩ : ∃ L, Hid (seqRow l n = L) := ⟨_, rfl⟩
  rw [HM.out] at hm hc HA ⊢
  rw [HR.out, HL.out]
  clear hc
  go_enter Try.func13, Try.ntmps13
  go_wp2_with fail
  refine (spec_movesOk _ l n _ HA.out).mono ?_
  rw [HR.out]
  rintro e w2 ⟨rfl, b2⟩
  have B2 : Hid (Below w.heap.size w w2) := b2
  have hsz := b2.size
  clear b2
  cases R with
  | false =>
    obtain rfl : [] = L := by rw [← HL.out]; unfold seqRow; rw [HR.out]; rfl
    go_wp2_with fail
    go_ret2
    exact ⟨_, rfl, ownMoves_nil (w := w) (World.alloc_heap_new w2 _) hsz, B2.out.alloc hsz _⟩
  | true =>
    have HE : Hid (seqOf n l = L) := by show _ = _; rw [← HL.out]; unfold seqRow; rw [HR.out]; rfl
    go_wp2_with fail
    refine (l9Sequence_any _ l n _ (HA.out.keep B2.out) HR.out).mono ?_
    rw [HE.out]
    rintro e w3 ⟨v3, rfl, o3, b3⟩
    have O3 : Hid (OwnMoves w3 w.heap.size v3 L) := o3.low hsz
    have B3 : Hid (Below w.heap.size w w3) := Bel.after B2.out b3
    clear o3 b3
    go_wp2_with fail
    go_ret2
    exact ⟨_, rfl, O3.out, B3.out⟩
theorem seqRow_len (l : List ArmD) (n : Int) : (seqRow l n).length ≤ 48 := by
  unfold seqRow
  split
  · rename_i h
    have h1 := seqOf_len n l
    have h2 := movesOk_len h
    omega
  · simp
end Go.Proofs.Ytijihgkhdknkeaa
