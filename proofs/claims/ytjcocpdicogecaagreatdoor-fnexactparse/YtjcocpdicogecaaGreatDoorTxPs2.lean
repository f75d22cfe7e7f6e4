/- Words of a line, read by the model. -/
import Derived.Test.YtjcocpdicogecaaGreatDoorTxPs1
import Derived.Test.YtjcocpdicogecaaGreatDoorTxPa1
import Derived.Test.YtjcocpdicogecaaGreatDoorStO
namespace Go.Proofs.YtjcocpdicogecaaGreatDoor
open Go.ChangeShapes Go.WideShapes Go.ChangeAt Go.RowKit
set_option linter.unusedVariables false

def GivesTail (w : World) (l : List UInt8) (c : UInt8) (e : Ending) (w' : World) : Prop := ∃ (x : Int) (ok : Bool), e = .returned (.tuple #[.int .i64 x, .bool ok]) ∧ (ok = true → R64 x ∧ l = c :: Lib.itoa x) ∧ (ok = false → ∀ y, R64 y → l ≠ c :: Lib.itoa y) ∧ Below w.heap.size w w'
theorem bs_cut (l : List UInt8) (f k : Nat) : (bs l).extract f k = bs ((l.drop f).take (k - f)) := by
  apply Go.WideShapes.bytes_inj
  have h : ((bs l).extract f k).data = (bs l).data.extract f k := by
    simp
  rw [h]
  simp [bs]
theorem itoa_ne (x : Int) : Lib.itoa x ≠ [] := by
  unfold Lib.itoa
  split
  · simp
  · exact decDigits_ne _

theorem bs_tail (l : List UInt8) (m : Nat) (h : l.length = m) : (bs l).extract 1 m = bs (l.drop 1) := by
  rw [bs_cut, List.take_of_length_le (by rw [List.length_drop, h]; exact Nat.le_refl _)]
theorem cons_get (l : List UInt8) (d : UInt8) (h : l[0]? = some d) : l = d :: l.drop 1 := by
  cases l with
  | nil => cases h
  | cons z r => simp at h; rw [h]; rfl
theorem tail_none (c : UInt8) (l : List UInt8) (h : l.length < 2) (y : Int) : l ≠ c :: Lib.itoa y := by
  intro e
  have h9 := List.length_pos_iff.2 (itoa_ne y)
  rw [e, List.length_cons] at h
  omega
theorem tail_other (c d : UInt8) (l : List UInt8) (h : l[0]? = some d) (hn : d ≠ c) (y : Int) : l ≠ c :: Lib.itoa y := by
  intro e
  rw [e] at h
  simp at h
  exact hn h.symm
theorem gives_tail (w w1 : World) (l : List UInt8) (c d : UInt8) (x : Int) (ok : Bool) (hd : d = c) (hl : l = d :: l.drop 1) (hy : ok = true → R64 x ∧ Lib.itoa x = l.drop 1) (hn : ok = false → ∀ y, R64 y → Lib.itoa y ≠ l.drop 1) (hb : Below w.heap.size w w1) : GivesTail w l c (.returned (.tuple #[.int .i64 x, .bool ok])) w1 := by
  subst hd
  refine ⟨x, ok, rfl, fun h => ⟨(hy h).1, ?_⟩, fun h y hy2 e => hn h y hy2 ?_, hb⟩
  · rw [(hy h).2]; exact hl
  · rw [e]; rfl

set_option maxRecDepth 100000 in
set_option maxHeartbeats 4000000 in
theorem l17Tail_any (l : List UInt8) (c : UInt8) (w : World) (hl : l.length ≤ 1048576) :
    Calls Tryz.prog 26 #[.string (bs l), .int .u8 c.toNat] w fun e w' => GivesTail w l c e w' := by
  obtain ⟨m, HM⟩ : ∃ m, Hid (l.length = m) := ⟨_, rfl⟩
  have hsz : (bs l).size = m := by rw [bs_size, HM.out]
  have hm : m ≤ 1048576 := by rw [← HM.out]; exact hl
  clear hl
  go_enter Tryz.func26, Tryz.ntmps26
  by_cases h1 : (m : Int) < 2
  · have H2 : Hid (l.length < 2) := by show _ < _; rw [HM.out]; omega
    go_wp2_with fail
    exact bodyPost_ret (v := .tuple #[.int .i64 0, .bool false]) (by simp [results, Tryz.results26, go_sem]) rfl ⟨0, false, rfl, (fun h => by cases h), (fun _ y hy => tail_none c l H2.out y), Below.refl _ _⟩
  · obtain ⟨d, HC⟩ : ∃ d, Hid (l[0]? = some d) := ⟨l[0]'(by have := HM.out; omega), List.getElem?_eq_getElem _⟩
    have hg := bs_get l 0 d HC.out
    have HX : Hid ((bs l).extract 1 m = bs (l.drop 1)) := bs_tail l m HM.out
    have HL9 : Hid ((l.drop 1).length ≤ 1048576) := by show _ ≤ _; rw [List.length_drop, HM.out]; omega
    have HL : Hid (l = d :: l.drop 1) := cons_get l d HC.out
    by_cases he : (d.toNat : Int) = (c.toNat : Int)
    · have HE : Hid (d = c) := UInt8.toNat_inj.1 (by omega)
      have hb : ((d.toNat : Int) != (c.toNat : Int)) = false := by rw [he]; simp
      obtain ⟨y, HY⟩ : ∃ y, Hid (l.drop 1 = y) := ⟨_, rfl⟩
      clear he
      go_wp2_with fail
      rw [HX.out]
      refine (l17Num_any (l.drop 1) _ HL9.out).mono ?_
      rintro e w1 ⟨x, ok, rfl, hy, hn, b1⟩
      have HY2 : Hid (ok = true → R64 x ∧ Lib.itoa x = l.drop 1) := hy
      have HN2 : Hid (ok = false → ∀ y, R64 y → Lib.itoa y ≠ l.drop 1) := hn
      have HB2 : Hid (Below w.heap.size w w1) := b1
      clear hy hn b1
      go_wp2_with fail
      exact bodyPost_ret (v := .tuple #[.int .i64 x, .bool ok]) (by simp [results, Tryz.results26, go_sem]) rfl (gives_tail w w1 l c d x ok HE.out HL.out HY2.out HN2.out HB2.out)
    · have HE : Hid (d ≠ c) := fun h => he (by rw [h])
      have hb : ((d.toNat : Int) != (c.toNat : Int)) = true := by rw [bne_iff_ne]; exact he
      clear he
      go_wp2_with fail
      exact bodyPost_ret (v := .tuple #[.int .i64 0, .bool false]) (by simp [results, Tryz.results26, go_sem]) rfl ⟨0, false, rfl, (fun h => by cases h), (fun _ y hy => tail_other c d l HC.out HE.out y), Below.refl _ _⟩
end Go.Proofs.YtjcocpdicogecaaGreatDoor
