/- The program's tables in memory: forms, names of steps, names of words, and the library's powers of ten. The model's numerals. Numerals read by the model. The program's names of steps, numerals and letters. -/
import Derived.Test.YtjcocpdicogecaaGreatDoorMaStK
import Derived.Test.YtjcocpdicogecaaGreatDoorKDef
import Derived.Lib.LaidTab
import Derived.WalkSmall
import Derived.Carry
import Derived.Laws.IdiomStrings
import Derived.Test.YtjcocpdicogecaaGreatDoorHmInK
import Derived.Deep.DeepCutAuto
import Derived.Test.YtjcocpdicogecaaGreatDoorItoaLayK
import Derived.Lib.AppendIntMem
namespace Go.Proofs.YtjcocpdicogecaaGreatDoor
open Go.ChangeShapes Go.WideShapes Go.ChangeAt Go.RowKit
set_option linter.unusedVariables false

/-- A text of so many bytes. -/
def bs (l : List UInt8) : ByteArray := ⟨l.toArray⟩
theorem bs_inj {a b : List UInt8} (h : bs a = bs b) : a = b := by
  unfold bs at h
  have h1 := congrArg (fun x : ByteArray => x.data.toList) h
  simpa using h1
theorem bs_list (l : List UInt8) : (bs l).data.toList = l := by simp [bs]
theorem bs_of (s : ByteArray) : bs s.data.toList = s := by
  unfold bs
  simp
theorem bs_size (l : List UInt8) : (bs l).size = l.length := by
  show (bs l).data.size = _
  simp [bs]
theorem bs_app (a b : List UInt8) : bs a ++ bs b = bs (a ++ b) := by
  apply Go.WideShapes.bytes_inj
  simp [bs, ByteArray.data_append]
theorem ret_bs {a b : List UInt8} (h : a = b) : Ending.returned (.string (bs a)) = .returned (.string (bs b)) := by rw [h]

def wNm (i : Nat) : List UInt8 := if i = 0 then [] else opNm (i + 11)
def NTab (w : World) : Prop := ∀ i : Nat, i < 12 → w.cell? ⟨2, i, none⟩ = some (.string (bs (opNm i)))
def WTab (w : World) : Prop := ∀ i : Nat, i < 11 → w.cell? ⟨3, i, none⟩ = some (.string (bs (wNm i)))

structure Tabs (w : World) : Prop where
  ft : FTab w
  nt : NTab w
  wt : WTab w
  pt : Lib.TabIs Tryz.prog w "internal/strconv.uint64pow10" .u64 Lib.pow10Tab
theorem gPow : Tryz.prog.globalNamed "internal/strconv.uint64pow10" = some 9 := by kernel_rfl
theorem NTab.lt {w : World} (h : NTab w) : 2 < w.heap.size := World.block_lt_of_cell? w _ (h 0 (by omega))
theorem WTab.lt {w : World} (h : WTab w) : 3 < w.heap.size := World.block_lt_of_cell? w _ (h 0 (by omega))
theorem FTab.lt {w : World} (h : FTab w) : 1 < w.heap.size := World.block_lt_of_cell? w _ (h 0 (by omega)).1
theorem Tabs.plt {w : World} (h : Tabs w) : 9 < w.heap.size := by
  have h9 := h.pt.cell gPow 0 (by rw [Lib.pow10Tab_length]; omega)
  exact World.block_lt_of_cell? w _ h9
theorem Tabs.under {lo : Nat} {w w' : World} (h : Tabs w) (hb : Below lo w w') (h0 : 1 < lo) (h1 : 2 < lo) (h2 : 3 < lo) (h3 : 9 < lo) : Tabs w' := by
  refine ⟨fun i hi => ?_, fun i hi => ?_, fun i hi => ?_, var?_below hb gPow h3 h.pt⟩
  · obtain ⟨a, b, c, d⟩ := h.ft i hi
    exact ⟨(hb.cell (p := ⟨1, i * 4, none⟩) h0).trans a, (hb.cell (p := ⟨1, i * 4 + 1, none⟩) h0).trans b, (hb.cell (p := ⟨1, i * 4 + 2, none⟩) h0).trans c, (hb.cell (p := ⟨1, i * 4 + 3, none⟩) h0).trans d⟩
  · exact (hb.cell (p := ⟨2, i, none⟩) h1).trans (h.nt i hi)
  · exact (hb.cell (p := ⟨3, i, none⟩) h2).trans (h.wt i hi)
theorem Tabs.keep {w w' : World} (h : Tabs w) (hb : Below w.heap.size w w') : Tabs w' := h.under hb h.ft.lt h.nt.lt h.wt.lt h.plt
end Go.Proofs.YtjcocpdicogecaaGreatDoor

namespace Go.Proofs.YtjcocpdicogecaaGreatDoor
open Go.ChangeShapes Go.WideShapes Go.ChangeAt Go.RowKit
set_option linter.unusedVariables false

def GivesTxt (w : World) (l : List UInt8) (e : Ending) (w' : World) : Prop := e = .returned (.string (bs l)) ∧ Below w.heap.size w w'
theorem digits_big {u : Nat} (h : 10 ≤ u) : Lib.decDigits u = Lib.decDigits (u / 10) ++ [UInt8.ofNat (48 + u % 10)] := by
  rw [Lib.decDigits, dif_neg (by omega)]
def LeftDig (u k : Nat) (l : List UInt8) : Prop := (k ≠ 0 → Lib.decDigits k ++ l = Lib.decDigits u) ∧ (k = 0 → l = Lib.decDigits u)
theorem LeftDig.next {u k : Nat} {l : List UInt8} (h : LeftDig u k l) (hk : k ≠ 0) : LeftDig u (k / 10) (UInt8.ofNat (48 + k % 10) :: l) := by
  have h1 := h.1 hk
  by_cases h9 : 10 ≤ k
  · rw [digits_big h9, List.append_assoc] at h1
    exact ⟨fun _ => h1, fun e => by omega⟩
  · rw [Lib.decDigits_one (by omega)] at h1
    refine ⟨fun e => by omega, fun _ => ?_⟩
    rw [show k % 10 = k by omega]
    exact h1

theorem dig_len {u : Nat} (h : u ≠ 0 ∧ u ≤ 9223372036854775808) : (Lib.decDigits u).length ≤ 20 := by
  have h9 := Lib.itoa_length_le (-(u : Int)) (by omega) (by omega)
  unfold Lib.itoa at h9
  rw [if_pos (by omega)] at h9
  simp at h9
  omega
theorem LeftDig.len {u k : Nat} {l : List UInt8} (h : LeftDig u k l) (hu : u ≠ 0 ∧ u ≤ 9223372036854775808) : l.length ≤ 20 := by
  have h9 := dig_len hu
  by_cases e : k = 0
  · rw [h.2 e]; exact h9
  · have h8 := congrArg List.length (h.1 e)
    rw [List.length_append] at h8
    omega
theorem conv_one {W : World} {B : Nat} {c : UInt8} {z : Int} (hz : z = (c.toNat : Int)) (hc : W.cell? ⟨B, 0, none⟩ = some (.int .u8 z)) :
    (convert 119 9 (.slice (some ⟨B, 0, none⟩) 1 1)).run Tryz.prog W = .ok (.string (bs [c])) W := by
  have h := run_convert_bytes_back (P := Tryz.prog) W 119 9 5 ⟨B, 0, none⟩ 1 [c] Tryz.underlying119 Tryz.underlying5 Tryz.underlying9 (fun j hj => by
    simp at hj
    subst hj
    simpa [Addr.add, hz] using hc)
  exact h
theorem dig_byte (k : Nat) : ((48 + k % 10 : Nat) : Int) = ((UInt8.ofNat (48 + k % 10)).toNat : Int) := by rw [dig_toNat (by omega)]

set_option maxRecDepth 100000 in
theorem l17Digits_any (n : Int) (w : World) (hr : -9223372036854775808 ≤ n ∧ n ≤ 9223372036854775807) :
    Calls Tryz.prog 42 #[.int .i64 n] w fun e w' => GivesTxt w (Lib.itoa n) e w' := by
  by_cases h0 : n = 0
  · subst h0
    go_enter Tryz.func42, Tryz.ntmps42
    go_wp2
    go_ret
    exact ⟨by unfold Lib.itoa; rw [if_neg (by omega)]; rw [show (0 : Int).toNat = 0 from rfl, Lib.decDigits_one (by omega)]; rfl, by repeat (first | exact Below.refl _ _ | apply Below.drew | refine Below.alloc ?_ (by simp <;> omega) _ | refine Below.setCell ?_ (by simp <;> omega) _)⟩
  · by_cases hs : n < 0
    · obtain ⟨u, rfl⟩ : ∃ u : Nat, n = -(u : Int) := ⟨n.natAbs, by omega⟩
      have HU : Hid (u ≠ 0 ∧ u ≤ 9223372036854775808) := ⟨by omega, by omega⟩
      clear hr
      go_enter Tryz.func42, Tryz.ntmps42
      go_wp2_with fail
      go_loopw [0, 4] (fun nv ov wr => ∃ (k : Nat) (l : List UInt8), nv = .int .i64 (-(k : Int)) ∧ ov = .string (bs l) ∧ k ≤ u ∧ LeftDig u k l ∧ Below w.heap.size w wr) (fun nv _ _ => (intOf nv).natAbs)
      case atStart => exact ⟨u, [], rfl, rfl, Nat.le_refl _, ⟨fun _ => by simp, fun e => absurd e HU.out.1⟩, by repeat (first | exact Below.refl _ _ | apply Below.drew | refine Below.alloc ?_ (by simp <;> omega) _ | refine Below.setCell ?_ (by simp <;> omega) _)⟩
      case round =>
        obtain ⟨k, l, rfl, rfl, hk, hl, hb⟩ := hrel
        have HL : Hid (LeftDig u k l) := hl
        have HB : Hid (Below w.heap.size w wr) := hb
        have HK : Hid (k ≤ u) := hk
        clear hl hb hk
        by_cases hk0 : k = 0
        · subst hk0
          have HE : Hid (l = Lib.decDigits u) := HL.out.2 rfl
          have hw1 : ¬ 9223372036854775807 < 1 + (bs l).size := by rw [bs_size]; have := HL.out.len HU.out; omega
          go_wp2_with fail
          refine bodyPost_ret (v := .string (bs ([45] ++ l))) (by simp [results, Tryz.results42, go_sem]; try (rw [show (⟨#[45]⟩ : ByteArray) = bs [45] from rfl, bs_app]; rfl)) rfl ?_
          refine ⟨ret_bs ?_, HB.out⟩
          rw [HE.out]
          unfold Lib.itoa
          rw [if_pos (by have := HU.out.1; omega)]; simp
        · have HK0 : Hid (k ≠ 0) := hk0
          have hk1 : ¬ ((-(k : Int) : Int) = 0) := by omega
          have hk2 : (0 : Int) ≤ (k : Int) := by omega
          obtain ⟨d, HD⟩ : ∃ d : Nat, Hid (k % 10 = d) := ⟨_, rfl⟩
          obtain ⟨q, HQ⟩ : ∃ q : Nat, Hid (k / 10 = q) := ⟨_, rfl⟩
          have hd : (k : Int) % 10 = (d : Int) := by have := HD.out; omega
          have hq : (k : Int) / 10 = (q : Int) := by have := HQ.out; omega
          have hd9 : d ≤ 9 := by have := HD.out; omega
          have hd0 : decide ((d : Int) < 0) = false := by simp
          by_cases hdz : d = 0
          · have hrm : Int.tmod (-(k : Int)) 10 = 0 := by rw [Int.neg_tmod, Int.tmod_eq_emod_of_nonneg hk2]; omega
            obtain ⟨c, HC⟩ : ∃ c : UInt8, Hid (UInt8.ofNat (48 + d) = c) := ⟨_, rfl⟩
            have hw2 : ¬ 9223372036854775807 < (bs [c]).size + (bs l).size := by rw [bs_size, bs_size]; have := HL.out.len HU.out; simp only [List.length_singleton]; omega
            have hcv := conv_one (z := 48) (W := wr.alloc (.cells #[.int .u8 48] 5)) (B := wr.heap.size) (c := c) (by have h9 := dig_toNat (d := d) (by omega); rw [HC.out] at h9; omega) (by simp [go_sem])
            have hqm : Int.tdiv (-(k : Int)) 10 = -(q : Int) := by rw [Int.neg_tdiv, Int.tdiv_eq_ediv_of_nonneg hk2, hq]
            have hwq : wrap64 (-(q : Int)) = -(q : Int) := by have := HQ.out; have := HK.out; have := HU.out; unfold wrap64; omega
            go_wp2_with fail
            go_roundw
            case rel => exact ⟨q, c :: l, by go_num, by rw [bs_app]; rfl, by have := HQ.out; have := HK.out; omega, by rw [← HC.out, ← HD.out, ← HQ.out]; exact HL.out.next HK0.out, Bel.after HB.out (Bel.alloc _ _)⟩
            case measure => simp [intOf]; have := HQ.out; have := HK0.out; omega
          · have hdp : 0 < d := by omega
            obtain ⟨c, HC⟩ : ∃ c : UInt8, Hid (UInt8.ofNat (48 + d) = c) := ⟨_, rfl⟩
            have hw2 : ¬ 9223372036854775807 < (bs [c]).size + (bs l).size := by rw [bs_size, bs_size]; have := HL.out.len HU.out; simp only [List.length_singleton]; omega
            have hcv := conv_one (z := 48 + (d : Int)) (W := wr.alloc (.cells #[.int .u8 (48 + (d : Int))] 5)) (B := wr.heap.size) (c := c) (by have h9 := dig_toNat (d := d) (by omega); rw [HC.out] at h9; omega) (by simp [go_sem])
            have hrm : Int.tmod (-(k : Int)) 10 = -(d : Int) := by rw [Int.neg_tmod, Int.tmod_eq_emod_of_nonneg hk2]; omega
            have hqm : Int.tdiv (-(k : Int)) 10 = -(q : Int) := by rw [Int.neg_tdiv, Int.tdiv_eq_ediv_of_nonneg hk2, hq]
            have hwq : wrap64 (-(q : Int)) = -(q : Int) := by have := HQ.out; have := HK.out; have := HU.out; unfold wrap64; omega
            go_wp2_with fail
            go_roundw
            case rel => exact ⟨q, c :: l, by go_num, by rw [bs_app]; rfl, by have := HQ.out; have := HK.out; omega, by rw [← HC.out, ← HD.out, ← HQ.out]; exact HL.out.next HK0.out, Bel.after HB.out (Bel.alloc _ _)⟩
            case measure => simp [intOf]; have := HQ.out; have := HK0.out; omega
    · obtain ⟨u, rfl⟩ : ∃ u : Nat, n = (u : Int) := ⟨n.toNat, by omega⟩
      have HU : Hid (u ≠ 0 ∧ u ≤ 9223372036854775808) := ⟨by omega, by omega⟩
      clear hr
      go_enter Tryz.func42, Tryz.ntmps42
      go_wp2_with fail
      go_loopw [0, 4] (fun nv ov wr => ∃ (k : Nat) (l : List UInt8), nv = .int .i64 ((k : Int)) ∧ ov = .string (bs l) ∧ k ≤ u ∧ LeftDig u k l ∧ Below w.heap.size w wr) (fun nv _ _ => (intOf nv).natAbs)
      case atStart => exact ⟨u, [], rfl, rfl, Nat.le_refl _, ⟨fun _ => by simp, fun e => absurd e HU.out.1⟩, by repeat (first | exact Below.refl _ _ | apply Below.drew | refine Below.alloc ?_ (by simp <;> omega) _ | refine Below.setCell ?_ (by simp <;> omega) _)⟩
      case round =>
        obtain ⟨k, l, rfl, rfl, hk, hl, hb⟩ := hrel
        have HL : Hid (LeftDig u k l) := hl
        have HB : Hid (Below w.heap.size w wr) := hb
        have HK : Hid (k ≤ u) := hk
        clear hl hb hk
        by_cases hk0 : k = 0
        · subst hk0
          have HE : Hid (l = Lib.decDigits u) := HL.out.2 rfl
          have hw1 : ¬ 9223372036854775807 < 1 + (bs l).size := by rw [bs_size]; have := HL.out.len HU.out; omega
          go_wp2_with fail
          refine bodyPost_ret (v := .string (bs (l))) (by simp [results, Tryz.results42, go_sem]; try (rw [show (⟨#[45]⟩ : ByteArray) = bs [45] from rfl, bs_app]; rfl)) rfl ?_
          refine ⟨ret_bs ?_, HB.out⟩
          rw [HE.out]
          unfold Lib.itoa
          rw [if_neg (by omega)]; simp
        · have HK0 : Hid (k ≠ 0) := hk0
          have hk1 : ¬ (((k : Int) : Int) = 0) := by omega
          have hk2 : (0 : Int) ≤ (k : Int) := by omega
          obtain ⟨d, HD⟩ : ∃ d : Nat, Hid (k % 10 = d) := ⟨_, rfl⟩
          obtain ⟨q, HQ⟩ : ∃ q : Nat, Hid (k / 10 = q) := ⟨_, rfl⟩
          have hd : (k : Int) % 10 = (d : Int) := by have := HD.out; omega
          have hq : (k : Int) / 10 = (q : Int) := by have := HQ.out; omega
          have hd9 : d ≤ 9 := by have := HD.out; omega
          have hd0 : decide ((d : Int) < 0) = false := by simp
          obtain ⟨c, HC⟩ : ∃ c : UInt8, Hid (UInt8.ofNat (48 + d) = c) := ⟨_, rfl⟩
          have hw2 : ¬ 9223372036854775807 < (bs [c]).size + (bs l).size := by rw [bs_size, bs_size]; have := HL.out.len HU.out; simp only [List.length_singleton]; omega
          have hcv := conv_one (z := 48 + (d : Int)) (W := wr.alloc (.cells #[.int .u8 (48 + (d : Int))] 5)) (B := wr.heap.size) (c := c) (by have h9 := dig_toNat (d := d) (by omega); rw [HC.out] at h9; omega) (by simp [go_sem])
          have hrm : Int.tmod ((k : Int)) 10 = (d : Int) := by rw [Int.tmod_eq_emod_of_nonneg hk2, hd]
          have hqm : Int.tdiv ((k : Int)) 10 = (q : Int) := by rw [Int.tdiv_eq_ediv_of_nonneg hk2, hq]
          have hwq : wrap64 ((q : Int)) = (q : Int) := by have := HQ.out; have := HK.out; have := HU.out; unfold wrap64; omega
          go_wp2_with fail
          rw [hwq]
          go_roundw
          case rel => exact ⟨q, c :: l, rfl, by rw [bs_app]; rfl, by have := HQ.out; have := HK.out; omega, by rw [← HC.out, ← HD.out, ← HQ.out]; exact HL.out.next HK0.out, Bel.after HB.out (Bel.alloc _ _)⟩
          case measure => simp [intOf]; have := HQ.out; have := HK0.out; omega
end Go.Proofs.YtjcocpdicogecaaGreatDoor

namespace Go.Proofs.YtjcocpdicogecaaGreatDoor
open Go.ChangeShapes Go.WideShapes Go.ChangeAt Go.RowKit
set_option linter.unusedVariables false

def GivesNum (w : World) (l : List UInt8) (e : Ending) (w' : World) : Prop := ∃ (x : Int) (ok : Bool), e = .returned (.tuple #[.int .i64 x, .bool ok]) ∧ (ok = true → R64 x ∧ Lib.itoa x = l) ∧ (ok = false → ∀ y, R64 y → Lib.itoa y ≠ l) ∧ Below w.heap.size w w'
theorem GivesNum.no {w w' : World} {l : List UInt8} (h : ∀ y, R64 y → Lib.itoa y ≠ l) (hb : Below w.heap.size w w') : GivesNum w l (.returned (.tuple #[.int .i64 0, .bool false])) w' := ⟨0, false, rfl, (fun e => by cases e), (fun _ => h), hb⟩
theorem meas_up {k n : Nat} (h : k + 1 ≤ n) : n - (intOf (.int .i64 ((k : Int) + 1))).toNat < n - (intOf (.int .i64 (k : Int))).toNat := by simp [intOf]; omega
theorem wrapW_is (n : Int) : wrapW n = wrap64 n := by unfold wrapW wrap64; omega

theorem l1Bit_any (b : Bool) (w : World) : Calls Tryz.prog 41 #[.bool b] w fun e w' => e = .returned (.int .i64 (if b then 1 else 0)) ∧ w' = w := by
  go_enter Tryz.func41, Tryz.ntmps41
  cases b
  · go_wp2
    go_ret
    exact ⟨rfl, rfl⟩
  · go_wp2
    go_ret
    exact ⟨rfl, rfl⟩
theorem bs_get (l : List UInt8) (i : Nat) (c : UInt8) (h : l[i]? = some c) : ∀ hh : i < (bs l).size, (bs l)[i]'hh = c := fun hh => by
  have h1 : (bs l)[i]'hh = (bs l).data[i]'hh := rfl
  have h2 := (List.getElem?_eq_some_iff.1 h).2
  rw [h1]
  simpa [bs] using h2
set_option maxRecDepth 100000 in
set_option maxHeartbeats 4000000 in
theorem l17Num_any (l : List UInt8) (w : World) (hl : l.length ≤ 1048576) :
    Calls Tryz.prog 27 #[.string (bs l)] w fun e w' => GivesNum w l e w' := by
  obtain ⟨m, HM⟩ : ∃ m, Hid (l.length = m) := ⟨_, rfl⟩
  have hsz : (bs l).size = m := by rw [bs_size, HM.out]
  have hm : m ≤ 1048576 := by rw [← HM.out]; exact hl
  clear hl
  obtain ⟨neg, hneg⟩ : ∃ b, b = (decide (1 < l.length) && decide (l[0]? = some 45)) := ⟨_, rfl⟩
  have HNG : Hid ((decide (1 < l.length) && decide (l[0]? = some 45)) = neg) := hneg.symm
  clear hneg
  go_enter Tryz.func27, Tryz.ntmps27
  go_upto_region 1 with fail
  go_cut [4] (fun v wx => v = .bool neg ∧ wx = w)
  case first =>
    by_cases h1 : m ≤ 1
    · have hf : neg = false := by
        rw [← HNG.out, decide_eq_false (by have := HM.out; omega)]
        rfl
      subst hf
      go_wp2_with fail
      go_meet
      exact ⟨rfl, rfl⟩
    · obtain ⟨c, HC⟩ : ∃ c, Hid (l[0]? = some c) := ⟨l[0]'(by have := HM.out; omega), List.getElem?_eq_getElem _⟩
      have hg := bs_get l 0 c HC.out
      have hc : ((c.toNat : Int) == 45) = neg := by
        rw [← HNG.out, decide_eq_true (by have := HM.out; omega), HC.out]
        by_cases e : c = 45
        · subst e; rfl
        · have e2 : c.toNat ≠ 45 := fun h9 => e (UInt8.toNat_inj.1 h9)
          have e3 : ((c.toNat : Int) == 45) = false := by rw [beq_eq_false_iff_ne]; omega
          rw [e3]
          simp [e]
      go_wp2_with fail
      go_meet
      exact ⟨rfl, rfl⟩
  case rest =>
    obtain ⟨rfl, hwc⟩ := hcut
    subst hwc
    go_wp2_with fail
    refine (l1Bit_any neg _).mono ?_
    rintro e w1 ⟨rfl, hw1⟩
    subst hw1
    obtain ⟨st, HST⟩ : ∃ st : Nat, Hid ((if neg then 1 else 0) = st) := ⟨_, rfl⟩
    have hst : (if neg then (1 : Int) else 0) = (st : Int) := by rw [← HST.out]; split <;> rfl
    have HP : Hid (∀ y, R64 y → Lib.itoa y = l → NumParts l neg st y) := fun y hy e => by
      obtain ⟨n', s', hp⟩ := num_parts hy
      rw [e] at hp
      have e1 : n' = neg := hp.sign.trans HNG.out
      subst e1
      have e2 : s' = st := hp.start.trans HST.out
      subst e2
      exact hp
    have hst1 : st ≤ 1 := by rw [← HST.out]; split <;> omega
    rw [hst]
    by_cases hA : 19 < (m : Int) - (st : Int)
    · have hwm : wrap64 ((m : Int) - (st : Int)) = (m : Int) - (st : Int) := by unfold wrap64; omega
      go_wp2_with fail
      refine bodyPost_ret (v := .tuple #[.int .i64 0, .bool false]) (by simp [results, Tryz.results27, go_sem]) rfl (GivesNum.no (fun y hy e => ?_) (Below.refl _ _))
      have h9 := (HP.out y hy e).size
      have := HM.out
      omega
    · have hst0 : st ≤ m := by
        rw [← HST.out]
        split
        · have h9 := HNG.out
          rename_i h8
          rw [h8] at h9
          simp at h9
          have := HM.out
          omega
        · omega
      by_cases hE : m = st
      · have hwm : wrap64 ((m : Int) - (st : Int)) = 0 := by unfold wrap64; omega
        have heq : ((m : Int) == (st : Int)) = true := by simp [hE]
        go_wp2_with fail
        refine bodyPost_ret (v := .tuple #[.int .i64 0, .bool false]) (by simp [results, Tryz.results27, go_sem]) rfl (GivesNum.no (fun y hy e => ?_) (Below.refl _ _))
        have h9 := (HP.out y hy e).size
        have := HM.out
        omega
      · have HLT : Hid (st < m) := by show _ < _; omega
        have hwm : wrap64 ((m : Int) - (st : Int)) = (m : Int) - (st : Int) := by unfold wrap64; omega
        have heq : ((m : Int) == (st : Int)) = false := by rw [beq_eq_false_iff_ne]; omega
        go_wp2_with fail
        clear hwm heq
        obtain ⟨w0, hw0⟩ : ∃ x, x = w1 := ⟨_, rfl⟩
        go_loopw [5, 6, 7] (fun av xv dv wr => ∃ k : Nat, st ≤ k ∧ k ≤ m ∧ av = .int .i64 k ∧ xv = .int .i64 (foldW neg ((l.drop st).take (k - st))) ∧ wr = w0) (fun av _ _ _ => m - (intOf av).toNat)
        case atStart => exact ⟨st, Nat.le_refl _, Nat.le_of_lt HLT.out, rfl, by rw [Nat.sub_self]; rfl, hw0.symm⟩
        case round =>
          obtain ⟨k, hk1, hk2, rfl, rfl, hwr⟩ := hrel
          obtain ⟨X, HX⟩ : ∃ X, Hid (foldW neg ((l.drop st).take (k - st)) = X) := ⟨_, rfl⟩
          rw [HX.out]
          by_cases hlt : (k : Int) < (m : Int)
          · have HK1 : Hid (k + 1 ≤ m ∧ st ≤ k) := ⟨by omega, hk1⟩
            obtain ⟨c, HC⟩ : ∃ c, Hid (l[k]? = some c) := ⟨l[k]'(by have := HM.out; omega), List.getElem?_eq_getElem _⟩
            have hg := bs_get l k c HC.out
            have hc256 : c.toNat < 256 := c.toNat_lt
            have hwd : wrap64 ((c.toNat : Int) - 48) = (c.toNat : Int) - 48 := by unfold wrap64; omega
            have HTK : Hid ((l.drop st).take (k + 1 - st) = (l.drop st).take (k - st) ++ [c]) := by
              show _ = _
              rw [show k + 1 - st = (k - st) + 1 by omega, List.take_add_one, List.getElem?_drop, show st + (k - st) = k by omega, HC.out]
              rfl
            go_wp2_with fail
            refine (l1In_any ((c.toNat : Int) - 48) 0 9 _).mono ?_
            rintro e w2 ⟨rfl, hw2⟩
            subst hw2
            by_cases hd : 48 ≤ c.toNat ∧ c.toNat ≤ 57
            · have hb : (decide (0 ≤ (c.toNat : Int) - 48) && decide ((c.toNat : Int) - 48 ≤ 9)) = true := by simp; omega
              rw [hb]
              have HDG : Hid (foldW neg ((l.drop st).take (k + 1 - st)) = digW neg X ((c.toNat : Int) - 48)) := by show _ = _; rw [HTK.out, foldW_snoc, HX.out]
              obtain ⟨d, HD⟩ : ∃ d, Hid ((c.toNat : Int) - 48 = d) := ⟨_, rfl⟩
              rw [HD.out] at hwd HDG ⊢
              have hwk : wrap64 ((k : Int) + 1) = (k : Int) + 1 := by unfold wrap64; omega
              clear hb hd
              cases neg with
              | true =>
                have hE1 : wrap64 (wrap64 (10 * X) - d) = digW true X d := by unfold digW; rw [if_pos rfl, wrapW_is, wrapW_is]
                go_wp2_with fail
                try rw [hE1]
                try rw [hwk]
                go_roundw
                case rel => exact ⟨k + 1, by have := HK1.out; omega, HK1.out.1, by go_num, by rw [HDG.out], by first | exact hwr | exact hw0.symm⟩
                case measure => exact meas_up HK1.out.1
              | false =>
                have hE1 : wrap64 (wrap64 (10 * X) + d) = digW false X d := by unfold digW; rw [if_neg (by simp), wrapW_is, wrapW_is]
                go_wp2_with fail
                try rw [hE1]
                try rw [hwk]
                go_roundw
                case rel => exact ⟨k + 1, by have := HK1.out; omega, HK1.out.1, by go_num, by rw [HDG.out], by first | exact hwr | exact hw0.symm⟩
                case measure => exact meas_up HK1.out.1
            · have hb : (decide (0 ≤ (c.toNat : Int) - 48) && decide ((c.toNat : Int) - 48 ≤ 9)) = false := by
                cases h9 : (decide (0 ≤ (c.toNat : Int) - 48) && decide ((c.toNat : Int) - 48 ≤ 9)) with
                | false => rfl
                | true => simp at h9; omega
              rw [hb]
              have HND : Hid (¬ (48 ≤ c.toNat ∧ c.toNat ≤ 57)) := hd
              clear hb hd
              go_wp2_with fail
              refine bodyPost_ret (v := .tuple #[.int .i64 0, .bool false]) (by simp [results, Tryz.results27, go_sem]) rfl (GivesNum.no (fun y hy e => ?_) (Below.refl _ _))
              refine HND.out ((HP.out y hy e).digits c ?_)
              refine List.mem_of_getElem? (i := k - st) ?_
              rw [List.getElem?_drop, show st + (k - st) = k by have := HK1.out; omega]
              exact HC.out
          · have hkm : k = m := by omega
            subst hkm
            have HXR : Hid (R64 X) := by show R64 X; rw [← HX.out]; exact foldW_r _ _
            have HXL : Hid (foldW neg (l.drop st) = X) := by
              show _ = _
              rw [← HX.out, List.take_of_length_le (by rw [List.length_drop, HM.out]; exact Nat.le_refl _)]
            go_wp2_with fail
            refine (l17Digits_any X _ HXR.out).mono ?_
            rintro e w2 ⟨rfl, b2⟩
            by_cases he : Lib.itoa X = l
            · have heq : ((bs (Lib.itoa X)).toList == (bs l).toList) = true := by simp [he]
              go_wp2_with fail
              refine bodyPost_ret (v := .tuple #[.int .i64 X, .bool true]) (by simp [results, Tryz.results27, go_sem]) rfl ⟨X, true, rfl, (fun _ => ⟨HXR.out, he⟩), (fun h => by cases h), b2⟩
            · have heq : ((bs (Lib.itoa X)).toList == (bs l).toList) = false := by
                rw [ByteArray.toList_eq, ByteArray.toList_eq, bs_list, bs_list]
                simpa using he
              go_wp2_with fail
              refine bodyPost_ret (v := .tuple #[.int .i64 X, .bool false]) (by simp [results, Tryz.results27, go_sem]) rfl ⟨X, false, rfl, (fun h => by cases h), (fun _ y hy e => ?_), b2⟩
              have h9 := (HP.out y hy e).value
              rw [HXL.out] at h9
              exact he (by rw [h9]; exact e)
end Go.Proofs.YtjcocpdicogecaaGreatDoor

namespace Go.Proofs.YtjcocpdicogecaaGreatDoor
open Go.ChangeShapes Go.WideShapes Go.ChangeAt Go.RowKit
set_option linter.unusedVariables false

theorem itoa_any (n : Int) (w : World) (hr : -9223372036854775808 ≤ n ∧ n ≤ 9223372036854775807) (hT : Tabs w) :
    Calls Tryz.prog 66 #[.int .i64 n] w fun e w' => GivesTxt w (Lib.itoa n) e w' := by
  refine (Any.strconv_Itoa Tryz.laysmn171 n hr.1 hr.2 w hT.pt).mono ?_
  rintro e w' ⟨rfl, k, os, rfl⟩
  exact ⟨rfl, Lib.below_grow _ _ (Nat.le_refl _) _ _⟩
theorem letter_any (p : Int) (w : World) :
    Calls Tryz.prog 51 #[.int .i64 p] w fun e w' => e = .returned (.string (bs (letL p))) ∧ w' = w := by
  unfold letL
  by_cases h1 : p = 1
  · subst h1
    go_enter Tryz.func51, Tryz.ntmps51
    go_wp2
    go_ret
    exact ⟨rfl, rfl⟩
  · by_cases h2 : p = 2
    · subst h2
      go_enter Tryz.func51, Tryz.ntmps51
      go_wp2
      go_ret
      exact ⟨rfl, rfl⟩
    · rw [if_neg h1, if_neg h2]
      go_enter Tryz.func51, Tryz.ntmps51
      go_wp2
      go_ret
      exact ⟨rfl, rfl⟩
theorem impl_wordName (k : Nat) (w : World) (h1 : 1 ≤ k) (h2 : k ≤ 10) (hT : Tabs w) :
    Calls Tryz.prog 83 #[.int .i64 k] w fun e w' => GivesTxt w (opNm (k + 11)) e w' := by
  have hv : wordOkV (k : Int) = true := by unfold wordOkV; simp; omega
  have h9 := hT.wt k (by omega)
  have h8 : wNm k = opNm (k + 11) := by unfold wNm; rw [if_neg (by omega)]
  rw [h8] at h9
  clear hT
  go_enter Tryz.func83, Tryz.ntmps83
  go_wp2_with fail
  refine (impl_wordOk (k : Int) _).mono ?_
  rintro e w1 ⟨rfl, hw1⟩
  subst hw1
  rw [hv]
  have hk : (k : Int) < 11 := by omega
  go_wp2
  go_ret
  exact ⟨rfl, by repeat (first | exact Below.refl _ _ | apply Below.drew | refine Below.alloc ?_ (by simp <;> omega) _ | refine Below.setCell ?_ (by simp <;> omega) _)⟩
theorem stepName_any (k : Nat) (w : World) (h1 : 1 ≤ k) (h2 : k ≤ 21) (hT : Tabs w) :
    Calls Tryz.prog 62 #[.int .i64 k] w fun e w' => GivesTxt w (opNm k) e w' := by
  by_cases h : k ≤ 11
  · have h9 := hT.nt k (by omega)
    have hk : (k : Int) < 12 := by omega
    have hk1 : (1 : Int) ≤ (k : Int) := by omega
    have hk2 : (k : Int) ≤ 11 := by omega
    clear hT
    go_enter Tryz.func62, Tryz.ntmps62
    go_wp2
    go_ret
    exact ⟨rfl, by repeat (first | exact Below.refl _ _ | apply Below.drew | refine Below.alloc ?_ (by simp <;> omega) _ | refine Below.setCell ?_ (by simp <;> omega) _)⟩
  · obtain ⟨j, rfl⟩ : ∃ j : Nat, k = j + 11 := ⟨k - 11, by omega⟩
    have hk1 : (1 : Int) ≤ ((j + 11 : Nat) : Int) := by omega
    have hk2 : ¬ ((j + 11 : Nat) : Int) ≤ 11 := by omega
    have hwk : wrap64 (((j + 11 : Nat) : Int) - 11) = (j : Int) := by unfold wrap64; omega
    obtain ⟨z, HZ⟩ : ∃ z, Hid (((j + 11 : Nat) : Int) = z) := ⟨_, rfl⟩
    rw [HZ.out] at hk1 hk2 hwk ⊢
    have hwk2 : IntKind.i64.wrap (z - 11) = (j : Int) := by rw [IntWalk.i64_left, hwk]
    have hz : ¬ z < 1 := by omega
    have hz2 : 11 < z := by omega
    go_enter Tryz.func62, Tryz.ntmps62
    go_wp2_with fail
    refine (impl_wordName j _ (by omega) (by omega) hT).mono ?_
    rintro e w1 ⟨rfl, b1⟩
    go_wp2
    go_ret
    exact ⟨rfl, b1⟩
end Go.Proofs.YtjcocpdicogecaaGreatDoor
