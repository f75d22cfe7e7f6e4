/- Numbers as bytes: the form, how it is read, and that each undoes the other. What a place makes and takes: the program's InsDef and the model's answer alike, for every place. Lists of numbers in memory: compared, marked, held against the marks. Lists of numbers that a call has made: read, marked, kept. Bytes in memory: lists of the call's own, lists that are read. The struct arguments of the laws, read as numbers. Programs in memory: what a value of type Fn reads as, kept while the world only grows; the laws' own Fn, read. What places and ends take: the program's InsUses and TermUses and the model's answer alike, each in new memory. -/
import Derived.Test.YthdioeeanodjiaaDoorRows
import Derived.WalkKit
import Derived.ProofKit
import Derived.OpenShut
import Derived.Below
import Derived.Laws.ResultCell
import Derived.Handy
import Derived.Deep.QuietTactic
import Derived.BigQuiet
import Derived.Laws.AppendOwn
import Derived.OwnWalk
import Derived.RangeFuncBox
import Derived.Lib.UnsafeStr
import Derived.Maps.AppendAt
import Derived.Laws.OwnMore
import Derived.Laws.BitsLemmas
import Derived.Lib.SmallJoins
import Derived.Deep.Slices
namespace Go.Proofs.YthdioeeanodjiaaDoor
set_option linter.unusedVariables false

/-- The form of a number that is not below 0, seven bits a byte. -/
def lebs (n : Nat) : List UInt8 := if n < 128 then [UInt8.ofNat n] else UInt8.ofNat (n % 128 + 128) :: lebs (n / 128)
termination_by n
decreasing_by omega
theorem lebs_low {n : Nat} (h : n < 128) : lebs n = [UInt8.ofNat n] := by rw [lebs, if_pos h]
theorem lebs_up {n : Nat} (h : ¬ n < 128) : lebs n = UInt8.ofNat (n % 128 + 128) :: lebs (n / 128) := by rw [lebs, if_neg h]
theorem lebs_pos (n : Nat) : 0 < (lebs n).length := by
  by_cases h : n < 128
  · rw [lebs_low h]; simp
  · rw [lebs_up h]; simp
theorem byte_nat {k : Nat} (h : k < 256) : (UInt8.ofNat k).toNat = k := by simp; omega
theorem lebs_len : ∀ (k n : Nat), n < 128 ^ (k + 1) → (lebs n).length ≤ k + 1
  | 0, n, h => by rw [lebs_low (by simpa using h)]; simp
  | k + 1, n, h => by
    by_cases hn : n < 128
    · rw [lebs_low hn]; simp
    · rw [lebs_up hn, List.length_cons]
      have := lebs_len k (n / 128) (by rw [Nat.pow_succ] at h; exact Nat.div_lt_of_lt_mul (by rw [Nat.mul_comm]; exact h))
      omega

/-- A form is read: so many bytes are behind, n is what they said. -/
def rd : List UInt8 → Nat → Nat → Option (Nat × Nat)
  | [], _, _ => none
  | c :: r, k, n => if k < 9 then (if c.toNat < 128 then (if c.toNat = 0 ∧ 0 < k then none else some (n + c.toNat % 128 * 128 ^ k, k + 1)) else rd r (k + 1) (n + c.toNat % 128 * 128 ^ k)) else none
theorem rd_nil (k n : Nat) : rd [] k n = none := rfl
theorem rd_far {l : List UInt8} {k n : Nat} (h : ¬ k < 9) : rd l k n = none := by
  cases l with
  | nil => rfl
  | cons c r => rw [rd, if_neg h]
theorem rd_more {c : UInt8} {r : List UInt8} {k n : Nat} (h : k < 9) (hc : ¬ c.toNat < 128) : rd (c :: r) k n = rd r (k + 1) (n + c.toNat % 128 * 128 ^ k) := by rw [rd, if_pos h, if_neg hc]
theorem rd_zero {c : UInt8} {r : List UInt8} {k n : Nat} (h : k < 9) (hc : c.toNat = 0) (hk : 0 < k) : rd (c :: r) k n = none := by rw [rd, if_pos h, if_pos (by omega), if_pos ⟨hc, hk⟩]
theorem rd_end {c : UInt8} {r : List UInt8} {k n : Nat} (h : k < 9) (hc : c.toNat < 128) (hz : ¬ (c.toNat = 0 ∧ 0 < k)) : rd (c :: r) k n = some (n + c.toNat % 128 * 128 ^ k, k + 1) := by rw [rd, if_pos h, if_pos hc, if_neg hz]

/-- What is packed is read as it was. -/
theorem rd_lebs : ∀ (j m k n : Nat) (r : List UInt8), j + k = 8 → m < 128 ^ (j + 1) → (0 < k → 0 < m) → rd (lebs m ++ r) k n = some (n + m * 128 ^ k, k + (lebs m).length)
  | 0, m, k, n, r, hj, hm, hk => by
    have hm : m < 128 := by simpa using hm
    rw [lebs_low hm]
    have hb : (UInt8.ofNat m).toNat = m := byte_nat (by omega)
    rw [List.singleton_append, rd_end (by omega) (by rw [hb]; exact hm) (by rw [hb]; intro h; have := hk h.2; omega), hb]
    rw [Nat.mod_eq_of_lt hm]
    rfl
  | j + 1, m, k, n, r, hj, hm, hk => by
    by_cases h : m < 128
    · rw [lebs_low h]
      have hb : (UInt8.ofNat m).toNat = m := byte_nat (by omega)
      rw [List.singleton_append, rd_end (by omega) (by rw [hb]; exact h) (by rw [hb]; intro h; have := hk h.2; omega), hb]
      rw [Nat.mod_eq_of_lt h]
      rfl
    · rw [lebs_up h]
      have hb : (UInt8.ofNat (m % 128 + 128)).toNat = m % 128 + 128 := byte_nat (by omega)
      rw [List.cons_append, rd_more (by omega) (by rw [hb]; omega), hb]
      rw [rd_lebs j (m / 128) (k + 1) _ r (by omega) (Nat.div_lt_of_lt_mul (by rw [Nat.mul_comm, ← Nat.pow_succ]; exact hm)) (fun _ => by omega)]
      have e1 : (m % 128 + 128) % 128 = m % 128 := by omega
      rw [e1, Nat.pow_succ, List.length_cons]
      congr 2
      · rw [Nat.add_assoc]
        congr 1
        rw [show m / 128 * (128 ^ k * 128) = (m / 128 * 128) * 128 ^ k by rw [Nat.mul_comm (128 ^ k) 128, Nat.mul_assoc], ← Nat.add_mul]
        congr 1
        omega
      · omega
/-- What is read is the form of what was read. -/
theorem rd_form : ∀ (l : List UInt8) (k n v e : Nat), rd l k n = some (v, e) → ∃ m r, l = lebs m ++ r ∧ v = n + m * 128 ^ k ∧ e = k + (lebs m).length ∧ (0 < k → 0 < m) ∧ k < 9 ∧ m < 128 ^ (9 - k)
  | [], k, n, v, e, h => by rw [rd] at h; cases h
  | c :: r, k, n, v, e, h => by
    by_cases hk : k < 9
    · by_cases hc : c.toNat < 128
      · by_cases hz : c.toNat = 0 ∧ 0 < k
        · rw [rd_zero hk hz.1 hz.2] at h
          cases h
        · rw [rd_end hk hc hz] at h
          simp at h
          obtain ⟨rfl, rfl⟩ := h
          have e0 : UInt8.ofNat c.toNat = c := by simp
          refine ⟨c.toNat, r, by rw [lebs_low hc, e0]; rfl, by rw [Nat.mod_eq_of_lt hc], by rw [lebs_low hc]; rfl, fun h => ?_, hk, ?_⟩
          · exact Nat.pos_of_ne_zero (fun e => hz ⟨e, h⟩)
          · exact Nat.lt_of_lt_of_le hc (Nat.le_self_pow (by omega) 128)
      · rw [rd_more hk hc] at h
        obtain ⟨m, r', e1, e2, e3, h4, h5, h6⟩ := rd_form r (k + 1) _ v e h
        have hm := h4 (by omega)
        have hc2 : c.toNat < 256 := c.toNat_lt
        have hn : ¬ (c.toNat % 128 + m * 128) < 128 := by omega
        have hdiv : (c.toNat % 128 + m * 128) / 128 = m := by omega
        have hmod : (c.toNat % 128 + m * 128) % 128 + 128 = c.toNat := by omega
        have e0 : UInt8.ofNat c.toNat = c := by simp
        refine ⟨c.toNat % 128 + m * 128, r', ?_, ?_, ?_, fun _ => by omega, hk, ?_⟩
        · rw [lebs_up hn, hdiv, hmod, e0, e1]; rfl
        · rw [e2, Nat.pow_succ, Nat.add_mul, Nat.add_assoc]
          congr 2
          rw [Nat.mul_comm (128 ^ k) 128, Nat.mul_assoc]
        · rw [lebs_up hn, hdiv, e3, List.length_cons]; omega
        · have h7 : 9 - k = (9 - (k + 1)) + 1 := by omega
          rw [h7, Nat.pow_succ]
          have : m + 1 ≤ 128 ^ (9 - (k + 1)) := h6
          have := Nat.mul_le_mul_right 128 this
          omega
    · rw [rd_far hk] at h
      cases h

/-- Numbers below 0 and not: every second one. -/
def zig (x : Int) : Nat := if x < 0 then (-2 * x - 1).toNat else (2 * x).toNat
def unzig (v : Nat) : Int := if v % 2 = 1 then 0 - (v / 2 : Nat) - 1 else (v / 2 : Nat)
theorem unzig_zig (x : Int) : unzig (zig x) = x := by
  unfold zig unzig
  split <;> split <;> omega
theorem zig_unzig (v : Nat) : zig (unzig v) = v := by
  unfold zig unzig
  split <;> split <;> omega
def Formed (x : Int) : Prop := -4611686018427387904 ≤ x ∧ x ≤ 4611686018427387903
instance (x : Int) : Decidable (Formed x) := by unfold Formed; infer_instance
theorem zig_lt {x : Int} (h : Formed x) : zig x < 128 ^ 9 := by
  have e : (128 : Nat) ^ 9 = 9223372036854775808 := by decide
  rw [e]
  unfold Formed at h
  unfold zig
  split <;> omega
theorem unzig_formed {v : Nat} (h : v < 128 ^ 9) : Formed (unzig v) := by
  have e : (128 : Nat) ^ 9 = 9223372036854775808 := by decide
  rw [e] at h
  unfold Formed unzig
  split <;> omega
def packX (x : Int) : List UInt8 := if Formed x then lebs (zig x) else []
theorem packX_yes {x : Int} (h : Formed x) : packX x = lebs (zig x) := if_pos h
theorem packX_no {x : Int} (h : ¬ Formed x) : packX x = [] := if_neg h
theorem packX_len (x : Int) : (packX x).length ≤ 9 := by
  unfold packX
  split
  · rename_i h
    exact lebs_len 8 _ (zig_lt h)
  · simp
theorem packX_pos {x : Int} : 0 < (packX x).length ↔ Formed x := by
  unfold packX
  split
  · rename_i h
    exact ⟨fun _ => h, fun _ => lebs_pos _⟩
  · rename_i h
    exact ⟨fun h0 => absurd h0 (by simp), fun h0 => absurd h0 h⟩

/-- What is read of bytes at a place. -/
def unpackX (l : List UInt8) (p : Int) : Int × Int × Bool :=
  if p < 0 ∨ (l.length : Int) ≤ p then (0, 0, false) else match rd (l.drop p.toNat) 0 0 with
    | none => (0, 0, false)
    | some (v, e) => (unzig v, p + (e : Int), true)
theorem unpackX_out {l : List UInt8} {p : Int} (h : p < 0 ∨ (l.length : Int) ≤ p) : unpackX l p = (0, 0, false) := if_pos h
theorem unpackX_none {l : List UInt8} {p : Nat} (h2 : rd (l.drop p) 0 0 = none) : unpackX l p = (0, 0, false) := by
  unfold unpackX
  split
  · rfl
  · rw [show ((p : Int)).toNat = p by omega, h2]
theorem unpackX_some {l : List UInt8} {p : Nat} {v e : Nat} (h : p < l.length) (h2 : rd (l.drop p) 0 0 = some (v, e)) : unpackX l p = (unzig v, ((p + e : Nat) : Int), true) := by
  unfold unpackX
  rw [if_neg (by omega), show ((p : Int)).toNat = p by omega, h2]
  simp
/-- What is packed is read as it was, wherever it stands. -/
theorem unpack_pack {x : Int} (h : Formed x) (l r : List UInt8) : unpackX (l ++ packX x ++ r) (l.length : Nat) = (x, ((l.length + (packX x).length : Nat) : Int), true) := by
  rw [packX_yes h]
  rw [unpackX_some (v := zig x) (e := (lebs (zig x)).length) (by have := lebs_pos (zig x); simp; omega) ?_, unzig_zig]
  rw [List.append_assoc, List.drop_left, rd_lebs 8 (zig x) 0 0 r rfl (zig_lt h) (fun h => absurd h (by omega))]
  simp
/-- What is read is packed as just those bytes. -/
theorem pack_unpack {l : List UInt8} {p : Int} {x q : Int} (h : unpackX l p = (x, q, true)) : ∃ a b : Nat, p = a ∧ q = b ∧ a < b ∧ b ≤ l.length ∧ Formed x ∧ packX x = (l.drop a).take (b - a) := by
  unfold unpackX at h
  split at h
  · simp at h
  · rename_i h0
    split at h
    · simp at h
    · rename_i v e h1
      simp at h
      obtain ⟨rfl, rfl⟩ := h
      obtain ⟨m, r, e1, e2, e3, _, _, h6⟩ := rd_form _ _ _ _ _ h1
      simp at e2 e3 h6
      subst e2 e3
      have hf : Formed (unzig v) := unzig_formed h6
      have hlen := congrArg List.length e1
      rw [List.length_drop, List.length_append] at hlen
      have hp := lebs_pos v
      refine ⟨p.toNat, p.toNat + (lebs v).length, by omega, by omega, by omega, by omega, hf, ?_⟩
      rw [packX_yes hf, zig_unzig, e1, Nat.add_sub_cancel_left, List.take_left]
theorem unpackX_no {l : List UInt8} {p x q : Int} (h : unpackX l p = (x, q, false)) : x = 0 ∧ q = 0 := by
  unfold unpackX at h
  split at h
  · simp at h; exact ⟨h.1.symm, h.2.symm⟩
  · split at h
    · simp at h; exact ⟨h.1.symm, h.2.symm⟩
    · simp at h
end Go.Proofs.YthdioeeanodjiaaDoor

namespace Go.Proofs.YthdioeeanodjiaaDoor
open Go.ChangeShapes Go.WideShapes Go.ChangeAt Go.RowKit
set_option linter.unusedVariables false

theorem Bel.after {a b c : World} (h : Below a.heap.size a b) (k : Below b.heap.size b c) : Below a.heap.size a c := h.trans (k.mono h.size)

theorem Bel.alloc (w : World) (o : Obj) : Below w.heap.size w (w.alloc o) := (Below.refl _ _).alloc (Nat.le_refl _) o
/-- A cell of a new block, in a later world. -/
theorem box_cell {w w2 : World} {o : Obj} (h : Below (w.alloc o).heap.size (w.alloc o) w2) (j : Nat) : w2.cell? ⟨w.heap.size, j, none⟩ = (w.alloc o).cell? ⟨w.heap.size, j, none⟩ := h.cell (by simp)
theorem Bel.keeps {w w' : World} (h : Below w.heap.size w w') {p : Addr} {v : Value} (hc : w.cell? p = some v) : w'.cell? p = some v := by
  rw [h.cell (World.block_lt_of_cell? w _ hc)]
  exact hc

/-- Is it an op of words? -/
def wordOkV (op : Int) : Bool := decide (1 ≤ op ∧ op ≤ 10)
theorem wordOkV_yes {op : Int} (h1 : 1 ≤ op) (h2 : op ≤ 10) : wordOkV op = true := by simp [wordOkV, h1, h2]
theorem wordOkV_lo {op : Int} (h1 : ¬ 1 ≤ op) : wordOkV op = false := by simp [wordOkV, h1]
theorem wordOkV_hi {op : Int} (h1 : ¬ op ≤ 10) : wordOkV op = false := by simp [wordOkV, h1]

theorem spec_wordOk (op : Int) (w : World) :
    Calls Tryd.prog 71 #[.int .i64 op] w fun e w' => e = .returned (.bool (wordOkV op)) ∧ w' = w := by
  by_cases h1 : 1 ≤ op
  · by_cases h2 : op ≤ 10
    · rw [wordOkV_yes h1 h2]
      go_enter Tryd.func71, Tryd.ntmps71
      go_wp2
      go_ret
      exact ⟨rfl, rfl⟩
    · rw [wordOkV_hi h2]
      go_enter Tryd.func71, Tryd.ntmps71
      go_wp2
      go_ret
      exact ⟨rfl, rfl⟩
  · rw [wordOkV_lo h1]
    go_enter Tryd.func71, Tryd.ntmps71
    go_wp2
    go_ret
    exact ⟨rfl, rfl⟩

theorem impl_wordOk (op : Int) (w : World) :
    Calls Tryd.prog 97 #[.int .i64 op] w fun e w' => e = .returned (.bool (wordOkV op)) ∧ w' = w := by
  by_cases h1 : 1 ≤ op
  · by_cases h2 : op ≤ 10
    · rw [wordOkV_yes h1 h2]
      have h3 : op < 11 := by omega
      go_enter Tryd.func97, Tryd.ntmps97
      go_wp2
      go_ret
      exact ⟨rfl, rfl⟩
    · rw [wordOkV_hi h2]
      have h3 : ¬ op < 11 := by omega
      go_enter Tryd.func97, Tryd.ntmps97
      go_wp2
      go_ret
      exact ⟨rfl, rfl⟩
  · rw [wordOkV_lo h1]
    go_enter Tryd.func97, Tryd.ntmps97
    go_wp2
    go_ret
    exact ⟨rfl, rfl⟩

/-- A place, as a value. -/
def insV (op d a b n : Int) : Value := .agg #[.int .i64 op, .int .i64 d, .int .i64 a, .int .i64 b, .int .i64 n]

theorem op_cases (op : Int) : op = 20 ∨ op = 21 ∨ op = 22 ∨ op = 23 ∨ op = 24 ∨ op = 25 ∨ (((op == 20) = false ∧ (op == 21) = false ∧ (op == 22) = false ∧ (op == 23) = false ∧ (op == 24) = false ∧ (op == 25) = false) ∧ ((1 ≤ op ∧ op ≤ 10) ∨ ¬ 1 ≤ op ∨ (1 ≤ op ∧ ¬ op ≤ 10))) := by
  simp only [beq_eq_false_iff_ne, ne_eq]
  omega

/-- Does an op make a value? -/
def makesV (op : Int) : Bool := decide ((1 ≤ op ∧ op ≤ 10) ∨ op = 20 ∨ op = 21 ∨ op = 24 ∨ op = 25)
/-- What a place makes. -/
def insDefV (op d : Int) : Int := if makesV op = true then d else -1
/-- The same, 0 where nothing is made. -/
def madeV (op d : Int) : Int := if makesV op = true then d else 0
/-- A place by its kind. -/
def placeV (op d a b n : Int) : Value :=
  if op = 20 then .iface 131 (.agg #[.int .i64 d, .int .i64 n])
  else if op = 21 then .iface 133 (.agg #[.int .i64 d, .int .i64 a])
  else if op = 22 then .iface 135 (.agg #[.int .i64 a, .int .i64 b])
  else if op = 23 then .iface 137 (.agg #[.int .i64 a])
  else if op = 24 then .iface 139 (.agg #[.int .i64 d])
  else if op = 25 then .iface 140 (.agg #[.int .i64 d, .int .i64 a])
  else if 1 ≤ op ∧ op ≤ 10 then .iface 142 (.agg #[.int .i64 op, .int .i64 d, .int .i64 a, .int .i64 b])
  else .nilIface

theorem makesV_word {op : Int} (h : 1 ≤ op) (h1 : op ≤ 10) : makesV op = true := by simp [makesV, h, h1]
theorem makesV_none {op : Int} (e0 : (op == 20) = false) (e1 : (op == 21) = false) (e2 : (op == 22) = false) (e3 : (op == 23) = false) (e4 : (op == 24) = false) (e5 : (op == 25) = false) (h : ¬ (1 ≤ op ∧ op ≤ 10)) : makesV op = false := by
  simp only [beq_eq_false_iff_ne, ne_eq] at e0 e1 e2 e3 e4 e5
  simp only [makesV, decide_eq_false_iff_not]
  omega
theorem insDefV_word {op d : Int} (h : 1 ≤ op) (h1 : op ≤ 10) : insDefV op d = d := by simp [insDefV, makesV_word h h1]
theorem insDefV_none {op d : Int} (e0 : (op == 20) = false) (e1 : (op == 21) = false) (e2 : (op == 22) = false) (e3 : (op == 23) = false) (e4 : (op == 24) = false) (e5 : (op == 25) = false) (h : ¬ (1 ≤ op ∧ op ≤ 10)) : insDefV op d = -1 := by simp [insDefV, makesV_none e0 e1 e2 e3 e4 e5 h]
theorem placeV_word {op d a b n : Int} (e0 : (op == 20) = false) (e1 : (op == 21) = false) (e2 : (op == 22) = false) (e3 : (op == 23) = false) (e4 : (op == 24) = false) (e5 : (op == 25) = false) (h : 1 ≤ op) (h1 : op ≤ 10) : placeV op d a b n = .iface 142 (.agg #[.int .i64 op, .int .i64 d, .int .i64 a, .int .i64 b]) := by
  simp only [beq_eq_false_iff_ne, ne_eq] at e0 e1 e2 e3 e4 e5
  simp [placeV, e0, e1, e2, e3, e4, e5, h, h1]
theorem placeV_none {op d a b n : Int} (e0 : (op == 20) = false) (e1 : (op == 21) = false) (e2 : (op == 22) = false) (e3 : (op == 23) = false) (e4 : (op == 24) = false) (e5 : (op == 25) = false) (h : ¬ (1 ≤ op ∧ op ≤ 10)) : placeV op d a b n = .nilIface := by
  simp only [beq_eq_false_iff_ne, ne_eq] at e0 e1 e2 e3 e4 e5
  simp only [placeV, e0, e1, e2, e3, e4, e5, h, if_false]

set_option maxHeartbeats 1000000 in
theorem placeOf_any (op d a b n : Int) (w : World) :
    Calls Tryd.prog 88 #[.agg #[.int .i64 op, .int .i64 d, .int .i64 a, .int .i64 b, .int .i64 n]] w fun e w' => e = .returned (placeV op d a b n) ∧ Below w.heap.size w w' := by
  rcases op_cases op with h | h | h | h | h | h | ⟨⟨e0, e1, e2, e3, e4, e5⟩, ⟨h, h1⟩ | h | ⟨h1, h⟩⟩
  all_goals
    go_enter Tryd.func88, Tryd.ntmps88
    go_wp2
    go_ret
    exact ⟨by first | (simp [placeV, h]; done) | (rw [placeV_word e0 e1 e2 e3 e4 e5 h h1]; rfl) | (rw [placeV_none e0 e1 e2 e3 e4 e5 (by omega)]; rfl), by repeat (first | exact Below.refl _ _ | apply Below.drew | refine Below.alloc ?_ (by simp <;> omega) _ | refine Below.setCell ?_ (by simp <;> omega) _)⟩

/-- An assertion to a struct type, with its flag. -/
theorem assert_yes {P : Program} {t x : TypeId} {fs : Array Field} (hu : P.underlying t = some (.struct fs)) (v : Value) (w : World) : (Instr.typeAssert (.iface t v) x t true).run P w = .ok (.tuple #[v, .bool true]) w := by
  simp [Instr.typeAssert, run_underlying hu]
theorem assert_no {P : Program} {t x : TypeId} {fs : Array Field} {z : Value} (hu : P.underlying t = some (.struct fs)) (hz : (P.info? t).map (fun i => i.zero) = some (some z)) (t' : TypeId) (v : Value) (w : World) (hne : t' ≠ t) : (Instr.typeAssert (.iface t' v) x t true).run P w = .ok (.tuple #[z, .bool false]) w := by
  obtain ⟨j, hj, hz'⟩ := Option.map_eq_some_iff.1 hz
  simp [Instr.typeAssert, run_underlying hu, hne, zeroValue, typeInfo, hj, hz']
theorem assert_nil {P : Program} {t x : TypeId} {fs : Array Field} {z : Value} (hu : P.underlying t = some (.struct fs)) (hz : (P.info? t).map (fun i => i.zero) = some (some z)) (w : World) : (Instr.typeAssert .nilIface x t true).run P w = .ok (.tuple #[z, .bool false]) w := by
  obtain ⟨j, hj, hz'⟩ := Option.map_eq_some_iff.1 hz
  simp [Instr.typeAssert, run_underlying hu, zeroValue, typeInfo, hj, hz']

theorem wordPlace_yes (v : Value) (w : World) : (Instr.typeAssert (.iface 142 v) 121 142 true).run Tryd.prog w = .ok (.tuple #[v, .bool true]) w := assert_yes Tryd.underlying142 v w
theorem wordPlace_no (t : TypeId) (v : Value) (w : World) (h : t ≠ 142) : (Instr.typeAssert (.iface t v) 121 142 true).run Tryd.prog w = .ok (.tuple #[.agg #[.int .i64 0, .int .i64 0, .int .i64 0, .int .i64 0], .bool false]) w := assert_no Tryd.underlying142 (by kernel_rfl) t v w h
theorem wordPlace_nil (w : World) : (Instr.typeAssert .nilIface 121 142 true).run Tryd.prog w = .ok (.tuple #[.agg #[.int .i64 0, .int .i64 0, .int .i64 0, .int .i64 0], .bool false]) w := assert_nil Tryd.underlying142 (by kernel_rfl) w
theorem constPlace_yes (v : Value) (w : World) : (Instr.typeAssert (.iface 131 v) 121 131 true).run Tryd.prog w = .ok (.tuple #[v, .bool true]) w := assert_yes Tryd.underlying131 v w
theorem constPlace_no (t : TypeId) (v : Value) (w : World) (h : t ≠ 131) : (Instr.typeAssert (.iface t v) 121 131 true).run Tryd.prog w = .ok (.tuple #[.agg #[.int .i64 0, .int .i64 0], .bool false]) w := assert_no Tryd.underlying131 (by kernel_rfl) t v w h
theorem constPlace_nil (w : World) : (Instr.typeAssert .nilIface 121 131 true).run Tryd.prog w = .ok (.tuple #[.agg #[.int .i64 0, .int .i64 0], .bool false]) w := assert_nil Tryd.underlying131 (by kernel_rfl) w
theorem loadPlace_yes (v : Value) (w : World) : (Instr.typeAssert (.iface 133 v) 121 133 true).run Tryd.prog w = .ok (.tuple #[v, .bool true]) w := assert_yes Tryd.underlying133 v w
theorem loadPlace_no (t : TypeId) (v : Value) (w : World) (h : t ≠ 133) : (Instr.typeAssert (.iface t v) 121 133 true).run Tryd.prog w = .ok (.tuple #[.agg #[.int .i64 0, .int .i64 0], .bool false]) w := assert_no Tryd.underlying133 (by kernel_rfl) t v w h
theorem loadPlace_nil (w : World) : (Instr.typeAssert .nilIface 121 133 true).run Tryd.prog w = .ok (.tuple #[.agg #[.int .i64 0, .int .i64 0], .bool false]) w := assert_nil Tryd.underlying133 (by kernel_rfl) w
theorem storePlace_yes (v : Value) (w : World) : (Instr.typeAssert (.iface 135 v) 121 135 true).run Tryd.prog w = .ok (.tuple #[v, .bool true]) w := assert_yes Tryd.underlying135 v w
theorem storePlace_no (t : TypeId) (v : Value) (w : World) (h : t ≠ 135) : (Instr.typeAssert (.iface t v) 121 135 true).run Tryd.prog w = .ok (.tuple #[.agg #[.int .i64 0, .int .i64 0], .bool false]) w := assert_no Tryd.underlying135 (by kernel_rfl) t v w h
theorem storePlace_nil (w : World) : (Instr.typeAssert .nilIface 121 135 true).run Tryd.prog w = .ok (.tuple #[.agg #[.int .i64 0, .int .i64 0], .bool false]) w := assert_nil Tryd.underlying135 (by kernel_rfl) w
theorem outPlace_yes (v : Value) (w : World) : (Instr.typeAssert (.iface 137 v) 121 137 true).run Tryd.prog w = .ok (.tuple #[v, .bool true]) w := assert_yes Tryd.underlying137 v w
theorem outPlace_no (t : TypeId) (v : Value) (w : World) (h : t ≠ 137) : (Instr.typeAssert (.iface t v) 121 137 true).run Tryd.prog w = .ok (.tuple #[.agg #[.int .i64 0], .bool false]) w := assert_no Tryd.underlying137 (by kernel_rfl) t v w h
theorem outPlace_nil (w : World) : (Instr.typeAssert .nilIface 121 137 true).run Tryd.prog w = .ok (.tuple #[.agg #[.int .i64 0], .bool false]) w := assert_nil Tryd.underlying137 (by kernel_rfl) w
theorem readPlace_yes (v : Value) (w : World) : (Instr.typeAssert (.iface 139 v) 121 139 true).run Tryd.prog w = .ok (.tuple #[v, .bool true]) w := assert_yes Tryd.underlying139 v w
theorem readPlace_no (t : TypeId) (v : Value) (w : World) (h : t ≠ 139) : (Instr.typeAssert (.iface t v) 121 139 true).run Tryd.prog w = .ok (.tuple #[.agg #[.int .i64 0], .bool false]) w := assert_no Tryd.underlying139 (by kernel_rfl) t v w h
theorem readPlace_nil (w : World) : (Instr.typeAssert .nilIface 121 139 true).run Tryd.prog w = .ok (.tuple #[.agg #[.int .i64 0], .bool false]) w := assert_nil Tryd.underlying139 (by kernel_rfl) w
theorem copyPlace_yes (v : Value) (w : World) : (Instr.typeAssert (.iface 140 v) 121 140 true).run Tryd.prog w = .ok (.tuple #[v, .bool true]) w := assert_yes Tryd.underlying140 v w
theorem copyPlace_no (t : TypeId) (v : Value) (w : World) (h : t ≠ 140) : (Instr.typeAssert (.iface t v) 121 140 true).run Tryd.prog w = .ok (.tuple #[.agg #[.int .i64 0, .int .i64 0], .bool false]) w := assert_no Tryd.underlying140 (by kernel_rfl) t v w h
theorem copyPlace_nil (w : World) : (Instr.typeAssert .nilIface 121 140 true).run Tryd.prog w = .ok (.tuple #[.agg #[.int .i64 0, .int .i64 0], .bool false]) w := assert_nil Tryd.underlying140 (by kernel_rfl) w

set_option maxHeartbeats 1000000 in
set_option maxRecDepth 100000 in
theorem placeDef_any (op d a b n : Int) (w : World) :
    Calls Tryd.prog 89 #[placeV op d a b n] w fun e w' => e = .returned (.tuple #[.int .i64 (madeV op d), .bool (makesV op)]) ∧ Below w.heap.size w w' := by
  rcases op_cases op with h | h | h | h | h | h | ⟨⟨e0, e1, e2, e3, e4, e5⟩, ⟨h, h1⟩ | h | ⟨h1, h⟩⟩
  all_goals
    first | (subst h; simp only [placeV, if_true, if_false, Int.reduceEq]) | (rw [placeV_word e0 e1 e2 e3 e4 e5 h h1]) | (rw [placeV_none e0 e1 e2 e3 e4 e5 (by omega)])
    have y0 := wordPlace_yes
    have n0 := wordPlace_no
    have z0 := wordPlace_nil
    have y1 := constPlace_yes
    have n1 := constPlace_no
    have z1 := constPlace_nil
    have y2 := loadPlace_yes
    have n2 := loadPlace_no
    have z2 := loadPlace_nil
    have y3 := readPlace_yes
    have n3 := readPlace_no
    have z3 := readPlace_nil
    have y4 := copyPlace_yes
    have n4 := copyPlace_no
    have z4 := copyPlace_nil
    go_enter Tryd.func89, Tryd.ntmps89
    go_wp2
    go_ret2
    exact ⟨by first | (simp [madeV, makesV]; done) | (rw [madeV, makesV_word h h1]; rfl) | (rw [madeV, makesV_none e0 e1 e2 e3 e4 e5 (by omega)]; rfl), by repeat (first | exact Below.refl _ _ | apply Below.drew | refine Below.alloc ?_ (by simp <;> omega) _ | refine Below.setCell ?_ (by simp <;> omega) _)⟩

end Go.Proofs.YthdioeeanodjiaaDoor

namespace Go.Proofs.YthdioeeanodjiaaDoor
open Go.ChangeShapes Go.WideShapes Go.ChangeAt Go.RowKit
set_option linter.unusedVariables false

/-- A slice that reads as the numbers l. -/
def IntsAt (w : World) (v : Value) (l : List Int) : Prop :=
  ∃ (a : Option Addr) (cap : Nat), v = .slice a l.length cap ∧ l.length ≤ 9223372036854775807 ∧ (0 < l.length → ∃ b off, a = some ⟨b, off, none⟩ ∧ ∀ i, i < l.length → w.cell? ⟨b, off + i, none⟩ = some (.int .i64 (l.getD i 0)))

theorem IntsAt.keep {w w' : World} {v : Value} {l : List Int} (h : IntsAt w v l) (hb : Below w.heap.size w w') : IntsAt w' v l := by
  obtain ⟨a, cap, rfl, hm, hc⟩ := h
  refine ⟨a, cap, rfl, hm, fun hp => ?_⟩
  obtain ⟨b, off, rfl, hd⟩ := hc hp
  exact ⟨b, off, rfl, fun i hi => Bel.keeps hb (hd i hi)⟩

theorem take_next {l : List Int} {k : Nat} (hl : k < l.length) : l.take (k + 1) = l.take k ++ [l.getD k 0] := by
  rw [List.take_add_one]
  simp [hl]

/-- Two lists of one length whose first k are alike. -/
theorem lists_step {l m : List Int} {k : Nat} (hl : k < l.length) (hm : k < m.length) (h : l.take k = m.take k) (e : l.getD k 0 = m.getD k 0) : l.take (k + 1) = m.take (k + 1) := by
  rw [take_next hl, take_next hm, h, e]

theorem lists_differ {l m : List Int} {k : Nat} (e : ¬ l.getD k 0 = m.getD k 0) : decide (l = m) = false := by
  simp only [decide_eq_false_iff_not]
  rintro rfl
  exact e rfl

theorem lists_end {l m : List Int} {k : Nat} (hl : l.length = k) (hm : m.length = k) (h : l.take k = m.take k) : decide (l = m) = true := by
  simp only [decide_eq_true_eq]
  rw [List.take_of_length_le (by omega), List.take_of_length_le (by omega)] at h
  exact h



/-- A row of numbers that lies in block b from its start: it can be written. -/
def RowNew (w : World) (b : Nat) (v : Value) (l : List Int) : Prop :=
  v = .slice (some ⟨b, 0, none⟩) l.length l.length ∧ l.length ≤ 9223372036854775807 ∧ b < w.heap.size ∧ (∀ i, i < l.length → w.cell? ⟨b, i, none⟩ = some (.int .i64 (l.getD i 0))) ∧ ∀ i, i < l.length → w.frozen? ⟨b, i, none⟩ = false

theorem RowNew.at {w : World} {b : Nat} {v : Value} {l : List Int} (h : RowNew w b v l) : IntsAt w v l := by
  obtain ⟨rfl, hm, hb, hc, hf⟩ := h
  exact ⟨_, _, rfl, hm, fun _ => ⟨b, 0, rfl, fun i hi => by simpa using hc i hi⟩⟩

theorem RowNew.keep {w w' : World} {b : Nat} {v : Value} {l : List Int} (h : RowNew w b v l) (hb : Below w.heap.size w w') : RowNew w' b v l := by
  obtain ⟨rfl, hm, hlt, hc, hf⟩ := h
  refine ⟨rfl, hm, Nat.lt_of_lt_of_le hlt hb.size, fun i hi => Bel.keeps hb (hc i hi), fun i hi => ?_⟩
  rw [hb.frozen (p := ⟨b, i, none⟩) hlt]
  exact hf i hi

/-- Nothing that was there has turned but block p. -/
structure FrB (p : Nat) (w w' : World) : Prop where
  os : w'.os = w.os
  tape : w'.tape = w.tape
  output : w'.output = w.output
  size : w.heap.size ≤ w'.heap.size
  block : ∀ k, k < w.heap.size → k ≠ p → w'.heap[k]? = w.heap[k]?

theorem FrB.refl (p : Nat) (w : World) : FrB p w w := ⟨rfl, rfl, rfl, Nat.le_refl _, fun _ _ _ => rfl⟩
theorem FrB.trans {p : Nat} {a b c : World} (h : FrB p a b) (k : FrB p b c) : FrB p a c :=
  ⟨k.os.trans h.os, k.tape.trans h.tape, k.output.trans h.output, Nat.le_trans h.size k.size, fun i hi hp => (k.block i (Nat.lt_of_lt_of_le hi h.size) hp).trans (h.block i hi hp)⟩
theorem FrB.setCell {p : Nat} {a w : World} (h : FrB p a w) (o : Nat) (u : Value) : FrB p a (w.setCell ⟨p, o, none⟩ u) :=
  h.trans ⟨rfl, rfl, rfl, by simp [World.setCell], fun k _ hp => Below.heap_setCell _ _ _ _ hp⟩
theorem FrB.below {p B : Nat} {a w : World} (h : FrB p a w) (hp : B ≤ p) (hB : B ≤ a.heap.size) : Below B a w :=
  ⟨h.os, h.tape, h.output, h.size, fun k hk => h.block k (by omega) (by omega)⟩
theorem FrB.ofBelow {p : Nat} {a w : World} (h : Below a.heap.size a w) : FrB p a w :=
  ⟨h.os, h.tape, h.output, h.size, fun k hk _ => h.block k hk⟩
theorem FrB.cell {p : Nat} {a w : World} (h : FrB p a w) {x : Addr} (hx : x.block < a.heap.size) (hp : x.block ≠ p) : w.cell? x = a.cell? x := World.cell?_of_block (w := a) (h.block x.block hx hp)
theorem FrB.frozen {p : Nat} {a w : World} (h : FrB p a w) {x : Addr} (hx : x.block < a.heap.size) (hp : x.block ≠ p) : w.frozen? x = a.frozen? x := World.frozen?_of_block (w := a) (h.block x.block hx hp)

theorem RowNew.aside {w w' : World} {b p : Nat} {v : Value} {l : List Int} (h : RowNew w b v l) (hb : FrB p w w') (hp : b ≠ p) : RowNew w' b v l := by
  obtain ⟨rfl, hm, hlt, hc, hf⟩ := h
  refine ⟨rfl, hm, Nat.lt_of_lt_of_le hlt hb.size, fun i hi => ?_, fun i hi => ?_⟩
  · rw [hb.cell (x := ⟨b, i, none⟩) hlt hp]
    exact hc i hi
  · rw [hb.frozen (x := ⟨b, i, none⟩) hlt hp]
    exact hf i hi

/-- The numbers from k on. -/
def marks (k : Int) (n : Nat) : List Int := (List.range n).map (fun (i : Nat) => k + (i : Int))
theorem marks_len (k : Int) (n : Nat) : (marks k n).length = n := by simp [marks]
theorem marks_at (k : Int) (n i : Nat) (h : i < n) : (marks k n).getD i 0 = k + (i : Int) := by simp [marks, List.getD, h]

end Go.Proofs.YthdioeeanodjiaaDoor

namespace Go.Proofs.YthdioeeanodjiaaDoor
open Go.ChangeShapes Go.WideShapes Go.ChangeAt Go.RowKit
set_option linter.unusedVariables false

/-- A list of numbers in memory of the call's own, in blocks from lo on. -/
def OwnInts (w : World) (lo : Nat) (v : Value) (l : List Int) : Prop := w.ownsRow lo 3 1 v l.length (l.map (fun x => Value.int .i64 x))

theorem OwnInts.small {w : World} {lo : Nat} {v : Value} {l : List Int} (h : OwnInts w lo v l) : l.length ≤ maxLen := by
  rcases h.2 with ⟨_, h0⟩ | ⟨g, cap, cur, _, _, _, h1, h2, _⟩
  · rw [h0]; exact Nat.zero_le _
  · omega

/-- What it is, cell by cell. -/
theorem OwnInts.row {w : World} {lo : Nat} {v : Value} {l : List Int} (h : OwnInts w lo v l) :
    ∃ a cap, v = .slice a l.length cap ∧ (0 < l.length → ∃ g, a = some ⟨g, 0, none⟩ ∧ lo ≤ g ∧ g < w.heap.size ∧ (∀ i, i < l.length → w.cell? ⟨g, i, none⟩ = some (.int .i64 (l.getD i 0))) ∧ ∀ i, w.frozen? ⟨g, i, none⟩ = false) := by
  rcases h.2 with ⟨rfl, h0⟩ | ⟨g, cap, cur, rfl, hlo, hg, h1, h2, h3, h4⟩
  · exact ⟨none, 0, by rw [h0], fun hp => absurd hp (by omega)⟩
  · refine ⟨_, cap, rfl, fun hp => ⟨g, rfl, hlo, (Array.getElem?_eq_some_iff.1 hg).1, fun i hi => ?_, fun i => ?_⟩⟩
    · have hs : i < cur.size := by omega
      have e : cur[i]? = some (.int .i64 (l.getD i 0)) := by
        have e1 : (cur.toList.take (l.length * 1))[i]? = cur[i]? := by rw [List.getElem?_take]; simp [hi]
        rw [← e1, h4, List.getElem?_map]
        simp [List.getD, hi]
      simp [World.cell?, hg, e]
    · simp [World.frozen?, hg]

theorem OwnInts.at {w : World} {lo : Nat} {v : Value} {l : List Int} (h : OwnInts w lo v l) : IntsAt w v l := by
  have hs := h.small
  obtain ⟨a, cap, rfl, hc⟩ := h.row
  refine ⟨a, cap, rfl, by have : maxLen ≤ 9223372036854775807 := by decide
                          omega, fun hp => ?_⟩
  obtain ⟨g, rfl, _, _, hd, _⟩ := hc hp
  exact ⟨g, 0, rfl, fun i hi => by simpa using hd i hi⟩

theorem ownsRow_later {w w' : World} {lo : Nat} {e : TypeId} {s : Nat} {v : Value} {k : Nat} {xs : List Value} (h : w.ownsRow lo e s v k xs) (hb : Below w.heap.size w w') : w'.ownsRow lo e s v k xs := by
  obtain ⟨h0, h1⟩ := h
  refine ⟨h0, ?_⟩
  rcases h1 with h1 | ⟨g, cap, cur, rfl, hlo, hg, h2⟩
  · exact .inl h1
  · exact .inr ⟨g, cap, cur, rfl, hlo, (hb.block g (Array.getElem?_eq_some_iff.1 hg).1).trans hg, h2⟩
theorem OwnInts.keep {w w' : World} {lo : Nat} {v : Value} {l : List Int} (h : OwnInts w lo v l) (hb : Below w.heap.size w w') : OwnInts w' lo v l := ownsRow_later h hb
theorem ownsRow_low {w : World} {lo lo' : Nat} {e : TypeId} {s : Nat} {v : Value} {k : Nat} {xs : List Value} (h : w.ownsRow lo e s v k xs) (hl : lo' ≤ lo) : w.ownsRow lo' e s v k xs := by
  obtain ⟨h0, h1⟩ := h
  refine ⟨h0, ?_⟩
  rcases h1 with h1 | ⟨g, cap, cur, rfl, hlo, h2⟩
  · exact .inl h1
  · exact .inr ⟨g, cap, cur, rfl, Nat.le_trans hl hlo, h2⟩
theorem OwnInts.low {w : World} {lo lo' : Nat} {v : Value} {l : List Int} (h : OwnInts w lo v l) (hl : lo' ≤ lo) : OwnInts w lo' v l := ownsRow_low h hl
/-- What was made below lo stays when what lies from lo on turns. -/
theorem IntsAt.under {w w' : World} {v : Value} {l : List Int} (h : IntsAt w v l) {lo : Nat} (hb : Below lo w w') (hv : ∀ a, v.ownBlock = some a → a < lo) : IntsAt w' v l := by
  obtain ⟨a, cap, rfl, hm, hc⟩ := h
  refine ⟨a, cap, rfl, hm, fun hp => ?_⟩
  obtain ⟨b, off, rfl, hd⟩ := hc hp
  exact ⟨b, off, rfl, fun i hi => by rw [hb.cell (p := ⟨b, off + i, none⟩) (hv b rfl)]; exact hd i hi⟩

/-- A list of numbers is given, in new memory. -/
def GivesOwn (w : World) (l : List Int) (e : Ending) (w' : World) : Prop := ∃ v, e = .returned v ∧ OwnInts w' w.heap.size v l ∧ Below w.heap.size w w'

/-- An empty list that was laid. -/
theorem ownInts_new (w : World) : OwnInts (w.alloc (.cells #[] 3)) w.heap.size (.slice (some ⟨w.heap.size, 0, none⟩) 0 0) [] :=
  ⟨rfl, .inr ⟨w.heap.size, 0, #[], rfl, Nat.le_refl _, World.alloc_heap_new w _, Nat.le_refl _, Nat.zero_le _, rfl, rfl⟩⟩

end Go.Proofs.YthdioeeanodjiaaDoor

namespace Go.Proofs.YthdioeeanodjiaaDoor
open Go.ChangeShapes Go.WideShapes Go.ChangeAt Go.RowKit
set_option linter.unusedVariables false

/-- A list of bytes in memory of the call's own, in blocks from lo on. -/
def OwnB (w : World) (lo : Nat) (v : Value) (l : List UInt8) : Prop := w.ownsRow lo 5 1 v l.length (Lib.byteCells l)
/-- A slice that reads as the bytes l. -/
def BytesAt (w : World) (v : Value) (l : List UInt8) : Prop :=
  ∃ (a : Option Addr) (cap : Nat), v = .slice a l.length cap ∧ l.length ≤ maxLen ∧ (0 < l.length → l.length ≤ cap ∧ ∃ b off, a = some ⟨b, off, none⟩ ∧ ∀ i, i < l.length → w.cell? ⟨b, off + i, none⟩ = some (.int .u8 ((l.getD i 0).toNat : Nat)))
theorem BytesAt.keep {w w' : World} {v : Value} {l : List UInt8} (h : BytesAt w v l) (hb : Below w.heap.size w w') : BytesAt w' v l := by
  obtain ⟨a, cap, rfl, hm, hc⟩ := h
  refine ⟨a, cap, rfl, hm, fun hp => ?_⟩
  obtain ⟨hcap, b, off, rfl, hd⟩ := hc hp
  exact ⟨hcap, b, off, rfl, fun i hi => Bel.keeps hb (hd i hi)⟩
theorem OwnB.small {w : World} {lo : Nat} {v : Value} {l : List UInt8} (h : OwnB w lo v l) : l.length ≤ maxLen := by
  rcases h.2 with ⟨_, h0⟩ | ⟨g, cap, cur, _, _, _, h1, h2, _⟩
  · rw [h0]; exact Nat.zero_le _
  · omega
theorem OwnB.row {w : World} {lo : Nat} {v : Value} {l : List UInt8} (h : OwnB w lo v l) :
    ∃ a cap, v = .slice a l.length cap ∧ (0 < l.length → l.length ≤ cap ∧ ∃ g, a = some ⟨g, 0, none⟩ ∧ lo ≤ g ∧ g < w.heap.size ∧ (∀ i, i < l.length → w.cell? ⟨g, i, none⟩ = some (.int .u8 ((l.getD i 0).toNat : Nat))) ∧ ∀ i, w.frozen? ⟨g, i, none⟩ = false) := by
  rcases h.2 with ⟨rfl, h0⟩ | ⟨g, cap, cur, rfl, hlo, hg, h1, h2, h3, h4⟩
  · exact ⟨none, 0, by rw [h0], fun hp => absurd hp (by omega)⟩
  · refine ⟨_, cap, rfl, fun hp => ⟨by omega, g, rfl, hlo, (Array.getElem?_eq_some_iff.1 hg).1, fun i hi => ?_, fun i => ?_⟩⟩
    · have hs : i < cur.size := by omega
      have e : cur[i]? = some (.int .u8 ((l.getD i 0).toNat : Nat)) := by
        have e1 : (cur.toList.take (l.length * 1))[i]? = cur[i]? := by rw [List.getElem?_take]; simp [hi]
        rw [← e1, h4, Lib.byteCells, List.getElem?_map]
        simp [List.getD, hi]
      simp [World.cell?, hg, e]
    · simp [World.frozen?, hg]
theorem OwnB.form {w : World} {lo : Nat} {v : Value} {l : List UInt8} (h : OwnB w lo v l) {n : Nat} (hn : l.length = n) : ∃ a cap, v = .slice a n cap := by
  obtain ⟨a, cap, e, _⟩ := h.row
  exact ⟨a, cap, by rw [e, hn]⟩
theorem OwnB.at {w : World} {lo : Nat} {v : Value} {l : List UInt8} (h : OwnB w lo v l) : BytesAt w v l := by
  have hs := h.small
  obtain ⟨a, cap, rfl, hc⟩ := h.row
  refine ⟨a, cap, rfl, hs, fun hp => ?_⟩
  obtain ⟨hcap, g, rfl, _, _, hd, _⟩ := hc hp
  exact ⟨hcap, g, 0, rfl, fun i hi => by simpa using hd i hi⟩
theorem OwnB.keep {w w' : World} {lo : Nat} {v : Value} {l : List UInt8} (h : OwnB w lo v l) (hb : Below w.heap.size w w') : OwnB w' lo v l := ownsRow_later h hb
theorem OwnB.low {w : World} {lo lo' : Nat} {v : Value} {l : List UInt8} (h : OwnB w lo v l) (hl : lo' ≤ lo) : OwnB w lo' v l := ownsRow_low h hl
theorem OwnB.lt {w : World} {lo : Nat} {v : Value} {l : List UInt8} (h : OwnB w lo v l) : ∀ g, v.ownBlock = some g → lo ≤ g ∧ g < w.heap.size := World.ownsRow.lt h
theorem OwnB.nil (w : World) (lo : Nat) : OwnB w lo (.slice none 0 0) [] := ⟨rfl, .inl ⟨rfl, rfl⟩⟩
theorem ownB_new (w : World) (lo : Nat) (hlo : lo ≤ w.heap.size) : OwnB (w.alloc (.cells #[] 5)) lo (.slice (some ⟨w.heap.size, 0, none⟩) 0 0) [] :=
  ⟨rfl, .inr ⟨w.heap.size, 0, #[], rfl, hlo, World.alloc_heap_new w _, Nat.le_refl _, Nat.zero_le _, rfl, rfl⟩⟩
/-- A list of bytes is given, in new memory. -/
def GivesB (w : World) (l : List UInt8) (e : Ending) (w' : World) : Prop := ∃ v, e = .returned v ∧ OwnB w' w.heap.size v l ∧ Below w.heap.size w w'
theorem info_partsB {o : Option TypeInfo} {z : Value} {s b : Nat} (h : o.map (fun i => (i.zero, i.size, i.bytes)) = some (some z, s, b)) : ∃ i, o = some i ∧ i.zero = some z ∧ i.size = s ∧ i.bytes = b := by
  obtain ⟨i, hi, e⟩ := Option.map_eq_some_iff.1 h
  simp at e
  exact ⟨i, hi, e.1, e.2.1, e.2.2⟩
theorem byte_info : (Tryd.prog.info? 5).map (fun i => (i.zero, i.size, i.bytes)) = some (some (.int .u8 0), 1, 1) := by kernel_rfl
theorem byte_one (c : UInt8) : Lib.byteCells [c] = [.int .u8 (c.toNat : Nat)] := rfl
theorem bytes_one (l : List UInt8) : ∀ u ∈ Lib.byteCells l, u.oneCell' = true := fun u hu => by
  unfold Lib.byteCells at hu
  obtain ⟨x, _, rfl⟩ := List.mem_map.1 hu
  rfl
/-- A byte is put behind a list of the call's own: the state behind it. -/
theorem OwnB.snoc {w w' : World} {lo : Nat} {v v' : Value} {l : List UInt8} {c : UInt8} (h : w'.ownsRow lo 5 1 v' (l.length + 1) (Lib.byteCells l ++ [.int .u8 (c.toNat : Nat)])) : OwnB w' lo v' (l ++ [c]) := by
  unfold OwnB
  rw [Lib.byteCells_append, List.length_append]
  exact h
theorem OwnB.app {w' : World} {lo : Nat} {v' : Value} {l m : List UInt8} (h : w'.ownsRow lo 5 1 v' (l.length + m.length) (Lib.byteCells l ++ Lib.byteCells m)) : OwnB w' lo v' (l ++ m) := by
  unfold OwnB
  rw [Lib.byteCells_append, List.length_append]
  exact h
theorem BytesAt.cells {w : World} {b off n cap : Nat} {l : List UInt8} (h : BytesAt w (.slice (some ⟨b, off, none⟩) n cap) l) : ∀ j u, (Lib.byteCells l)[j]? = some u → w.cell? ((⟨b, off, none⟩ : Addr).add j) = some u := fun j u hu => by
  obtain ⟨a, c, e, _, hc⟩ := h
  unfold Lib.byteCells at hu
  rw [List.getElem?_map] at hu
  obtain ⟨x, hx, rfl⟩ := Option.map_eq_some_iff.1 hu
  have hj := (List.getElem?_eq_some_iff.1 hx).1
  obtain ⟨_, b', off', e2, hd⟩ := hc (by omega)
  simp at e
  rw [← e.1] at e2
  simp at e2
  obtain ⟨rfl, rfl⟩ := e2
  have := hd j hj
  simp [List.getD, hx] at this
  have e9 : (⟨b, off, none⟩ : Addr).add j = ⟨b, off + j, none⟩ := by
    unfold Addr.add
    split
    · rename_i h0; subst h0; rfl
    · rfl
  rw [e9]
  exact this
theorem ownsRow_underB {w w1 : World} {lo : Nat} {t : TypeId} {s n : Nat} {v : Value} {xs : List Value} (h : w.ownsRow lo t s v n xs) (hlo : lo ≤ w.heap.size) (hg : w.grownBy w1 v.ownBlock) : Below lo w w1 :=
  (Below.refl lo w).grown hg hlo (fun k hk => (World.ownsRow.lt h k hk).1)
/-- A byte is put behind a list of the call's own. -/
theorem add_byte (lo : Nat) (v : Value) (l : List UInt8) (c : UInt8) (z : Int) (w : World) (hz : z = ((c.toNat : Nat) : Int)) (hv : OwnB w lo v l) (hlo : lo ≤ w.heap.size) (hn : l.length ≤ 1000000) :
    ∃ v' w', (∀ ty, (Builtin.append_ #[22, 22] ty #[v, .slice (some ⟨w.heap.size, 0, none⟩) 1 1]).run Tryd.prog (w.alloc (.cells #[.int .u8 z] 5)) = .ok v' w') ∧ OwnB w' lo v' (l ++ [c]) ∧ Below lo w w' ∧ w.heap.size ≤ w'.heap.size ∧ (∀ g, g < w.heap.size → v.ownBlock ≠ some g → w'.heap[g]? = w.heap[g]? ∧ v'.ownBlock ≠ some g) := by
  obtain ⟨i0, hi, hz0, hz1, hz2⟩ := info_partsB byte_info
  subst hz
  have ha := Bel.alloc w (.cells #[.int .u8 ((c.toNat : Nat) : Int)] 5)
  have hv1 : (w.alloc (.cells #[.int .u8 ((c.toNat : Nat) : Int)] 5)).ownsRow lo 5 1 v l.length (Lib.byteCells l) := World.ownsRow.alloc hv _
  have hmx : 2000000 ≤ maxLen := by decide
  have key := fun ty => run_append_own_at (P := Tryd.prog) (w.alloc (.cells #[.int .u8 ((c.toNat : Nat) : Int)] 5)) lo 22 ty 5 i0 (.int .u8 0) 1 1 Tryd.underlying22 hi hz0 hz1 hz2 rfl (by decide) v l.length (Lib.byteCells l) hv1 ⟨w.heap.size, 0, none⟩ 1 1 [.int .u8 ((c.toNat : Nat) : Int)] rfl (fun j u hj => by
    match j, hj with
    | 0, hj => simp at hj; subst hj; simp [Addr.add]) (by simp [Value.oneCell']) (by omega) (by omega) (by have := ha.size; omega)
  obtain ⟨v', w', hrun, ho, hgr, _, hob⟩ := key 22
  have hb := ownsRow_underB hv1 (by have := ha.size; omega) hgr
  refine ⟨v', w', fun ty => hrun, OwnB.snoc (w := w) (v := v) ho, (ha.mono hlo).trans hb, Nat.le_trans ha.size hb.size, fun g hg hne => ⟨?_, ?_⟩⟩
  · exact (hgr.block g (Nat.lt_of_lt_of_le hg ha.size) (fun e => hne e.symm)).trans (ha.block g hg)
  · rcases hob with e | e
    · rw [e]; exact hne
    · rw [e]
      intro e2
      simp at e2
      omega
/-- A list of bytes is put behind one of the call's own. -/
theorem add_bytes (lo lo2 : Nat) (v x : Value) (l m : List UInt8) (w : World) (hv : OwnB w lo v l) (hx2 : OwnB w lo2 x m) (hlo : lo ≤ w.heap.size) (hn : l.length + m.length ≤ 140737488355328) :
    ∃ v' w', (∀ ty, (Builtin.append_ #[22, 22] ty #[v, x]).run Tryd.prog w = .ok v' w') ∧ OwnB w' lo v' (l ++ m) ∧ Below lo w w' ∧ w.heap.size ≤ w'.heap.size ∧ (∀ g, g < w.heap.size → v.ownBlock ≠ some g → w'.heap[g]? = w.heap[g]? ∧ v'.ownBlock ≠ some g) := by
  obtain ⟨i0, hi, hz0, hz1, hz2⟩ := info_partsB byte_info
  have hml := hn
  have hx := hx2.at
  by_cases hx0 : x = .slice none 0 0
  · have h0 : m = [] := by
      obtain ⟨a, c, e, _⟩ := hx
      rw [hx0] at e
      simp at e
      exact List.eq_nil_of_length_eq_zero (by omega)
    subst hx0 h0
    exact ⟨v, w, fun ty => run_append_owned_none w lo _ ty _ i0 1 Tryd.underlying22 hi v _ _ hv, by rw [List.append_nil]; exact hv, Below.refl _ _, Nat.le_refl _, fun g _ hne => ⟨rfl, hne⟩⟩
  obtain ⟨a, c, rfl⟩ : ∃ a c, x = .slice (some a) m.length c := by
    rcases hx2.2 with ⟨e, _⟩ | ⟨g, cap, cur, e, _⟩
    · exact absurd e hx0
    · exact ⟨_, cap, e⟩
  have hc : 0 < m.length → ∃ b off, a = ⟨b, off, none⟩ := fun h0 => by
    obtain ⟨a', c', e, _, hc⟩ := hx
    obtain ⟨_, b, off, e2, _⟩ := hc h0
    simp at e
    rw [← e.1] at e2
    simp at e2
    exact ⟨b, off, e2⟩
  have hmx : 140737488355328 ≤ maxLen := by decide
  have key := fun ty => run_append_own_at (P := Tryd.prog) w lo 22 ty 5 i0 (.int .u8 0) 1 1 Tryd.underlying22 hi hz0 hz1 hz2 rfl (by decide) v l.length (Lib.byteCells l) hv a m.length c (Lib.byteCells m) (by rw [Lib.byteCells_length, Nat.mul_one]) (fun j u hj => by
    have hj2 := (List.getElem?_eq_some_iff.1 hj).1
    rw [Lib.byteCells_length] at hj2
    obtain ⟨b, off, e⟩ := hc (by omega)
    subst e
    exact hx.cells j u hj) (bytes_one m) (by omega) (by omega) hlo
  obtain ⟨v', w', hrun, ho, hgr, _, hob⟩ := key 22
  have hb := ownsRow_underB hv hlo hgr
  refine ⟨v', w', fun ty => hrun, OwnB.app ho, hb, hb.size, fun g hg hne => ⟨hgr.block g hg (fun e => hne e.symm), ?_⟩⟩
  rcases hob with e | e
  · rw [e]; exact hne
  · rw [e]
    intro e2
    simp at e2
    omega
theorem wpList_appendR {ops : Array Oper} {rest : List Oper} {o : Oper} {a : Act} {Q : Exit → Act → World → Prop} {w : World} (hgd : o.guard = none) (s x : Operand) (t : TypeId) (ho : o.op = .call { callee := .builtin .append, args := #[s, x], argTypes := #[t, t] })
    {v1 v2 v' : Value} {w' : World} (hs : a.eval s = v1) (hx : a.eval x = v2) (hrun : ∀ ty, (Builtin.append_ #[t, t] ty #[v1, v2]).run Tryd.prog w = .ok v' w') (h : wpList Tryd.prog ops Q rest (a.put o.dst v') w') : wpList Tryd.prog ops Q (o :: rest) a w := by
  refine wpList_plain hgd fun K hK => ?_
  unfold Oper.wp execOp
  have hr := hrun o.type
  simp only [ho, resolve, invoke, builtin, Sem.run_bind, Sem.run_pure, Result.andThen_ok, List.map_toArray, List.map_cons, List.map_nil, hs, hx, hr]
  exact hK _ _ h
theorem not_i64 (y : Int) (h : -9223372036854775808 ≤ y ∧ y ≤ 9223372036854775807) : bits .xor .i64 (-1) y = -1 - y := by
  have e1 : BitVec.ofInt 64 (-1) = BitVec.allOnes 64 := by decide
  have e2 : (BitVec.ofInt 64 y).toNat = (y % 18446744073709551616).toNat := by simp [BitVec.toNat_ofInt]
  show IntKind.i64.wrap ((BitVec.ofInt 64 (-1) ^^^ BitVec.ofInt 64 y).toNat : Int) = _
  rw [e1, BitVec.allOnes_xor, BitVec.toNat_not, e2, IntKind.wrap_i64]
  omega
theorem pow_128 (k : Nat) : (128 : Nat) ^ k = 2 ^ (7 * k) := by rw [show (128 : Nat) = 2 ^ 7 from rfl, ← Nat.pow_mul]
theorem wraps_i64 (n : Int) (h₀ : 0 ≤ n) (h₁ : n < 2 ^ 63) : IntKind.i64.wrap n = n := by rw [IntKind.wrap_i64]; omega
theorem or_join (k n d : Nat) (hn : n < 128 ^ k) (hd : d < 128) (hk : k < 9) : bits .or .i64 (n : Int) ((d * 128 ^ k : Nat) : Int) = ((n + d * 128 ^ k : Nat) : Int) := by
  have h1 : d * 128 ^ k < 2 ^ 63 := by
    have h2 : 128 ^ (k + 1) ≤ 128 ^ 9 := Nat.pow_le_pow_right (by decide) (by omega)
    have h3 : (128 : Nat) ^ 9 = 2 ^ 63 := by decide
    have h4 : d * 128 ^ k < 128 * 128 ^ k := Nat.mul_lt_mul_of_pos_right hd (Nat.pow_pos (by decide))
    rw [Nat.pow_succ] at h2
    omega
  have h5 : n < 2 ^ 63 := by
    have h2 : 128 ^ k ≤ 128 ^ 9 := Nat.pow_le_pow_right (by decide) (by omega)
    have h3 : (128 : Nat) ^ 9 = 2 ^ 63 := by decide
    omega
  rw [(bits_nat .i64 63 (by decide) wraps_i64 n _ h5 h1).2, Nat.or_comm]
  rw [pow_128] at hn ⊢
  rw [Nat.mul_comm d, ← Nat.two_pow_add_eq_or_of_lt hn d, Nat.add_comm]
end Go.Proofs.YthdioeeanodjiaaDoor

namespace Go.Proofs.YthdioeeanodjiaaDoor
open Go.ChangeShapes Go.WideShapes Go.ChangeAt Go.RowKit
set_option linter.unusedVariables false

/-- A field of a struct, read. -/
theorem trod_field {H : Type} {enc : TypeId × Value → H} {P : Program} {w : World} {base : Nat} {spare : Nat → Bool} {held : Bool} {fuel : Nat} {t : TypeId} {fs : Array Field} {cs : List Value} {x : DataW H × List MemPlace}
    (ht : P.underlying t = some (.struct fs)) (h : DataW.trod enc P w base spare held fuel t cs = some x) (i : Nat) {f : Field} (hi : fs[i]? = some f) :
    ∃ n y, DataW.trod enc P w base spare held n f.type ((cs.drop f.offset).take (P.cellsOf f.type)) = some y := by
  obtain ⟨xs, n, _, _, _, hlen, hf⟩ := DataW.trod_struct ht h
  have hb : i < xs.length := by
    rw [hlen]
    by_cases hb : i < fs.size
    · exact hb
    · rw [Array.getElem?_eq_none (by omega)] at hi
      cases hi
  exact ⟨n, xs[i], by rw [hf i f hi, List.getElem?_eq_getElem hb]⟩

theorem trod_len {H : Type} {enc : TypeId × Value → H} {P : Program} {w : World} {base : Nat} {spare : Nat → Bool} {held : Bool} {fuel : Nat} {t : TypeId} {fs : Array Field} {cs : List Value} {x : DataW H × List MemPlace}
    (ht : P.underlying t = some (.struct fs)) (h : DataW.trod enc P w base spare held fuel t cs = some x) : cs.length = P.cellsOf t := by
  obtain ⟨xs, n, _, _, hl, _, _⟩ := DataW.trod_struct ht h
  exact hl

theorem take_one {c : Value} {cs : List Value} {o : Nat} (h : (cs.drop o).take 1 = [c]) : cs[o]? = some c := by
  have h2 := congrArg (fun l => l[0]?) h
  simpa using h2

/-- A field of a struct that is a number. -/
theorem trod_field_int {H : Type} {enc : TypeId × Value → H} {P : Program} {w : World} {base : Nat} {spare : Nat → Bool} {held : Bool} {fuel : Nat} {t ti : TypeId} {fs : Array Field} {cs : List Value} {x : DataW H × List MemPlace}
    (ht : P.underlying t = some (.struct fs)) (hu : P.underlying ti = some (.int .i64)) (hc : P.cellsOf ti = 1) (h : DataW.trod enc P w base spare held fuel t cs = some x) (i o : Nat) (hi : (fs[i]?).map (fun f => (f.type, f.offset)) = some (ti, o)) :
    ∃ z : Int, cs[o]? = some (.int .i64 z) ∧ (Lit.int .i64 z).wf = true := by
  obtain ⟨f, hf, he⟩ := Option.map_eq_some_iff.1 hi
  obtain ⟨n, y, hy⟩ := trod_field ht h i hf
  have e1 : f.type = ti := by cases he; rfl
  have e2 : f.offset = o := by cases he; rfl
  rw [e1, e2, hc] at hy
  obtain ⟨z, hz, _, hw⟩ := DataW.trod_int hu hy
  exact ⟨z, take_one hz, hw⟩

/-- A field of a struct that is a slice. -/
theorem trod_field_slice {H : Type} {enc : TypeId × Value → H} {P : Program} {w : World} {base : Nat} {spare : Nat → Bool} {held : Bool} {fuel : Nat} {t ti : TypeId} {fs : Array Field} {cs : List Value} {x : DataW H × List MemPlace}
    (ht : P.underlying t = some (.struct fs)) (hc : P.cellsOf ti = 1) (h : DataW.trod enc P w base spare held fuel t cs = some x) (i o : Nat) (hi : (fs[i]?).map (fun f => (f.type, f.offset)) = some (ti, o)) (ho : o < cs.length) :
    ∃ (c : Value) (n : Nat) (y : DataW H × List MemPlace), cs[o]? = some c ∧ DataW.trod enc P w base spare held n ti [c] = some y := by
  obtain ⟨f, hf, he⟩ := Option.map_eq_some_iff.1 hi
  obtain ⟨n, y, hy⟩ := trod_field ht h i hf
  have e1 : f.type = ti := by cases he; rfl
  have e2 : f.offset = o := by cases he; rfl
  rw [e1, e2, hc] at hy
  have h1 : (cs.drop o).take 1 = [cs[o]] := by
    rw [List.drop_eq_getElem_cons ho]
    rfl
  rw [h1] at hy
  exact ⟨cs[o], n, y, List.getElem?_eq_getElem ho, hy⟩

theorem cells_int : Tryd.prog.cellsOf 3 = 1 := by kernel_rfl

theorem list5 {cs : List Value} {v0 v1 v2 v3 v4 : Value} (hl : cs.length = 5) (h0 : cs[0]? = some v0) (h1 : cs[1]? = some v1) (h2 : cs[2]? = some v2) (h3 : cs[3]? = some v3) (h4 : cs[4]? = some v4) : cs = [v0, v1, v2, v3, v4] := by
  match cs, hl with
  | [c0, c1, c2, c3, c4], _ => simp_all
theorem list4 {cs : List Value} {v0 v1 v2 v3 : Value} (hl : cs.length = 4) (h0 : cs[0]? = some v0) (h1 : cs[1]? = some v1) (h2 : cs[2]? = some v2) (h3 : cs[3]? = some v3) : cs = [v0, v1, v2, v3] := by
  match cs, hl with
  | [c0, c1, c2, c3], _ => simp_all

theorem agg_of_cells {cs : Array Value} {l : List Value} (h : (Value.agg cs).cells.toList = l) : Value.agg cs = .agg l.toArray := by
  subst h
  rfl

end Go.Proofs.YthdioeeanodjiaaDoor

namespace Go.Proofs.YthdioeeanodjiaaDoor
open Go.ChangeShapes Go.WideShapes Go.ChangeAt Go.RowKit
set_option linter.unusedVariables false

structure ArmD where
  fr : Int
  v : Int
structure PhiD where
  d : Int
  arms : List ArmD
structure InsD where
  op : Int
  d : Int
  a : Int
  b : Int
  n : Int
structure TermD where
  k : Int
  a : Int
  t : Int
  e : Int
structure BlockD where
  phis : List PhiD
  list : List InsD
  term : TermD
structure FnD where
  blocks : List BlockD
  values : Int

/-- What lies in blocks from lo on is as it was. -/
def Keeps (lo : Nat) (w w' : World) : Prop := ∀ p v, lo ≤ p.block → w.cell? p = some v → w'.cell? p = some v

theorem Keeps.of_below {w w' : World} (h : Below w.heap.size w w') (lo : Nat) : Keeps lo w w' := fun p v _ hc => Bel.keeps h hc
theorem Keeps.trans {lo : Nat} {a b c : World} (h : Keeps lo a b) (k : Keeps lo b c) : Keeps lo a c := fun p v hp hc => k p v hp (h p v hp hc)
theorem Keeps.setCell (w : World) (lo B o : Nat) (u : Value) (h : B < lo) : Keeps lo w (w.setCell ⟨B, o, none⟩ u) := fun p v hp hc => by
  rw [World.cell?_setCell_other _ _ _ _ (by intro e; rw [← e] at hp; exact absurd hp (by show ¬ lo ≤ B; omega))]
  exact hc
theorem Keeps.mono {lo lo' : Nat} {w w' : World} (h : Keeps lo w w') (hl : lo ≤ lo') : Keeps lo' w w' := fun p v hp hc => h p v (Nat.le_trans hl hp) hc

/-- A slice whose elements, of k cells each, lie in a block from lo on. -/
def ListAt {α : Type} (lo k : Nat) (E : World → Nat → Nat → α → Prop) (w : World) (v : Value) (l : List α) : Prop :=
  ∃ (a : Option Addr) (cap : Nat), v = .slice a l.length cap ∧ l.length ≤ 9223372036854775807 ∧ (0 < l.length → ∃ b off, a = some ⟨b, off, none⟩ ∧ lo ≤ b ∧ ∀ i x, l[i]? = some x → E w b (off + i * k) x)

theorem ListAt.keep {α : Type} {lo k : Nat} {E : World → Nat → Nat → α → Prop} {w w' : World} {v : Value} {l : List α} (h : ListAt lo k E w v l) (hE : ∀ b o x, lo ≤ b → E w b o x → E w' b o x) : ListAt lo k E w' v l := by
  obtain ⟨a, cap, rfl, hm, hc⟩ := h
  refine ⟨a, cap, rfl, hm, fun hp => ?_⟩
  obtain ⟨b, off, rfl, hb, hd⟩ := hc hp
  exact ⟨b, off, rfl, hb, fun i x hi => hE _ _ _ hb (hd i x hi)⟩

theorem ListAt.low {α : Type} {lo lo' k : Nat} {E E' : World → Nat → Nat → α → Prop} {w : World} {v : Value} {l : List α} (h : ListAt lo k E w v l) (hl : lo' ≤ lo) (hE : ∀ b o x, E w b o x → E' w b o x) : ListAt lo' k E' w v l := by
  obtain ⟨a, cap, rfl, hm, hc⟩ := h
  refine ⟨a, cap, rfl, hm, fun hp => ?_⟩
  obtain ⟨b, off, rfl, hb, hd⟩ := hc hp
  exact ⟨b, off, rfl, Nat.le_trans hl hb, fun i x hi => hE _ _ _ (hd i x hi)⟩

def ArmAt (w : World) (b o : Nat) (x : ArmD) : Prop := w.cell? ⟨b, o, none⟩ = some (.int .i64 x.fr) ∧ w.cell? ⟨b, o + 1, none⟩ = some (.int .i64 x.v)
def InsAt (w : World) (b o : Nat) (x : InsD) : Prop :=
  w.cell? ⟨b, o, none⟩ = some (.int .i64 x.op) ∧ w.cell? ⟨b, o + 1, none⟩ = some (.int .i64 x.d) ∧ w.cell? ⟨b, o + 2, none⟩ = some (.int .i64 x.a) ∧ w.cell? ⟨b, o + 3, none⟩ = some (.int .i64 x.b) ∧ w.cell? ⟨b, o + 4, none⟩ = some (.int .i64 x.n)
def PhiAt (lo : Nat) (w : World) (b o : Nat) (x : PhiD) : Prop :=
  w.cell? ⟨b, o, none⟩ = some (.int .i64 x.d) ∧ ∃ v, w.cell? ⟨b, o + 1, none⟩ = some v ∧ ListAt lo 2 ArmAt w v x.arms
def BlockAt (lo : Nat) (w : World) (b o : Nat) (x : BlockD) : Prop :=
  ∃ pv lv, w.cell? ⟨b, o, none⟩ = some pv ∧ w.cell? ⟨b, o + 1, none⟩ = some lv ∧ w.cell? ⟨b, o + 2, none⟩ = some (.int .i64 x.term.k) ∧ w.cell? ⟨b, o + 3, none⟩ = some (.int .i64 x.term.a) ∧ w.cell? ⟨b, o + 4, none⟩ = some (.int .i64 x.term.t) ∧ w.cell? ⟨b, o + 5, none⟩ = some (.int .i64 x.term.e) ∧
    ListAt lo 2 (PhiAt lo) w pv x.phis ∧ ListAt lo 5 InsAt w lv x.list
def FnAtLo (lo : Nat) (w : World) (v : Value) (F : FnD) : Prop := ∃ bv, v = .agg #[bv, .int .i64 F.values] ∧ ListAt lo 6 (BlockAt lo) w bv F.blocks
def FnAt (w : World) (v : Value) (F : FnD) : Prop := FnAtLo 0 w v F

theorem ArmAt.keep {lo : Nat} {w w' : World} {b o : Nat} {x : ArmD} (h : ArmAt w b o x) (hk : Keeps lo w w') (hb : lo ≤ b) : ArmAt w' b o x := ⟨hk _ _ hb h.1, hk _ _ hb h.2⟩
theorem InsAt.keep {lo : Nat} {w w' : World} {b o : Nat} {x : InsD} (h : InsAt w b o x) (hk : Keeps lo w w') (hb : lo ≤ b) : InsAt w' b o x :=
  ⟨hk _ _ hb h.1, hk _ _ hb h.2.1, hk _ _ hb h.2.2.1, hk _ _ hb h.2.2.2.1, hk _ _ hb h.2.2.2.2⟩
theorem arms_keep {lo : Nat} {w w' : World} {v : Value} {l : List ArmD} (h : ListAt lo 2 ArmAt w v l) (hk : Keeps lo w w') : ListAt lo 2 ArmAt w' v l := h.keep fun _ _ _ hb hx => hx.keep hk hb
theorem places_keep {lo : Nat} {w w' : World} {v : Value} {l : List InsD} (h : ListAt lo 5 InsAt w v l) (hk : Keeps lo w w') : ListAt lo 5 InsAt w' v l := h.keep fun _ _ _ hb hx => hx.keep hk hb
theorem PhiAt.keep {lo : Nat} {w w' : World} {b o : Nat} {x : PhiD} (h : PhiAt lo w b o x) (hk : Keeps lo w w') (hb : lo ≤ b) : PhiAt lo w' b o x := by
  obtain ⟨h1, v, h2, h3⟩ := h
  exact ⟨hk _ _ hb h1, v, hk _ _ hb h2, arms_keep h3 hk⟩
theorem phis_keep {lo : Nat} {w w' : World} {v : Value} {l : List PhiD} (h : ListAt lo 2 (PhiAt lo) w v l) (hk : Keeps lo w w') : ListAt lo 2 (PhiAt lo) w' v l := h.keep fun _ _ _ hb hx => hx.keep hk hb
theorem BlockAt.keep {lo : Nat} {w w' : World} {b o : Nat} {x : BlockD} (h : BlockAt lo w b o x) (hk : Keeps lo w w') (hb : lo ≤ b) : BlockAt lo w' b o x := by
  obtain ⟨pv, lv, h1, h2, h3, h4, h5, h6, h7, h8⟩ := h
  exact ⟨pv, lv, hk _ _ hb h1, hk _ _ hb h2, hk _ _ hb h3, hk _ _ hb h4, hk _ _ hb h5, hk _ _ hb h6, phis_keep h7 hk, places_keep h8 hk⟩
theorem blocks_keep {lo : Nat} {w w' : World} {v : Value} {l : List BlockD} (h : ListAt lo 6 (BlockAt lo) w v l) (hk : Keeps lo w w') : ListAt lo 6 (BlockAt lo) w' v l := h.keep fun _ _ _ hb hx => hx.keep hk hb
theorem FnAtLo.keep {lo : Nat} {w w' : World} {v : Value} {F : FnD} (h : FnAtLo lo w v F) (hk : Keeps lo w w') : FnAtLo lo w' v F := by
  obtain ⟨bv, hv, hb⟩ := h
  exact ⟨bv, hv, blocks_keep hb hk⟩
theorem FnAt.later {w w' : World} {v : Value} {F : FnD} (h : FnAt w v F) (hb : Below w.heap.size w w') : FnAt w' v F := FnAtLo.keep h (Keeps.of_below hb 0)

theorem PhiAt.low {lo lo' : Nat} (hl : lo' ≤ lo) {w : World} {b o : Nat} {x : PhiD} (h : PhiAt lo w b o x) : PhiAt lo' w b o x := by
  obtain ⟨h1, v, h2, h3⟩ := h
  exact ⟨h1, v, h2, h3.low hl fun _ _ _ hx => hx⟩
theorem BlockAt.low {lo lo' : Nat} (hl : lo' ≤ lo) {w : World} {b o : Nat} {x : BlockD} (h : BlockAt lo w b o x) : BlockAt lo' w b o x := by
  obtain ⟨pv, lv, h1, h2, h3, h4, h5, h6, h7, h8⟩ := h
  exact ⟨pv, lv, h1, h2, h3, h4, h5, h6, h7.low hl fun _ _ _ hx => hx.low hl, h8.low hl fun _ _ _ hx => hx⟩
theorem FnAtLo.low {lo lo' : Nat} (hl : lo' ≤ lo) {w : World} {v : Value} {F : FnD} (h : FnAtLo lo w v F) : FnAtLo lo' w v F := by
  obtain ⟨bv, hv, hb⟩ := h
  exact ⟨bv, hv, hb.low hl fun _ _ _ hx => hx.low hl⟩

/-! ### The laws' own Fn, read -/

theorem list_of {α : Type} {n : Nat} {Q : Nat → α → Prop} (h : ∀ i, i < n → ∃ x, Q i x) : ∃ l : List α, l.length = n ∧ ∀ i x, l[i]? = some x → Q i x := by
  induction n with
  | zero => exact ⟨[], rfl, fun i x hi => by simp at hi⟩
  | succ n ih =>
    obtain ⟨l, hl, hq⟩ := ih (fun i hi => h i (by omega))
    obtain ⟨x, hx⟩ := h n (by omega)
    refine ⟨l ++ [x], by simp [hl], fun i y hi => ?_⟩
    by_cases hin : i < n
    · rw [List.getElem?_append_left (by omega)] at hi
      exact hq i y hi
    · have hi2 : i < (l ++ [x]).length := by
        by_cases hlt : i < (l ++ [x]).length
        · exact hlt
        · rw [List.getElem?_eq_none (by omega)] at hi
          cases hi
      have e : i = n := by simp [hl] at hi2; omega
      subst e
      rw [List.getElem?_append_right (by omega)] at hi
      simp [hl] at hi
      subst hi
      exact hx

theorem readList {H : Type} {enc : TypeId × Value → H} {P : Program} {w : World} {base : Nat} {spare : Nat → Bool} {held : Bool} {fuel : Nat} {t e : TypeId} {v : Value} {y : DataW H × List MemPlace} {α : Type} {k : Nat} {E : World → Nat → Nat → α → Prop}
    (ht : P.underlying t = some (.slice e)) (hk : P.cellsOf e = k) (hpos : 0 < k)
    (hE : ∀ n cs y b o, DataW.trod enc P w base spare held n e cs = some y → (∀ i, i < k → w.cell? ⟨b, o + i, none⟩ = cs[i]?) → ∃ x, E w b o x)
    (h : DataW.trod enc P w base spare held fuel t [v] = some y) : ∃ l, ListAt 0 k E w v l := by
  rcases Go.Deep.open_slice ht h with ⟨hcs, _⟩ | ⟨a, len, cap, m, n, D, Pl, hcs, _, hl, hm, hmm, _, hel⟩
  · have hv : v = .slice none 0 0 := by simpa using hcs
    exact ⟨[], none, 0, hv, by simp, fun hp => absurd hp (by simp)⟩
  · have hv : v = .slice (some a) len cap := by simpa using hcs
    have hlm : len ≤ m := by rw [hmm]; split <;> omega
    rw [hk] at hel
    obtain ⟨b, off, spot⟩ := a
    have hcell : ∀ i, i < len → ∃ cs' : List Value, (∀ j, j < k → w.cell? ((Addr.mk b off spot).add (i * k + j)) = cs'[j]?) ∧ cs'.length = k ∧ DataW.trod enc P w base spare held n e cs' = some (D i, Pl i) := by
      intro i hi
      obtain ⟨cs', h1, h2⟩ := hel i (by omega)
      obtain ⟨_, h3, h4⟩ := World.cells?_some h1
      refine ⟨cs', fun j hj => ?_, h3, h2⟩
      rw [← Go.Deep.add_add]
      exact h4 j hj
    by_cases hl0 : len = 0
    · subst hl0
      exact ⟨[], some ⟨b, off, spot⟩, cap, hv, by simp, fun hp => absurd hp (by simp)⟩
    · have hspot : spot = none := by
        obtain ⟨cs', h1, h2, _⟩ := hcell 0 (by omega)
        have h3 := h1 0 (by omega)
        rw [List.getElem?_eq_getElem (by omega)] at h3
        simpa [Addr.add] using World.cell?_spot h3
      subst hspot
      have hall : ∀ i, i < len → ∃ x, E w b (off + i * k) x := by
        intro i hi
        obtain ⟨cs', h1, h2, h3⟩ := hcell i hi
        refine hE n cs' _ b (off + i * k) h3 (fun j hj => ?_)
        rw [← h1 j hj]
        congr 1
        unfold Addr.add
        split <;> simp_all [Nat.add_assoc]
      obtain ⟨l, hll, hlq⟩ := list_of hall
      refine ⟨l, some ⟨b, off, none⟩, cap, by rw [hll]; exact hv, by rw [hll]; unfold maxLen at hm; omega, fun _ => ⟨b, off, rfl, Nat.zero_le _, hlq⟩⟩

section
variable {H : Type} {enc : TypeId × Value → H} {w : World} {base : Nat} {spare : Nat → Bool} {held : Bool}

end

end Go.Proofs.YthdioeeanodjiaaDoor

namespace Go.Proofs.YthdioeeanodjiaaDoor
open Go.ChangeShapes Go.WideShapes Go.ChangeAt Go.RowKit
set_option linter.unusedVariables false

theorem rowNew0 (w : World) (t : TypeId) (B : Nat) (hB : B = w.heap.size) : RowNew (w.alloc (.cells #[] t)) B (.slice (some ⟨B, 0, none⟩) 0 0) [] := by
  subst hB
  exact ⟨rfl, by simp, by simp, fun i hi => absurd hi (by simp), fun i hi => absurd hi (by simp)⟩
theorem rowNew1 (w : World) (t : TypeId) (a : Int) (B : Nat) (hB : B = w.heap.size) : RowNew (w.alloc (.cells #[.int .i64 a] t)) B (.slice (some ⟨B, 0, none⟩) 1 1) [a] := by
  subst hB
  refine ⟨rfl, by simp, by simp, fun i hi => ?_, fun i hi => ?_⟩
  all_goals
    simp at hi
    subst hi
    simp
theorem rowNew2 (w : World) (t : TypeId) (a b : Int) (B : Nat) (hB : B = w.heap.size) : RowNew (w.alloc (.cells #[.int .i64 a, .int .i64 b] t)) B (.slice (some ⟨B, 0, none⟩) 2 2) [a, b] := by
  subst hB
  refine ⟨rfl, by simp, by simp, fun i hi => ?_, fun i hi => ?_⟩
  all_goals
    have hi' : i = 0 ∨ i = 1 := by simp at hi; omega
    rcases hi' with rfl | rfl
    · simp
    · simp

/-- A list of numbers is returned, in new memory. -/
def GivesInts (w : World) (l : List Int) (e : Ending) (w' : World) : Prop := ∃ v k, e = .returned v ∧ w.heap.size ≤ k ∧ RowNew w' k v l ∧ Below w.heap.size w w'

/-- Which values a place takes. -/
def usesV (op a b : Int) : List Int := if (1 ≤ op ∧ op ≤ 10) ∨ op = 22 then [a, b] else if op = 21 ∨ op = 23 ∨ op = 25 then [a] else []
theorem usesV_word {op a b : Int} (h : 1 ≤ op) (h1 : op ≤ 10) : usesV op a b = [a, b] := by simp [usesV, h, h1]
theorem usesV_none {op a b : Int} (e0 : (op == 20) = false) (e1 : (op == 21) = false) (e2 : (op == 22) = false) (e3 : (op == 23) = false) (e4 : (op == 24) = false) (e5 : (op == 25) = false) (h : ¬ (1 ≤ op ∧ op ≤ 10)) : usesV op a b = [] := by
  simp only [beq_eq_false_iff_ne, ne_eq] at e0 e1 e2 e3 e4 e5
  simp only [usesV, e1, e2, e3, e5, h, or_self, if_false]

set_option maxHeartbeats 1000000 in
theorem placeUses_any (op d a b n : Int) (w : World) :
    Calls Tryd.prog 91 #[placeV op d a b n] w fun e w' => GivesInts w (usesV op a b) e w' := by
  rcases op_cases op with h | h | h | h | h | h | ⟨⟨e0, e1, e2, e3, e4, e5⟩, ⟨h, h1⟩ | h | ⟨h1, h⟩⟩
  all_goals
    first | (have hu : usesV op a b = [a, b] := by first | exact usesV_word h h1 | (simp [usesV, h]; done)) | (have hu : usesV op a b = [a] := by simp [usesV, h]; done) | (have hu : usesV op a b = [] := by first | (simp [usesV, h]; done) | exact usesV_none e0 e1 e2 e3 e4 e5 (by omega))
    rw [hu]
    clear hu
    first | (subst h; simp only [placeV, if_true, if_false, Int.reduceEq]) | (rw [placeV_word e0 e1 e2 e3 e4 e5 h h1]) | (rw [placeV_none e0 e1 e2 e3 e4 e5 (by omega)])
    have y0 := wordPlace_yes
    have n0 := wordPlace_no
    have z0 := wordPlace_nil
    have y1 := loadPlace_yes
    have n1 := loadPlace_no
    have z1 := loadPlace_nil
    have y2 := storePlace_yes
    have n2 := storePlace_no
    have z2 := storePlace_nil
    have y3 := outPlace_yes
    have n3 := outPlace_no
    have z3 := outPlace_nil
    have y4 := copyPlace_yes
    have n4 := copyPlace_no
    have z4 := copyPlace_nil
    go_enter Tryd.func91, Tryd.ntmps91
    go_wp2
    go_ret
    first | exact ⟨_, _, rfl, by simp, rowNew2 _ _ _ _ _ (by simp), by repeat (first | exact Below.refl _ _ | apply Below.drew | refine Below.alloc ?_ (by simp <;> omega) _ | refine Below.setCell ?_ (by simp <;> omega) _)⟩ | exact ⟨_, _, rfl, by simp, rowNew1 _ _ _ _ (by simp), by repeat (first | exact Below.refl _ _ | apply Below.drew | refine Below.alloc ?_ (by simp <;> omega) _ | refine Below.setCell ?_ (by simp <;> omega) _)⟩ | exact ⟨_, _, rfl, by simp, rowNew0 _ _ _ (by simp), by repeat (first | exact Below.refl _ _ | apply Below.drew | refine Below.alloc ?_ (by simp <;> omega) _ | refine Below.setCell ?_ (by simp <;> omega) _)⟩

/-- Which values an end takes. -/
def endsV (k a : Int) : List Int := if k = 2 ∨ k = 3 then [a] else []

theorem impl_termUses (k a t e : Int) (w : World) :
    Calls Tryd.prog 92 #[.agg #[.int .i64 k, .int .i64 a, .int .i64 t, .int .i64 e]] w fun r w' => GivesInts w (endsV k a) r w' := by
  by_cases h2 : k = 2
  · rw [show endsV k a = [a] by simp [endsV, h2]]
    go_enter Tryd.func92, Tryd.ntmps92
    go_wp2
    go_ret
    exact ⟨_, _, rfl, by simp, rowNew1 _ _ _ _ (by simp), by repeat (first | exact Below.refl _ _ | apply Below.drew | refine Below.alloc ?_ (by simp <;> omega) _ | refine Below.setCell ?_ (by simp <;> omega) _)⟩
  · by_cases h3 : k = 3
    · rw [show endsV k a = [a] by simp [endsV, h3]]
      go_enter Tryd.func92, Tryd.ntmps92
      go_wp2
      go_ret
      exact ⟨_, _, rfl, by simp, rowNew1 _ _ _ _ (by simp), by repeat (first | exact Below.refl _ _ | apply Below.drew | refine Below.alloc ?_ (by simp <;> omega) _ | refine Below.setCell ?_ (by simp <;> omega) _)⟩
    · rw [show endsV k a = [] by simp [endsV, h2, h3]]
      have e2 : (k == 2) = false := by simpa using h2
      have e3 : (k == 3) = false := by simpa using h3
      clear h2 h3
      go_enter Tryd.func92, Tryd.ntmps92
      go_wp2
      go_ret
      exact ⟨_, _, rfl, by simp, rowNew0 _ _ _ (by simp), by repeat (first | exact Below.refl _ _ | apply Below.drew | refine Below.alloc ?_ (by simp <;> omega) _ | refine Below.setCell ?_ (by simp <;> omega) _)⟩

theorem usesV_forms (op a b : Int) : usesV op a b = [a, b] ∨ usesV op a b = [a] ∨ usesV op a b = [] := by
  unfold usesV
  split
  · exact .inl rfl
  · split
    · exact .inr (.inl rfl)
    · exact .inr (.inr rfl)
theorem endsV_forms (k a : Int) : endsV k a = [a] ∨ endsV k a = [] := by
  unfold endsV
  split
  · exact .inl rfl
  · exact .inr rfl

/-- A place that lies in block B. -/
def InsBox (w : World) (B : Nat) (op d a b n : Int) : Prop :=
  w.cell? ⟨B, 0, none⟩ = some (.int .i64 op) ∧ w.cell? ⟨B, 1, none⟩ = some (.int .i64 d) ∧ w.cell? ⟨B, 2, none⟩ = some (.int .i64 a) ∧ w.cell? ⟨B, 3, none⟩ = some (.int .i64 b) ∧ w.cell? ⟨B, 4, none⟩ = some (.int .i64 n)
theorem InsBox.keep {w w' : World} {B : Nat} {op d a b n : Int} (h : InsBox w B op d a b n) (hb : Below w.heap.size w w') : InsBox w' B op d a b n :=
  ⟨Bel.keeps hb h.1, Bel.keeps hb h.2.1, Bel.keeps hb h.2.2.1, Bel.keeps hb h.2.2.2.1, Bel.keeps hb h.2.2.2.2⟩
theorem insBox_new (w : World) (t : TypeId) (op d a b n : Int) : InsBox (w.alloc (.cells #[.int .i64 op, .int .i64 d, .int .i64 a, .int .i64 b, .int .i64 n] t)) w.heap.size op d a b n :=
  ⟨by simp, by simp, by simp, by simp, by simp⟩
/-- An end that lies in block B. -/
def TermBox (w : World) (B : Nat) (k a t e : Int) : Prop :=
  w.cell? ⟨B, 0, none⟩ = some (.int .i64 k) ∧ w.cell? ⟨B, 1, none⟩ = some (.int .i64 a) ∧ w.cell? ⟨B, 2, none⟩ = some (.int .i64 t) ∧ w.cell? ⟨B, 3, none⟩ = some (.int .i64 e)
theorem TermBox.keep {w w' : World} {B : Nat} {k a t e : Int} (h : TermBox w B k a t e) (hb : Below w.heap.size w w') : TermBox w' B k a t e :=
  ⟨Bel.keeps hb h.1, Bel.keeps hb h.2.1, Bel.keeps hb h.2.2.1, Bel.keeps hb h.2.2.2⟩
theorem termBox_new (w : World) (ty : TypeId) (k a t e : Int) : TermBox (w.alloc (.cells #[.int .i64 k, .int .i64 a, .int .i64 t, .int .i64 e] ty)) w.heap.size k a t e :=
  ⟨by simp, by simp, by simp, by simp⟩
end Go.Proofs.YthdioeeanodjiaaDoor
