/- Numbers as bytes: the form, how it is read, and that each undoes the other. -/
import Derived.Test.YtgjojajodkagbaaRows
namespace Go.Proofs.Ytgjojajodkagbaa
set_option linter.unusedVariables false

/-- The form of a number that is not below 0, seven bits a byte. -/
def lebs (n : Nat) : List UInt8 := if n < 128 then [UInt8.ofNat n] else UInt8.ofNat (n % 128 + 128) :: lebs (n / 128)
termination_by n
decreasing_by omega
theorem lebs_low {n : Nat} (h : n < 128) : lebs n = [UInt8.ofNat n] := by rw [lebs, if_pos h]
theorem lebs_up {n : Nat} (h : ¬ n < 128) : lebs n = UInt8.ofNat (n % 128 + 128) :: lebs (n / 128) := by rw [lebs, if_neg h]
theorem lebs_pos (n : Nat) : 0 < (lebs n).length := by
  by_cases h : n < 128
  · rw [lebs_low h]; simp
  · rw [lebs_up h]; simp
theorem byte_nat {k : Nat} (h : k < 256) : (UInt8.ofNat k).toNat = k := by simp; omega
theorem lebs_len : ∀ (k n : Nat), n < 128 ^ (k + 1) → (lebs n).length ≤ k + 1
  | 0, n, h => by rw [lebs_low (by simpa using h)]; simp
  | k + 1, n, h => by
    by_cases hn : n < 128
    · rw [lebs_low hn]; simp
    · rw [lebs_up hn, List.length_cons]
      have := lebs_len k (n / 128) (by rw [Nat.pow_succ] at h; exact Nat.div_lt_of_lt_mul (by rw [Nat.mul_comm]; exact h))
      omega

/-- A form is read: so many bytes are behind, n is what they said. -/
def rd : List UInt8 → Nat → Nat → Option (Nat × Nat)
  | [], _, _ => none
  | c :: r, k, n => if k < 9 then (if c.toNat < 128 then (if c.toNat = 0 ∧ 0 < k then none else some (n + c.toNat % 128 * 128 ^ k, k + 1)) else rd r (k + 1) (n + c.toNat % 128 * 128 ^ k)) else none
theorem rd_nil (k n : Nat) : rd [] k n = none := rfl
theorem rd_far {l : List UInt8} {k n : Nat} (h : ¬ k < 9) : rd l k n = none := by
  cases l with
  | nil => rfl
  | cons c r => rw [rd, if_neg h]
theorem rd_more {c : UInt8} {r : List UInt8} {k n : Nat} (h : k < 9) (hc : ¬ c.toNat < 128) : rd (c :: r) k n = rd r (k + 1) (n + c.toNat % 128 * 128 ^ k) := by rw [rd, if_pos h, if_neg hc]
theorem rd_zero {c : UInt8} {r : List UInt8} {k n : Nat} (h : k < 9) (hc : c.toNat = 0) (hk : 0 < k) : rd (c :: r) k n = none := by rw [rd, if_pos h, if_pos (by omega), if_pos ⟨hc, hk⟩]
theorem rd_end {c : UInt8} {r : List UInt8} {k n : Nat} (h : k < 9) (hc : c.toNat < 128) (hz : ¬ (c.toNat = 0 ∧ 0 < k)) : rd (c :: r) k n = some (n + c.toNat % 128 * 128 ^ k, k + 1) := by rw [rd, if_pos h, if_pos hc, if_neg hz]

/-- What is packed is read as it was. -/
theorem rd_lebs : ∀ (j m k n : Nat) (r : List UInt8), j + k = 8 → m < 128 ^ (j + 1) → (0 < k → 0 < m) → rd (lebs m ++ r) k n = some (n + m * 128 ^ k, k + (lebs m).length)
  | 0, m, k, n, r, hj, hm, hk => by
    have hm : m < 128 := by simpa using hm
    rw [lebs_low hm]
    have hb : (UInt8.ofNat m).toNat = m := byte_nat (by omega)
    rw [List.singleton_append, rd_end (by omega) (by rw [hb]; exact hm) (by rw [hb]; intro h; have := hk h.2; omega), hb]
    rw [Nat.mod_eq_of_lt hm]
    rfl
  | j + 1, m, k, n, r, hj, hm, hk => by
    by_cases h : m < 128
    · rw [lebs_low h]
      have hb : (UInt8.ofNat m).toNat = m := byte_nat (by omega)
      rw [List.singleton_append, rd_end (by omega) (by rw [hb]; exact h) (by rw [hb]; intro h; have := hk h.2; omega), hb]
      rw [Nat.mod_eq_of_lt h]
      rfl
    · rw [lebs_up h]
      have hb : (UInt8.ofNat (m % 128 + 128)).toNat = m % 128 + 128 := byte_nat (by omega)
      rw [List.cons_append, rd_more (by omega) (by rw [hb]; omega), hb]
      rw [rd_lebs j (m / 128) (k + 1) _ r (by omega) (Nat.div_lt_of_lt_mul (by rw [Nat.mul_comm, ← Nat.pow_succ]; exact hm)) (fun _ => by omega)]
      have e1 : (m % 128 + 128) % 128 = m % 128 := by omega
      rw [e1, Nat.pow_succ, List.length_cons]
      congr 2
      · rw [Nat.add_assoc]
        congr 1
        rw [show m / 128 * (128 ^ k * 128) = (m / 128 * 128) * 128 ^ k by rw [Nat.mul_comm (128 ^ k) 128, Nat.mul_assoc], ← Nat.add_mul]
        congr 1
        omega
      · omega
/-- What is read is the form of what was read. -/
theorem rd_form : ∀ (l : List UInt8) (k n v e : Nat), rd l k n = some (v, e) → ∃ m r, l = lebs m ++ r ∧ v = n + m * 128 ^ k ∧ e = k + (lebs m).length ∧ (0 < k → 0 < m) ∧ k < 9 ∧ m < 128 ^ (9 - k)
  | [], k, n, v, e, h => by rw [rd] at h; cases h
  | c :: r, k, n, v, e, h => by
    by_cases hk : k < 9
    · by_cases hc : c.toNat < 128
      · by_cases hz : c.toNat = 0 ∧ 0 < k
        · rw [rd_zero hk hz.1 hz.2] at h
          cases h
        · rw [rd_end hk hc hz] at h
          simp at h
          obtain ⟨rfl, rfl⟩ := h
          have e0 : UInt8.ofNat c.toNat = c := by simp
          refine ⟨c.toNat, r, by rw [lebs_low hc, e0]; rfl, by rw [Nat.mod_eq_of_lt hc], by rw [lebs_low hc]; rfl, fun h => ?_, hk, ?_⟩
          · exact Nat.pos_of_ne_zero (fun e => hz ⟨e, h⟩)
          · exact Nat.lt_of_lt_of_le hc (Nat.le_self_pow (by omega) 128)
      · rw [rd_more hk hc] at h
        obtain ⟨m, r', e1, e2, e3, h4, h5, h6⟩ := rd_form r (k + 1) _ v e h
        have hm := h4 (by omega)
        have hc2 : c.toNat < 256 := c.toNat_lt
        have hn : ¬ (c.toNat % 128 + m * 128) < 128 := by omega
        have hdiv : (c.toNat % 128 + m * 128) / 128 = m := by omega
        have hmod : (c.toNat % 128 + m * 128) % 128 + 128 = c.toNat := by omega
        have e0 : UInt8.ofNat c.toNat = c := by simp
        refine ⟨c.toNat % 128 + m * 128, r', ?_, ?_, ?_, fun _ => by omega, hk, ?_⟩
        · rw [lebs_up hn, hdiv, hmod, e0, e1]; rfl
        · rw [e2, Nat.pow_succ, Nat.add_mul, Nat.add_assoc]
          congr 2
          rw [Nat.mul_comm (128 ^ k) 128, Nat.mul_assoc]
        · rw [lebs_up hn, hdiv, e3, List.length_cons]; omega
        · have h7 : 9 - k = (9 - (k + 1)) + 1 := by omega
          rw [h7, Nat.pow_succ]
          have : m + 1 ≤ 128 ^ (9 - (k + 1)) := h6
          have := Nat.mul_le_mul_right 128 this
          omega
    · rw [rd_far hk] at h
      cases h

/-- Numbers below 0 and not: every second one. -/
def zig (x : Int) : Nat := if x < 0 then (-2 * x - 1).toNat else (2 * x).toNat
def unzig (v : Nat) : Int := if v % 2 = 1 then 0 - (v / 2 : Nat) - 1 else (v / 2 : Nat)
theorem unzig_zig (x : Int) : unzig (zig x) = x := by
  unfold zig unzig
  split <;> split <;> omega
theorem zig_unzig (v : Nat) : zig (unzig v) = v := by
  unfold zig unzig
  split <;> split <;> omega
def Formed (x : Int) : Prop := -4611686018427387904 ≤ x ∧ x ≤ 4611686018427387903
instance (x : Int) : Decidable (Formed x) := by unfold Formed; infer_instance
theorem zig_lt {x : Int} (h : Formed x) : zig x < 128 ^ 9 := by
  have e : (128 : Nat) ^ 9 = 9223372036854775808 := by decide
  rw [e]
  unfold Formed at h
  unfold zig
  split <;> omega
theorem unzig_formed {v : Nat} (h : v < 128 ^ 9) : Formed (unzig v) := by
  have e : (128 : Nat) ^ 9 = 9223372036854775808 := by decide
  rw [e] at h
  unfold Formed unzig
  split <;> omega
def packX (x : Int) : List UInt8 := if Formed x then lebs (zig x) else []
theorem packX_yes {x : Int} (h : Formed x) : packX x = lebs (zig x) := if_pos h
theorem packX_no {x : Int} (h : ¬ Formed x) : packX x = [] := if_neg h
theorem packX_len (x : Int) : (packX x).length ≤ 9 := by
  unfold packX
  split
  · rename_i h
    exact lebs_len 8 _ (zig_lt h)
  · simp
theorem packX_pos {x : Int} : 0 < (packX x).length ↔ Formed x := by
  unfold packX
  split
  · rename_i h
    exact ⟨fun _ => h, fun _ => lebs_pos _⟩
  · rename_i h
    exact ⟨fun h0 => absurd h0 (by simp), fun h0 => absurd h0 h⟩

/-- What is read of bytes at a place. -/
def unpackX (l : List UInt8) (p : Int) : Int × Int × Bool :=
  if p < 0 ∨ (l.length : Int) ≤ p then (0, 0, false) else match rd (l.drop p.toNat) 0 0 with
    | none => (0, 0, false)
    | some (v, e) => (unzig v, p + (e : Int), true)
theorem unpackX_out {l : List UInt8} {p : Int} (h : p < 0 ∨ (l.length : Int) ≤ p) : unpackX l p = (0, 0, false) := if_pos h
theorem unpackX_none {l : List UInt8} {p : Nat} (h2 : rd (l.drop p) 0 0 = none) : unpackX l p = (0, 0, false) := by
  unfold unpackX
  split
  · rfl
  · rw [show ((p : Int)).toNat = p by omega, h2]
theorem unpackX_some {l : List UInt8} {p : Nat} {v e : Nat} (h : p < l.length) (h2 : rd (l.drop p) 0 0 = some (v, e)) : unpackX l p = (unzig v, ((p + e : Nat) : Int), true) := by
  unfold unpackX
  rw [if_neg (by omega), show ((p : Int)).toNat = p by omega, h2]
  simp
/-- What is packed is read as it was, wherever it stands. -/
theorem unpack_pack {x : Int} (h : Formed x) (l r : List UInt8) : unpackX (l ++ packX x ++ r) (l.length : Nat) = (x, ((l.length + (packX x).length : Nat) : Int), true) := by
  rw [packX_yes h]
  rw [unpackX_some (v := zig x) (e := (lebs (zig x)).length) (by have := lebs_pos (zig x); simp; omega) ?_, unzig_zig]
  rw [List.append_assoc, List.drop_left, rd_lebs 8 (zig x) 0 0 r rfl (zig_lt h) (fun h => absurd h (by omega))]
  simp
/-- What is read is packed as just those bytes. -/
theorem pack_unpack {l : List UInt8} {p : Int} {x q : Int} (h : unpackX l p = (x, q, true)) : ∃ a b : Nat, p = a ∧ q = b ∧ a < b ∧ b ≤ l.length ∧ Formed x ∧ packX x = (l.drop a).take (b - a) := by
  unfold unpackX at h
  split at h
  · simp at h
  · rename_i h0
    split at h
    · simp at h
    · rename_i v e h1
      simp at h
      obtain ⟨rfl, rfl⟩ := h
      obtain ⟨m, r, e1, e2, e3, _, _, h6⟩ := rd_form _ _ _ _ _ h1
      simp at e2 e3 h6
      subst e2 e3
      have hf : Formed (unzig v) := unzig_formed h6
      have hlen := congrArg List.length e1
      rw [List.length_drop, List.length_append] at hlen
      have hp := lebs_pos v
      refine ⟨p.toNat, p.toNat + (lebs v).length, by omega, by omega, by omega, by omega, hf, ?_⟩
      rw [packX_yes hf, zig_unzig, e1, Nat.add_sub_cancel_left, List.take_left]
theorem unpackX_no {l : List UInt8} {p x q : Int} (h : unpackX l p = (x, q, false)) : x = 0 ∧ q = 0 := by
  unfold unpackX at h
  split at h
  · simp at h; exact ⟨h.1.symm, h.2.symm⟩
  · split at h
    · simp at h; exact ⟨h.1.symm, h.2.symm⟩
    · simp at h
end Go.Proofs.Ytgjojajodkagbaa
