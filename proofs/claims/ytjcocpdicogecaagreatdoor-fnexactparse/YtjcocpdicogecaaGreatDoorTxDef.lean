/- Steps as text, as mathematics: names, numerals, lines; a line is that of one step at most. -/
import Derived.Test.YtjcocpdicogecaaGreatDoorMaDef
import Derived.Lib.ItoaLen
import Derived.Lib.AtoiTie
namespace Go.Proofs.YtjcocpdicogecaaGreatDoor
open Go.Lib
set_option linter.unusedVariables false

/-- The name of an op; empty of all others. -/
def opNm : Nat → List UInt8
  | 1 => [115, 101, 116]
  | 2 => [109, 111, 118, 101]
  | 3 => [103, 101, 116]
  | 4 => [112, 117, 116]
  | 5 => [108, 111, 97, 100]
  | 6 => [115, 116, 111, 114, 101]
  | 7 => [111, 117, 116]
  | 8 => [114, 101, 97, 100]
  | 9 => [106, 117, 109, 112]
  | 10 => [122, 101, 114, 111]
  | 11 => [101, 110, 100]
  | 12 => [97, 100, 100]
  | 13 => [115, 117, 98]
  | 14 => [109, 117, 108]
  | 15 => [97, 110, 100]
  | 16 => [111, 114]
  | 17 => [120, 111, 114]
  | 18 => [108, 101, 115, 115]
  | 19 => [115, 97, 109, 101]
  | 20 => [108, 101, 102, 116]
  | 21 => [114, 105, 103, 104, 116]
  | _ => []
def letL (p : Int) : List UInt8 := if p = 1 then [114] else if p = 2 then [115] else []
def piece (p x : Int) : List UInt8 := letL p ++ itoa x
/-- The numbers of a step that its op names, in the order in which they are written, each with what it stands for. -/
def fieldsX (x : InsD) : List (Int × Int) :=
  (if x.op = 4 then [((formV x.op).n, x.n), ((formV x.op).a, x.a)] else [((formV x.op).r, x.d), ((formV x.op).a, x.a), ((formV x.op).b, x.b), ((formV x.op).n, x.n)]).filter (fun q => decide (q.1 ≠ 0))
def tailX (fs : List (Int × Int)) : List UInt8 := fs.flatMap (fun q => 32 :: piece q.1 q.2)
def lineX (x : InsD) : List UInt8 := opNm x.op.toNat ++ tailX (fieldsX x)
def textX (x : InsD) : List UInt8 := if stepOkB x 900 = true then lineX x else []
def printL (l : List InsD) : List UInt8 := if machineOkB l = true then l.flatMap (fun x => textX x ++ [10]) else []

/-! ### Numerals -/

theorem dig_toNat {d : Nat} (h : d < 10) : (UInt8.ofNat (48 + d)).toNat = 48 + d := by
  rw [UInt8.toNat_ofNat']
  omega
theorem decDigits_all (u : Nat) : ∀ c ∈ decDigits u, 48 ≤ c.toNat ∧ c.toNat ≤ 57 := by
  induction u using Nat.strongRecOn with
  | _ u ih =>
    intro c hc
    by_cases h : u < 10
    · rw [decDigits_one h, List.mem_singleton] at hc
      subst hc
      rw [dig_toNat h]
      omega
    · rw [decDigits, dif_neg h, List.mem_append, List.mem_singleton] at hc
      rcases hc with hc | rfl
      · exact ih _ (by omega) c hc
      · rw [dig_toNat (by omega)]; omega
theorem decDigits_ne (u : Nat) : decDigits u ≠ [] := by
  intro h
  have h1 := decDigits_length u
  have h2 := nDigits_pos u
  rw [h] at h1
  simp at h1
  omega
theorem parse_snoc (l : List UInt8) (c : UInt8) : ∀ acc, parseUint10 acc (l ++ [c]) = match parseUint10 acc l with
    | .ok v => parseUint10 v [c]
    | .syntax => .syntax
    | .range => .range := by
  induction l with
  | nil => intro acc; rfl
  | cons b r ih =>
    intro acc
    simp only [List.cons_append, parseUint10]
    by_cases h1 : 48 ≤ b.toNat ∧ b.toNat ≤ 57
    · rw [if_pos h1, if_pos h1]
      by_cases h2 : 1844674407370955162 ≤ acc
      · rw [if_pos h2, if_pos h2]
      · rw [if_neg h2, if_neg h2]
        by_cases h3 : 18446744073709551616 ≤ acc * 10 + (b.toNat - 48)
        · rw [if_pos h3, if_pos h3]
        · rw [if_neg h3, if_neg h3]
          exact ih _
    · rw [if_neg h1, if_neg h1]
theorem parse_digits (u : Nat) (hu : u < 18446744073709551616) : parseUint10 0 (decDigits u) = .ok u := by
  induction u using Nat.strongRecOn with
  | _ u ih =>
    by_cases h : u < 10
    · rw [decDigits_one h]
      simp only [parseUint10]
      rw [dig_toNat h, if_pos (by omega), if_neg (by omega), if_neg (by omega)]
      congr 1
      omega
    · rw [decDigits, dif_neg h, parse_snoc, ih (u / 10) (by omega) (by omega)]
      simp only [parseUint10]
      rw [dig_toNat (by omega), if_pos (by omega), if_neg (by omega), if_neg (by omega)]
      congr 1
      omega
theorem mag_digits (u : Nat) (hu : u < 18446744073709551616) : parseMag (decDigits u) = .ok u := by
  unfold parseMag
  rw [if_neg (decDigits_ne u)]
  exact parse_digits u hu
/-- A numeral is read as it was. -/
theorem atoi_itoa (n : Int) (h0 : -9223372036854775808 ≤ n) (h1 : n ≤ 9223372036854775807) : atoiAll (itoa n) = .ok n := by
  unfold itoa
  by_cases h : n < 0
  · rw [if_pos h, atoiAll_minus, mag_digits _ (by omega)]
    simp only [signed]
    rw [if_neg (by omega)]
    congr 1
    omega
  · rw [if_neg h]
    cases e : decDigits n.toNat with
    | nil => exact absurd e (decDigits_ne _)
    | cons c r =>
      have hc := decDigits_all n.toNat c (by rw [e]; exact List.mem_cons_self)
      rw [atoiAll_plain c r (by omega) (by omega), ← e, mag_digits _ (by omega)]
      simp only [signless]
      rw [if_neg (by omega)]
      congr 1
      omega
theorem itoa_inj {m n : Int} (hm : -9223372036854775808 ≤ m ∧ m ≤ 9223372036854775807) (hn : -9223372036854775808 ≤ n ∧ n ≤ 9223372036854775807) (h : itoa m = itoa n) : m = n := by
  have h1 := atoi_itoa m hm.1 hm.2
  rw [h, atoi_itoa n hn.1 hn.2] at h1
  cases h1
  rfl
theorem itoa_bytes (n : Int) : ∀ c ∈ itoa n, c.toNat = 45 ∨ (48 ≤ c.toNat ∧ c.toNat ≤ 57) := by
  intro c hc
  unfold itoa at hc
  by_cases h : n < 0
  · rw [if_pos h, List.mem_cons] at hc
    rcases hc with rfl | hc
    · exact .inl rfl
    · exact .inr (decDigits_all _ c hc)
  · rw [if_neg h] at hc
    exact .inr (decDigits_all _ c hc)

/-! ### Pieces -/

theorem letL_bytes (p : Int) : ∀ c ∈ letL p, c = 114 ∨ c = 115 := by
  intro c hc
  unfold letL at hc
  split at hc
  · exact .inl (by simpa using hc)
  · split at hc
    · exact .inr (by simpa using hc)
    · cases hc
theorem piece_no (p x : Int) : ∀ c ∈ piece p x, c ≠ 32 ∧ c ≠ 10 := by
  intro c hc
  unfold piece at hc
  rw [List.mem_append] at hc
  rcases hc with hc | hc
  · rcases letL_bytes p c hc with rfl | rfl <;> decide
  · have h := itoa_bytes x c hc
    refine ⟨fun e => ?_, fun e => ?_⟩
    · subst e; revert h; decide
    · subst e; revert h; decide
theorem opNm_no (k : Nat) : ∀ c ∈ opNm k, c ≠ 32 ∧ c ≠ 10 := by
  intro c hc
  unfold opNm at hc
  split at hc <;> simp only [List.mem_cons, List.not_mem_nil, or_false] at hc
  all_goals first | (rcases hc with rfl | rfl | rfl | rfl | rfl <;> decide) | (rcases hc with rfl | rfl | rfl | rfl <;> decide) | (rcases hc with rfl | rfl | rfl <;> decide) | (rcases hc with rfl | rfl <;> decide) | exact absurd hc (by simp)
theorem line_no10 (x : InsD) : ∀ c ∈ lineX x, c ≠ 10 := by
  intro c hc
  unfold lineX tailX at hc
  rw [List.mem_append, List.mem_flatMap] at hc
  rcases hc with hc | ⟨q, _, hc⟩
  · exact (opNm_no _ c hc).2
  · rw [List.mem_cons] at hc
    rcases hc with rfl | hc
    · decide
    · exact (piece_no _ _ c hc).2

/-- A text taken apart at a byte. -/
def spl (s : UInt8) : List UInt8 → List (List UInt8)
  | [] => [[]]
  | b :: r => if b = s then [] :: spl s r else (match spl s r with
    | p :: ps => (b :: p) :: ps
    | [] => [[b]])
theorem spl_ne (s : UInt8) (l : List UInt8) : spl s l ≠ [] := by
  cases l with
  | nil => simp [spl]
  | cons b r =>
    unfold spl
    split
    · simp
    · split <;> simp
theorem spl_plain {s : UInt8} : ∀ {l : List UInt8}, (∀ c ∈ l, c ≠ s) → spl s l = [l]
  | [], _ => rfl
  | b :: r, h => by
    have h1 : b ≠ s := h b List.mem_cons_self
    rw [spl, if_neg h1, spl_plain (fun c hc => h c (List.mem_cons_of_mem _ hc))]
theorem spl_cut {s : UInt8} : ∀ {l : List UInt8} (m : List UInt8), (∀ c ∈ l, c ≠ s) → spl s (l ++ s :: m) = l :: spl s m
  | [], m, _ => by rw [List.nil_append, spl, if_pos rfl]
  | b :: r, m, h => by
    have h1 : b ≠ s := h b List.mem_cons_self
    rw [List.cons_append, spl, if_neg h1, spl_cut m (fun c hc => h c (List.mem_cons_of_mem _ hc))]
theorem spl_tail (fs : List (Int × Int)) : ∀ (l : List UInt8), (∀ c ∈ l, c ≠ 32) → spl 32 (l ++ tailX fs) = l :: fs.map (fun q => piece q.1 q.2) := by
  induction fs with
  | nil =>
    intro l h
    simp only [tailX, List.flatMap_nil, List.append_nil, List.map_nil]
    exact spl_plain h
  | cons q fs ih =>
    intro l h
    have e : tailX (q :: fs) = 32 :: (piece q.1 q.2 ++ tailX fs) := by simp [tailX]
    rw [e, spl_cut _ h, ih _ (fun c hc => (piece_no _ _ c hc).1)]
    rfl
theorem spl_line (x : InsD) : spl 32 (lineX x) = opNm x.op.toNat :: (fieldsX x).map (fun q => piece q.1 q.2) := by
  unfold lineX
  exact spl_tail _ _ (fun c hc => (opNm_no _ c hc).1)

/-! ### Lines are those of one step at most -/

def opOfL (b : List UInt8) : Nat := (((List.range 22).find? (fun k => decide (1 ≤ k) && decide (opNm k = b))).getD 0)
theorem opOfL_nm : ∀ k, 1 ≤ k → k ≤ 21 → opOfL (opNm k) = k := by
  intro k h1 h2
  have h : ∀ j, j < 22 → 1 ≤ j → opOfL (opNm j) = j := by decide +kernel
  exact h k (by omega) h1
theorem opNm_ne : ∀ k, 1 ≤ k → k ≤ 21 → opNm k ≠ [] := by
  intro k h1 h2
  have h : ∀ j, j < 22 → 1 ≤ j → opNm j ≠ [] := by decide +kernel
  exact h k (by omega) h1
theorem piece_inj {p m n : Int} (hm : -9223372036854775808 ≤ m ∧ m ≤ 9223372036854775807) (hn : -9223372036854775808 ≤ n ∧ n ≤ 9223372036854775807) (h : piece p m = piece p n) : m = n :=
  itoa_inj hm hn (List.append_cancel_left h)
end Go.Proofs.YtjcocpdicogecaaGreatDoor
