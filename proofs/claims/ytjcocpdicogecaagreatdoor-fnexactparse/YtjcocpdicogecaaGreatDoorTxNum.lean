/- Numerals read digit by digit; words of a line; what words say. -/
import Derived.Test.YtjcocpdicogecaaGreatDoorTxPar
namespace Go.Proofs.YtjcocpdicogecaaGreatDoor
open Go.Lib
set_option linter.unusedVariables false

def R64 (x : Int) : Prop := -9223372036854775808 ≤ x ∧ x ≤ 9223372036854775807
def wrapW (n : Int) : Int := (n + 9223372036854775808) % 18446744073709551616 - 9223372036854775808
theorem wrapW_in {n : Int} (h : R64 n) : wrapW n = n := by unfold wrapW R64 at *; omega
theorem wrapW_r (n : Int) : R64 (wrapW n) := by unfold wrapW R64; omega
/-- A digit more. -/
def digW (neg : Bool) (x d : Int) : Int := if neg then wrapW (wrapW (10 * x) - d) else wrapW (wrapW (10 * x) + d)
def foldW (neg : Bool) (l : List UInt8) : Int := l.foldl (fun x c => digW neg x ((c.toNat : Int) - 48)) 0
theorem foldW_snoc (neg : Bool) (l : List UInt8) (c : UInt8) : foldW neg (l ++ [c]) = digW neg (foldW neg l) ((c.toNat : Int) - 48) := by simp [foldW]
theorem foldW_r (neg : Bool) (l : List UInt8) : R64 (foldW neg l) := by
  rcases List.eq_nil_or_concat l with rfl | ⟨m, c, rfl⟩
  · unfold foldW R64; simp
  · rw [List.concat_eq_append, foldW_snoc]
    unfold digW
    split <;> exact wrapW_r _
theorem foldW_pos (u : Nat) (hu : u ≤ 9223372036854775807) : foldW false (decDigits u) = (u : Int) := by
  induction u using Nat.strongRecOn with
  | _ u ih =>
    by_cases h : u < 10
    · rw [decDigits_one h]
      have h9 := dig_toNat h
      simp only [foldW, List.foldl, digW, h9]
      simp only [wrapW, Bool.false_eq_true, if_false]
      omega
    · rw [decDigits, dif_neg h, foldW_snoc, ih (u / 10) (by omega) (by omega), dig_toNat (by omega)]
      simp only [digW, wrapW]
      simp only [Bool.false_eq_true, if_false]
      omega
theorem foldW_neg (u : Nat) (hu : u ≤ 9223372036854775808) : foldW true (decDigits u) = -(u : Int) := by
  induction u using Nat.strongRecOn with
  | _ u ih =>
    by_cases h : u < 10
    · rw [decDigits_one h]
      have h9 := dig_toNat h
      simp only [foldW, List.foldl, digW, h9]
      simp only [wrapW, if_true]
      omega
    · rw [decDigits, dif_neg h, foldW_snoc, ih (u / 10) (by omega) (by omega), dig_toNat (by omega)]
      simp only [digW, wrapW, if_true]
      omega
theorem nDigits_le : ∀ (k u : Nat), u < 10 ^ (k + 1) → nDigits u ≤ k + 1
  | 0, u, h => by rw [nDigits_small (by simpa using h)]; omega
  | k + 1, u, h => by
    by_cases h9 : u < 10
    · rw [nDigits_small h9]; omega
    · rw [nDigits_big h9]
      have := nDigits_le k (u / 10) (by rw [Nat.pow_succ] at h; omega)
      omega
theorem decDigits_len19 {u : Nat} (h : u ≤ 9223372036854775808) : (decDigits u).length ≤ 19 := by
  rw [decDigits_length]
  exact nDigits_le 18 u (by have : (10 : Nat) ^ 19 = 10000000000000000000 := by decide
                            omega)

/-- A numeral's parts: its sign, its digits. -/
structure NumParts (l : List UInt8) (neg : Bool) (st : Nat) (x : Int) : Prop where
  sign : neg = (decide (1 < l.length) && decide (l[0]? = some 45))
  start : st = if neg then 1 else 0
  size : l.length - st ≤ 19 ∧ st < l.length
  digits : ∀ c ∈ l.drop st, 48 ≤ c.toNat ∧ c.toNat ≤ 57
  value : foldW neg (l.drop st) = x
theorem num_parts {x : Int} (hx : R64 x) : ∃ neg st, NumParts (itoa x) neg st x := by
  unfold R64 at hx
  by_cases h : x < 0
  · refine ⟨true, 1, ?_⟩
    have e : itoa x = 45 :: decDigits x.natAbs := by unfold itoa; rw [if_pos h]
    have h1 := decDigits_len19 (u := x.natAbs) (by omega)
    have h2 := decDigits_ne x.natAbs
    have h3 : 0 < (decDigits x.natAbs).length := (List.length_pos_iff.2 h2)
    rw [e]
    refine ⟨by simp; omega, rfl, by simp; omega, fun c hc => decDigits_all _ c (by simpa using hc), ?_⟩
    show foldW true (decDigits x.natAbs) = x
    rw [foldW_neg _ (by omega)]
    omega
  · refine ⟨false, 0, ?_⟩
    have e : itoa x = decDigits x.toNat := by unfold itoa; rw [if_neg h]
    have h1 := decDigits_len19 (u := x.toNat) (by omega)
    have h2 := decDigits_ne x.toNat
    have h3 : 0 < (decDigits x.toNat).length := (List.length_pos_iff.2 h2)
    rw [e]
    refine ⟨?_, rfl, by simp; omega, fun c hc => decDigits_all _ c (by simpa using hc), ?_⟩
    · cases h9 : decDigits x.toNat with
      | nil => exact absurd h9 h2
      | cons c r =>
        have hc := decDigits_all x.toNat c (by rw [h9]; exact List.mem_cons_self)
        have : c ≠ 45 := fun e9 => by subst e9; revert hc; decide
        simp [this]
    · show foldW false (decDigits x.toNat) = x
      rw [foldW_pos _ (by omega)]
      omega

/-- What words say: registers in their order, and a number. -/
inductive WordsTo : List (List UInt8) → List Int → Int → Prop where
  | none : WordsTo [] [] 0
  | reg {ws : List (List UInt8)} {rs : List Int} {n x : Int} (h : WordsTo ws rs n) (hx : R64 x) : WordsTo (ws ++ [114 :: itoa x]) (rs ++ [x]) n
  | slot {ws : List (List UInt8)} {rs : List Int} {n x : Int} (h : WordsTo ws rs n) (hx : R64 x) : WordsTo (ws ++ [115 :: itoa x]) rs x
  | num {ws : List (List UInt8)} {rs : List Int} {n x : Int} (h : WordsTo ws rs n) (hx : R64 x) : WordsTo (ws ++ [itoa x]) rs x
theorem itoa_head {x : Int} {c : UInt8} {l : List UInt8} (h : itoa x = c :: l) : c ≠ 114 ∧ c ≠ 115 := by
  have h9 := itoa_bytes x c (by rw [h]; exact List.mem_cons_self)
  constructor
  · intro e; subst e; revert h9; decide
  · intro e; subst e; revert h9; decide
/-- What the numbers that an op names say. -/
def regsF : List (Int × Int) → List Int
  | [] => []
  | q :: l => if q.1 = 1 then q.2 :: regsF l else regsF l
def numF : List (Int × Int) → Int → Int
  | [], n => n
  | q :: l, n => if q.1 = 1 then numF l n else numF l q.2
theorem regsF_snoc (l : List (Int × Int)) (q : Int × Int) : regsF (l ++ [q]) = regsF l ++ (if q.1 = 1 then [q.2] else []) := by
  induction l with
  | nil => simp [regsF]
  | cons p l ih => simp only [List.cons_append, regsF]; split <;> simp [ih]
theorem numF_snoc (l : List (Int × Int)) (q : Int × Int) : ∀ n, numF (l ++ [q]) n = if q.1 = 1 then numF l n else q.2 := by
  induction l with
  | nil => intro n; simp [numF]
  | cons p l ih => intro n; simp only [List.cons_append, numF]; split <;> simp [ih]
theorem wordsTo_fields (fs : List (Int × Int)) (hr : ∀ q ∈ fs, R64 q.2) : ∀ {ws rs n}, WordsTo ws rs n → ws = fs.map (fun q => piece q.1 q.2) → rs = regsF fs ∧ n = numF fs 0 := by
  induction hk : fs.length generalizing fs with
  | zero =>
    intro ws rs n h e
    have : fs = [] := List.eq_nil_of_length_eq_zero hk
    subst this
    cases h with
    | none => exact ⟨rfl, rfl⟩
    | reg h hx => simp at e
    | slot h hx => simp at e
    | num h hx => simp at e
  | succ k ih =>
    intro ws rs n h e
    rcases List.eq_nil_or_concat fs with rfl | ⟨l, q, rfl⟩
    · simp at hk
    rw [List.concat_eq_append] at hk e hr ⊢
    have hl : l.length = k := by simpa using hk
    have hrl : ∀ p ∈ l, R64 p.2 := fun p hp => hr p (by simp [hp])
    have hrq : R64 q.2 := hr q (by simp)
    rw [List.map_append, List.map_singleton] at e
    rw [regsF_snoc, numF_snoc]
    cases h with
    | none => simp at e
    | reg h hx =>
      obtain ⟨e1, e2⟩ := List.append_inj' e rfl
      have e3 := List.cons.inj e2 |>.1
      obtain ⟨i1, i2⟩ := ih l hrl hl h e1
      unfold piece letL at e3
      by_cases h1 : q.1 = 1
      · rw [if_pos h1] at e3
        simp at e3
        rw [if_pos h1, if_pos h1, itoa_inj hx hrq e3, i1, ← i2]
        exact ⟨rfl, rfl⟩
      · rw [if_neg h1] at e3
        by_cases h2 : q.1 = 2
        · rw [if_pos h2] at e3; simp at e3
        · rw [if_neg h2] at e3; exact absurd rfl (itoa_head (by simpa using e3.symm)).1
    | slot h hx =>
      obtain ⟨e1, e2⟩ := List.append_inj' e rfl
      have e3 : (115 : UInt8) :: itoa n = piece q.1 q.2 := by simpa using e2
      obtain ⟨i1, i2⟩ := ih l hrl hl h e1
      unfold piece letL at e3
      by_cases h1 : q.1 = 1
      · rw [if_pos h1] at e3; simp at e3
      · rw [if_neg h1] at e3
        by_cases h2 : q.1 = 2
        · rw [if_pos h2] at e3
          simp at e3
          rw [if_neg h1, if_neg h1, itoa_inj hx hrq e3, i1]
          exact ⟨by simp, rfl⟩
        · rw [if_neg h2] at e3; exact absurd rfl (itoa_head (by simpa using e3.symm)).2
    | num h hx =>
      obtain ⟨e1, e2⟩ := List.append_inj' e rfl
      have e3 : itoa n = piece q.1 q.2 := by simpa using e2
      obtain ⟨i1, i2⟩ := ih l hrl hl h e1
      unfold piece letL at e3
      by_cases h1 : q.1 = 1
      · rw [if_pos h1] at e3; exact absurd rfl (itoa_head (by simpa using e3)).1
      · rw [if_neg h1] at e3
        by_cases h2 : q.1 = 2
        · rw [if_pos h2] at e3; exact absurd rfl (itoa_head (by simpa using e3)).2
        · rw [if_neg h2] at e3
          simp at e3
          rw [if_neg h1, if_neg h1, itoa_inj hx hrq e3, i1]
          exact ⟨by simp, rfl⟩
end Go.Proofs.YtjcocpdicogecaaGreatDoor
