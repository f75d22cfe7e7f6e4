/- Proved: for every slice of bytes the law FnShifts returns true (a drawn word shifted left by so many is it doubled so often; shifted right it is as it was but for what fell out) and its argument reads afterwards as before. No condition. -/
import Derived.Test.YtopjmmkkdabjpaaWordLaws
import Derived.WalkKit
import Derived.ProofKit
import Derived.OpenShut
import Derived.ShutString
import Derived.ChangeOld
import Derived.Below
namespace Go.Proofs.Ytopjmmkkdabjpaa.fnShifts
open Go.ChangeShapes Go.WideShapes Go.ChangeAt Go.RowKit
open Go.ChangeMaps (open_string shut_string)
set_option linter.unusedVariables false

theorem own : ownKnob Try.prog.godebug = none := by kernel_rfl
theorem laidOut : laidOutB Try.prog = true := by kernel_rfl

/-- a, doubled k times, in 64 bits. -/
def shl (a : Int) (k : Nat) : Int := wrap64 (a * 2 ^ k)
theorem shl_zero (a : Int) (h : I64 a) : shl a 0 = a := by
  unfold I64 at h
  unfold shl
  rw [wrap_form]
  simp only [Int.pow_zero, Int.mul_one]
  omega
theorem shl_succ (a : Int) (k : Nat) : wordV 1 (shl a k) (shl a k) = shl a (k + 1) := by
  unfold shl
  rw [wordV_1, Int.pow_succ, ← Int.mul_assoc]
  generalize a * 2 ^ k = X
  rw [wrap_form, wrap_form, wrap_form]
  omega
theorem shl_word (a b : Int) (n : Nat) (hn : (b % 64).toNat = n) : shl a n = wordV 9 a b := by rw [wordV_9, hn]; rfl

theorem low_facts (a b : Int) (n : Nat) (hn : (b % 64).toNat = n) (ha : I64 a) :
    0 ≤ wordV 2 a (wordV 9 (wordV 10 a b) b) ∧ wordV 2 a (wordV 9 (wordV 10 a b) b) < 2 ^ n ∧ (wordV 10 a b < 0 ↔ a < 0) := by
  unfold I64 at ha
  have hn63 : n ≤ 63 := by omega
  rw [wordV_10, wordV_9, wordV_2, hn]
  have hp : (0 : Int) < 2 ^ n := Int.pow_pos (by decide)
  have hle : (2 : Int) ^ n ≤ 9223372036854775808 := by
    have e : (9223372036854775808 : Int) = 2 ^ 63 := by decide
    rw [e]
    exact_mod_cast Nat.pow_le_pow_right (show 0 < 2 by omega) hn63
  have hdvd : ∃ q : Int, (9223372036854775808 : Int) = q * 2 ^ n := by
    refine ⟨2 ^ (63 - n), ?_⟩
    rw [← Int.pow_add, show 63 - n + n = 63 by omega]
    decide
  obtain ⟨q, hq⟩ := hdvd
  generalize (2 : Int) ^ n = P at *
  have h1 := Int.mul_ediv_add_emod a P
  have h2 := Int.emod_nonneg a (show P ≠ 0 by omega)
  have h3 := Int.emod_lt_of_pos a hp
  have hmin : -9223372036854775808 ≤ a / P * P := by
    have : -q ≤ a / P := by
      apply Int.le_ediv_of_mul_le hp
      rw [Int.neg_mul, ← hq]
      omega
    have := Int.mul_le_mul_of_nonneg_right this (show 0 ≤ P by omega)
    rw [Int.neg_mul, ← hq] at this
    exact this
  rw [Int.mul_comm] at h1
  have hneg : a / P < 0 ↔ a < 0 := by
    constructor
    · intro h
      by_cases hc : a < 0
      · exact hc
      · have := Int.ediv_nonneg (show 0 ≤ a by omega) (show 0 ≤ P by omega)
        omega
    · intro h
      exact Int.ediv_neg_of_neg_of_pos h hp
  generalize a / P * P = M at *
  generalize a % P = R at *
  rw [wrap_form, wrap_form]
  refine ⟨by omega, by omega, hneg⟩

/-! ### STEP 1: THE WALK: the Go text returns true, AND WRITES NOTHING THAT WAS THERE: 'Below w.heap.size w w'' (Derived/Below.lean: '.refl', '.alloc', '.drew', '.setCell' at a new block, '.trans'). Open each 'IsRow' by 'rcases' AHEAD of 'go_enter'; part every test ahead of the walk. -/
theorem walk (a0 : Option Addr) (len0 cap0 : Nat) (z0 : List Int) (w : World) (w0 : IsRow .u8 w a0 len0 cap0 z0) :
    Calls Try.prog 4 #[.slice a0 len0 cap0] w fun e w' => e = .returned (.bool true) ∧ Below w.heap.size w w' := by
  by_cases hbig : (1048576 : Int) < (len0 : Int)
  · go_enter Try.func4, Try.ntmps4
    go_wp2_with fail
    refine (big_any _ _ _ _).mono ?_
    rintro e w1 ⟨rfl, rfl⟩
    have hd : decide ((1048576 : Int) < (len0 : Int)) = true := decide_eq_true hbig
    go_wp2
    go_ret
    exact ⟨rfl, Below.refl _ _⟩
  · go_enter Try.func4, Try.ntmps4
    go_wp2_with fail
    refine (big_any _ _ _ _).mono ?_
    rintro e w1 ⟨rfl, rfl⟩
    have hd : decide ((1048576 : Int) < (len0 : Int)) = false := decide_eq_false (by omega)
    go_wp2_with fail
    refine (drawword_any a0 len0 cap0 z0 _ w0).mono ?_
    rintro e w2 ⟨op, a, b, rfl, ho1, ho2, hA, hB, hb2⟩
    clear w0 hd hbig ho1 ho2
    obtain ⟨n, hn⟩ : ∃ n : Nat, (b % 64).toNat = n := ⟨_, rfl⟩
    have hn63 : n ≤ 63 := by omega
    have hand : bits .and .i64 b 63 = (n : Int) := by rw [and63]; omega
    have hlow := low_facts a b n hn hA
    have HX : Hid (shl a n = wordV 9 a b) := shl_word a b n hn
    have H0 : Hid (shl a 0 = a) := shl_zero a hA
    have HS : Hid (∀ k, wordV 1 (shl a k) (shl a k) = shl a (k + 1)) := fun k => shl_succ a k
    obtain ⟨hl0, hl1, hl2⟩ := hlow
    have HL1 : Hid (wordV 2 a (wordV 9 (wordV 10 a b) b) < 2 ^ n) := hl1
    have HL2 : Hid (wordV 10 a b < 0 ↔ a < 0) := hl2
    clear hA hB hn hl1 hl2
    go_wp2_with fail
    go_loopw [7, 8] (fun x i w' => ∃ k : Nat, k ≤ n ∧ i = .int .i64 k ∧ x = .int .i64 (shl a k) ∧ Below w1.heap.size w1 w') (fun _ i _ => n - (intOf i).toNat)
    case atStart => exact ⟨0, Nat.zero_le _, rfl, by rw [H0.out], hb2⟩
    case round =>
      clear hb2
      obtain ⟨k, hk, rfl, rfl, hb3⟩ := hrel
      by_cases hlt : (k : Int) < (n : Int)
      · go_wp2_with fail
        refine (impl_word _ _ _ _).mono ?_
        rintro e w4 ⟨rfl, hq⟩
        have hb4 := bel_then hb3 hq.2
        clear hq hb3
        go_wp2
        go_roundw
        case rel => exact ⟨k + 1, by omega, by go_num, by rw [HS.out k], hb4⟩
        case measure => simp [intOf]; omega
      · have hkn : k = n := by omega
        subst hkn
        have hne9 : (shl a k != wordV 9 a b) = false := by rw [HX.out]; simp
        have hne10 : (wordV 10 a b != wordV 10 a b) = false := by simp
        clear hk hlt HX H0 HS
        go_wp2_with fail
        refine (impl_word 10 a b _).mono ?_
        rintro e w4 ⟨rfl, hq⟩
        have hb4 := bel_then hb3 hq.2
        clear hq hb3
        go_wp2_with fail
        refine (impl_word 9 a b _).mono ?_
        rintro e w5 ⟨rfl, hq⟩
        have hb5 := bel_then hb4 hq.2
        clear hq hb4
        go_wp2_with fail
        refine (spec_word 10 a b _).mono ?_
        rintro e w6 ⟨rfl, hw6⟩
        subst hw6
        go_wp2_with fail
        refine (impl_word 9 (wordV 10 a b) b _).mono ?_
        rintro e w7 ⟨rfl, hq⟩
        have hb6 := bel_then hb5 hq.2
        clear hq hb5
        go_wp2_with fail
        refine (impl_word 2 a (wordV 9 (wordV 10 a b) b) _).mono ?_
        rintro e w8 ⟨rfl, hq⟩
        have hb7 := bel_then hb6 hq.2
        clear hq hb6
        have HL0 : Hid (0 ≤ wordV 2 a (wordV 9 (wordV 10 a b) b)) := hl0
        generalize wordV 2 a (wordV 9 (wordV 10 a b) b) = low at *
        generalize wordV 10 a b = y at *
        have hsign : (decide (y < 0) == decide (a < 0)) = true := by
          have := HL2.out
          by_cases h : a < 0
          · simp [h, this.2 h]
          · have h' : ¬ y < 0 := fun c => h (this.1 c)
            simp [h, h']
        by_cases h63 : k = 63
        · subst h63
          go_wp2
          go_ret
          exact ⟨rfl, hb7⟩
        · have hne : ((k : Int) == 63) = false := by simp; omega
          have hpow : low < wrap64 (2 ^ k) := by
            have h62 : k ≤ 62 := by omega
            have hle : (2 : Int) ^ k ≤ 4611686018427387904 := by
              have e : (4611686018427387904 : Int) = 2 ^ 62 := by decide
              rw [e]
              exact_mod_cast Nat.pow_le_pow_right (show 0 < 2 by omega) h62
            have hp : (0 : Int) < 2 ^ k := Int.pow_pos (by decide)
            have := HL1.out
            rw [wrap_form]
            generalize (2 : Int) ^ k = P at *
            omega
          go_wp2
          go_ret
          exact ⟨rfl, hb7⟩

/-! ### THE ROW's STEP: WRITTEN OUT: LEAVE IT -/
set_option maxRecDepth 100000 in
theorem lifted (os : Os) (started : os.Started) (H : Type) (enc : TypeId × Value → H) :
    ReturnsInHanded {} Try.checked os 4 .any (Rows.fnShiftsSpec.pre6 enc Try.prog Try.f4 Rows.fnShiftsRow.domain false) (Rows.fnShiftsSpec.post enc Try.prog Try.f4 false true false false) := by
  refine returnsInHanded_of_change (C := Try.checked) own started (by kernel_rfl) Try.func4
    (ChangeSpec.witness6 (enc := enc) (C := Try.checked) false ⟨#[], #[.slice none 0 0], []⟩ 8 (by kernel_rfl) (by kernel_rfl) (by kernel_rfl) (by kernel_rfl)) ?_
  intro W base args ds gs before hval0 hW hcnd _
  have hval : ∀ (j : Nat) t v, Try.f4.params[j]? = some t → args[j]? = some v → Value.okWide Try.prog W .any base t v := hval0
  have hW' := hW
  obtain ⟨p, q, hA0, hV, rfl, hfz, hnd⟩ := hW
  have hA : DataW.TrodAll enc Try.prog W 0 (fun _ => true) true Try.f4.params.toList args.toList ds p := hA0
  rw [Try.params4] at hA hval
  obtain ⟨v0, vs0, d0, ds0, p0, q0, hargs, rfl, rfl, h0, r0⟩ := trodAll_cons hA
  obtain ⟨rfl, rfl, rfl⟩ := trodAll_nil r0
  obtain rfl : args = #[v0] := by cases args; simp_all
  obtain ⟨rfl, rfl⟩ := trodVars_none hV
  obtain ⟨a0, len0, cap0, rfl⟩ := okWide_slice Try.underlying22 (hval 0 22 v0 rfl rfl)
  have k0 := h0
  have lt0 : ∀ x ∈ p0, x.block < W.heap.size := by obtain ⟨m, hm⟩ := k0; exact DataW.trod_lt m _ _ _ hm
  obtain ⟨z0, w0⟩ : ∃ zs, IsRow .u8 W a0 len0 cap0 zs := by
    obtain ⟨fuel, hf⟩ := h0
    rcases open_ints Try.underlying22 Try.underlying5 (by kernel_rfl) hf with ⟨hcs, _⟩ | ⟨x, l, c, zs, hcs, _, hl, hm, hz, _, hcell, hwz⟩
    · simp [Value.cells] at hcs
      obtain ⟨rfl, rfl, rfl⟩ := hcs
      exact ⟨[], .inl ⟨rfl, rfl, rfl, rfl⟩⟩
    · simp [Value.cells] at hcs
      obtain ⟨rfl, rfl, rfl⟩ := hcs
      exact ⟨zs, .inr ⟨_, rfl, hl, hm, by simpa using hz, hcell, hwz⟩⟩
  clear hA0 hval0
  refine (walk a0 len0 cap0 z0 W w0).mono fun e W' ⟨he, bel⟩ => ?_
  subst he
  exact ⟨_, rfl, _, _, _, [], _, [], hW', trodAll_mk1 (shut_bool Try.underlying4 _), (trodAll_cons_mk (Below.trod laidOut (by kernel_rfl) (of_decide_eq_true (by kernel_rfl)) k0 bel lt0) trodAll_mk0), rfl, bel.frame _, fun h => by cases h⟩

theorem over : Rows.fnShiftsRow.holds Try.pinned (OpenSpec.ofChange Rows.fnShiftsSpec) :=
  OpenClaim.holds_of_wide 4 Try.f4 rfl rfl rfl rfl rfl rfl rfl ⟨rfl, rfl, rfl, rfl, rfl⟩ rfl rfl rfl rfl rfl (by kernel_rfl) Try.func4 (by kernel_rfl)
    (of_decide_eq_true (by kernel_rfl)) (by unfold Func.isWrapper; first | (rw [if_pos (by decide +kernel)]; kernel_rfl) | (rw [if_neg (by decide +kernel)]; exact ⟨rfl, rfl⟩))
    (fun os started H enc _ => lifted os started H enc)

/-- ████ THE STATEMENT ████ -/
theorem proved : Rows.FnShiftsSaid := over
#print axioms proved
end Go.Proofs.Ytopjmmkkdabjpaa.fnShifts
