/- Proved: for every slice of bytes the law FnWords returns true (sums, differences, bits, products and comparisons of drawn words go together as arithmetic of 64 bits does) and its argument reads afterwards as before. No condition. -/
import Derived.Test.YtopjmmkkdabjpaaWordLaws
import Derived.WalkKit
import Derived.ProofKit
import Derived.OpenShut
import Derived.ShutString
import Derived.ChangeOld
import Derived.Below
namespace Go.Proofs.Ytopjmmkkdabjpaa.fnWords
open Go.ChangeShapes Go.WideShapes Go.ChangeAt Go.RowKit
open Go.ChangeMaps (open_string shut_string)
set_option linter.unusedVariables false

theorem own : ownKnob Try.prog.godebug = none := by kernel_rfl
theorem laidOut : laidOutB Try.prog = true := by kernel_rfl

/-! ### STEP 1: THE WALK: the Go text returns true, AND WRITES NOTHING THAT WAS THERE: 'Below w.heap.size w w'' (Derived/Below.lean: '.refl', '.alloc', '.drew', '.setCell' at a new block, '.trans'). Open each 'IsRow' by 'rcases' AHEAD of 'go_enter'; part every test ahead of the walk. -/
theorem walk (a0 : Option Addr) (len0 cap0 : Nat) (z0 : List Int) (w : World) (w0 : IsRow .u8 w a0 len0 cap0 z0) :
    Calls Try.prog 3 #[.slice a0 len0 cap0] w fun e w' => e = .returned (.bool true) ∧ Below w.heap.size w w' := by
  by_cases hbig : (1048576 : Int) < (len0 : Int)
  · go_enter Try.func3, Try.ntmps3
    go_wp2_with fail
    refine (big_any _ _ _ _).mono ?_
    rintro e w1 ⟨rfl, rfl⟩
    have hd : decide ((1048576 : Int) < (len0 : Int)) = true := decide_eq_true hbig
    go_wp2
    go_ret
    exact ⟨rfl, Below.refl _ _⟩
  · go_enter Try.func3, Try.ntmps3
    go_wp2_with fail
    refine (big_any _ _ _ _).mono ?_
    rintro e w1 ⟨rfl, rfl⟩
    have hd : decide ((1048576 : Int) < (len0 : Int)) = false := decide_eq_false (by omega)
    go_wp2_with fail
    refine (drawword_any a0 len0 cap0 z0 _ w0).mono ?_
    rintro e w2 ⟨op, a, b, rfl, ho1, ho2, hA, hB, hb2⟩
    clear w0 hd hbig ho1 ho2
    go_wp2_with fail
    refine (impl_word op a b _).mono ?_
    rintro e w3 ⟨rfl, hq⟩
    have hb3 := bel_then hb2 hq.2
    clear hq hb2
    go_wp2_with fail
    refine (spec_word op a b _).mono ?_
    rintro e w4 ⟨rfl, rfl⟩
    have hne : (wordV op a b != wordV op a b) = false := by simp
    go_wp2_with fail
    refine (implok_any op _).mono ?_
    rintro e w5 ⟨rfl, rfl⟩
    go_wp2_with fail
    refine (specok_any op _).mono ?_
    rintro e w6 ⟨rfl, rfl⟩
    have hne2 : (okB op != okB op) = false := by simp
    go_wp2_with fail
    refine (specok_any op _).mono ?_
    rintro e w7 ⟨rfl, rfl⟩
    have hsub : (wordV 2 (wordV 1 a b) b != a) = false := by rw [law_sub a b hA]; simp
    have hbit : (wordV 2 (wordV 5 a b) (wordV 4 a b) != wordV 6 a b) = false := by rw [law_bits a b]; simp
    have hmul : (wordV 3 a b == wordV 3 b a) = true := by rw [law_mul a b]; simp
    have hless := law_less a b
    have l1 := less_01 a b
    have l2 := less_01 b a
    have l3 := same_01 a b
    have HL : Hid (wordV 7 a b + wordV 7 b a + wordV 8 a b = 1) := hless
    clear hless hA hB
    rcases ok_or op a b with hok | ⟨hok, hz⟩
    · go_wp2_with fail
      refine (impl_word 1 a b _).mono ?_
      rintro e w4 ⟨rfl, hq⟩
      have hb4 := bel_then hb3 hq.2
      clear hq hb3
      go_wp2_with fail
      refine (impl_word 2 (wordV 1 a b) b _).mono ?_
      rintro e w5 ⟨rfl, hq⟩
      have hb5 := bel_then hb4 hq.2
      clear hq hb4
      go_wp2_with fail
      refine (impl_word 5 a b _).mono ?_
      rintro e w6 ⟨rfl, hq⟩
      have hb6 := bel_then hb5 hq.2
      clear hq hb5
      go_wp2_with fail
      refine (impl_word 4 a b _).mono ?_
      rintro e w7 ⟨rfl, hq⟩
      have hb7 := bel_then hb6 hq.2
      clear hq hb6
      go_wp2_with fail
      refine (impl_word 2 (wordV 5 a b) (wordV 4 a b) _).mono ?_
      rintro e w8 ⟨rfl, hq⟩
      have hb8 := bel_then hb7 hq.2
      clear hq hb7
      go_wp2_with fail
      refine (impl_word 6 a b _).mono ?_
      rintro e w9 ⟨rfl, hq⟩
      have hb9 := bel_then hb8 hq.2
      clear hq hb8
      go_wp2_with fail
      refine (impl_word 7 a b _).mono ?_
      rintro e w10 ⟨rfl, hq⟩
      have hb10 := bel_then hb9 hq.2
      clear hq hb9
      go_wp2_with fail
      refine (impl_word 7 b a _).mono ?_
      rintro e w11 ⟨rfl, hq⟩
      have hb11 := bel_then hb10 hq.2
      clear hq hb10
      go_wp2_with fail
      refine (impl_word 8 a b _).mono ?_
      rintro e w12 ⟨rfl, hq⟩
      have hb12 := bel_then hb11 hq.2
      clear hq hb11
      have hone : (wordV 7 a b + wordV 7 b a + wordV 8 a b == 1) = true := by rw [HL.out]; rfl
      go_wp2_with fail
      refine (impl_word 3 a b _).mono ?_
      rintro e w13 ⟨rfl, hq⟩
      have hb13 := bel_then hb12 hq.2
      clear hq hb12
      go_wp2_with fail
      refine (impl_word 3 b a _).mono ?_
      rintro e w14 ⟨rfl, hq⟩
      have hb14 := bel_then hb13 hq.2
      clear hq hb13
      go_wp2
      go_ret
      exact ⟨rfl, hb14⟩
    · go_wp2_with fail
      refine (impl_word 1 a b _).mono ?_
      rintro e w4 ⟨rfl, hq⟩
      have hb4 := bel_then hb3 hq.2
      clear hq hb3
      go_wp2_with fail
      refine (impl_word 2 (wordV 1 a b) b _).mono ?_
      rintro e w5 ⟨rfl, hq⟩
      have hb5 := bel_then hb4 hq.2
      clear hq hb4
      go_wp2_with fail
      refine (impl_word 5 a b _).mono ?_
      rintro e w6 ⟨rfl, hq⟩
      have hb6 := bel_then hb5 hq.2
      clear hq hb5
      go_wp2_with fail
      refine (impl_word 4 a b _).mono ?_
      rintro e w7 ⟨rfl, hq⟩
      have hb7 := bel_then hb6 hq.2
      clear hq hb6
      go_wp2_with fail
      refine (impl_word 2 (wordV 5 a b) (wordV 4 a b) _).mono ?_
      rintro e w8 ⟨rfl, hq⟩
      have hb8 := bel_then hb7 hq.2
      clear hq hb7
      go_wp2_with fail
      refine (impl_word 6 a b _).mono ?_
      rintro e w9 ⟨rfl, hq⟩
      have hb9 := bel_then hb8 hq.2
      clear hq hb8
      go_wp2_with fail
      refine (impl_word 7 a b _).mono ?_
      rintro e w10 ⟨rfl, hq⟩
      have hb10 := bel_then hb9 hq.2
      clear hq hb9
      go_wp2_with fail
      refine (impl_word 7 b a _).mono ?_
      rintro e w11 ⟨rfl, hq⟩
      have hb11 := bel_then hb10 hq.2
      clear hq hb10
      go_wp2_with fail
      refine (impl_word 8 a b _).mono ?_
      rintro e w12 ⟨rfl, hq⟩
      have hb12 := bel_then hb11 hq.2
      clear hq hb11
      have hone : (wordV 7 a b + wordV 7 b a + wordV 8 a b == 1) = true := by rw [HL.out]; rfl
      go_wp2_with fail
      refine (impl_word 3 a b _).mono ?_
      rintro e w13 ⟨rfl, hq⟩
      have hb13 := bel_then hb12 hq.2
      clear hq hb12
      go_wp2_with fail
      refine (impl_word 3 b a _).mono ?_
      rintro e w14 ⟨rfl, hq⟩
      have hb14 := bel_then hb13 hq.2
      clear hq hb13
      go_wp2
      go_ret
      exact ⟨rfl, hb14⟩

/-! ### THE ROW's STEP: WRITTEN OUT: LEAVE IT -/
set_option maxRecDepth 100000 in
theorem lifted (os : Os) (started : os.Started) (H : Type) (enc : TypeId × Value → H) :
    ReturnsInHanded {} Try.checked os 3 .any (Rows.fnWordsSpec.pre6 enc Try.prog Try.f3 Rows.fnWordsRow.domain false) (Rows.fnWordsSpec.post enc Try.prog Try.f3 false true false false) := by
  refine returnsInHanded_of_change (C := Try.checked) own started (by kernel_rfl) Try.func3
    (ChangeSpec.witness6 (enc := enc) (C := Try.checked) false ⟨#[], #[.slice none 0 0], []⟩ 8 (by kernel_rfl) (by kernel_rfl) (by kernel_rfl) (by kernel_rfl)) ?_
  intro W base args ds gs before hval0 hW hcnd _
  have hval : ∀ (j : Nat) t v, Try.f3.params[j]? = some t → args[j]? = some v → Value.okWide Try.prog W .any base t v := hval0
  have hW' := hW
  obtain ⟨p, q, hA0, hV, rfl, hfz, hnd⟩ := hW
  have hA : DataW.TrodAll enc Try.prog W 0 (fun _ => true) true Try.f3.params.toList args.toList ds p := hA0
  rw [Try.params3] at hA hval
  obtain ⟨v0, vs0, d0, ds0, p0, q0, hargs, rfl, rfl, h0, r0⟩ := trodAll_cons hA
  obtain ⟨rfl, rfl, rfl⟩ := trodAll_nil r0
  obtain rfl : args = #[v0] := by cases args; simp_all
  obtain ⟨rfl, rfl⟩ := trodVars_none hV
  obtain ⟨a0, len0, cap0, rfl⟩ := okWide_slice Try.underlying22 (hval 0 22 v0 rfl rfl)
  have k0 := h0
  have lt0 : ∀ x ∈ p0, x.block < W.heap.size := by obtain ⟨m, hm⟩ := k0; exact DataW.trod_lt m _ _ _ hm
  obtain ⟨z0, w0⟩ : ∃ zs, IsRow .u8 W a0 len0 cap0 zs := by
    obtain ⟨fuel, hf⟩ := h0
    rcases open_ints Try.underlying22 Try.underlying5 (by kernel_rfl) hf with ⟨hcs, _⟩ | ⟨x, l, c, zs, hcs, _, hl, hm, hz, _, hcell, hwz⟩
    · simp [Value.cells] at hcs
      obtain ⟨rfl, rfl, rfl⟩ := hcs
      exact ⟨[], .inl ⟨rfl, rfl, rfl, rfl⟩⟩
    · simp [Value.cells] at hcs
      obtain ⟨rfl, rfl, rfl⟩ := hcs
      exact ⟨zs, .inr ⟨_, rfl, hl, hm, by simpa using hz, hcell, hwz⟩⟩
  clear hA0 hval0
  refine (walk a0 len0 cap0 z0 W w0).mono fun e W' ⟨he, bel⟩ => ?_
  subst he
  exact ⟨_, rfl, _, _, _, [], _, [], hW', trodAll_mk1 (shut_bool Try.underlying4 _), (trodAll_cons_mk (Below.trod laidOut (by kernel_rfl) (of_decide_eq_true (by kernel_rfl)) k0 bel lt0) trodAll_mk0), rfl, bel.frame _, fun h => by cases h⟩

theorem over : Rows.fnWordsRow.holds Try.pinned (OpenSpec.ofChange Rows.fnWordsSpec) :=
  OpenClaim.holds_of_wide 3 Try.f3 rfl rfl rfl rfl rfl rfl rfl ⟨rfl, rfl, rfl, rfl, rfl⟩ rfl rfl rfl rfl rfl (by kernel_rfl) Try.func3 (by kernel_rfl)
    (of_decide_eq_true (by kernel_rfl)) (by unfold Func.isWrapper; first | (rw [if_pos (by decide +kernel)]; kernel_rfl) | (rw [if_neg (by decide +kernel)]; exact ⟨rfl, rfl⟩))
    (fun os started H enc _ => lifted os started H enc)

/-- ████ THE STATEMENT ████ -/
theorem proved : Rows.FnWordsSaid := over
#print axioms proved
end Go.Proofs.Ytopjmmkkdabjpaa.fnWords
