/- The drawn lists of moves, with numbers. -/
import Derived.Test.YtijihgkhdknkeaaMvDraw
namespace Go.Proofs.Ytijihgkhdknkeaa
open Go.ChangeShapes Go.WideShapes Go.ChangeAt Go.RowKit
set_option linter.unusedVariables false

/-- Moves and numbers, each in memory of its own. -/
def GivesVals (w : World) (e : Ending) (w' : World) : Prop := ∃ lv l vv vals, e = .returned (.tuple #[lv, vv]) ∧ OwnMoves w' w.heap.size lv l ∧ l.length ≤ 26 ∧ lv ≠ .slice none 0 0 ∧ OwnInts w' w.heap.size vv vals ∧ vals.length ≤ 26 ∧ vv ≠ .slice none 0 0 ∧ Below w.heap.size w w'
theorem elem_ints : Try.prog.elem 25 = 3 := by kernel_rfl
theorem slice_headI (g q cap i : Nat) (hi : i ≤ cap) (w : World) : (Instr.sliceAt 25 (.slice (some ⟨g, 0, none⟩) q cap) none (some (.int .i64 (i : Int))) none).run Try.prog w = .ok (.slice (some ⟨g, 0, none⟩) i cap) w := by
  have ht : Try.prog.underlying 25 = some (.slice (Try.prog.elem 25)) := by rw [elem_ints]; exact Try.underlying25
  rw [run_sliceAt_slice _ _ _ _ _ _ ht, run_slice_any _ _ _ _ _ ht]
  have h1 : (0 : Int) ≤ (i : Int) := by omega
  have h2 : (i : Int) ≤ (cap : Int) := by omega
  simp [Instr.sliceBounds, go_sem, h2, Result.andThen]
theorem OwnInts.head {w : World} {lo g n cap : Nat} {l : List Int} (h : OwnInts w lo (.slice (some ⟨g, 0, none⟩) n cap) l) {k : Nat} (hk : k ≤ l.length) : OwnInts w lo (.slice (some ⟨g, 0, none⟩) k cap) (l.take k) := by
  have hl : (l.take k).length = k := by rw [List.length_take]; omega
  rcases h.2 with ⟨h0, _⟩ | ⟨g', cap', cur, h0, hlo, hg, h1, h2, h3, h4⟩
  · cases h0
  · cases h0
    refine ⟨by simp, .inr ⟨g, cap, cur, by rw [hl], hlo, hg, by omega, h2, h3, ?_⟩⟩
    rw [hl, List.map_take, ← h4, List.take_take]
    congr 1
    omega

theorem OwnMoves.under {w w' : World} {lo B : Nat} {v : Value} {l : List ArmD} (h : OwnMoves w lo v l) (hb : Below B w w') (hv : ∀ b, v.ownBlock = some b → b < B) : OwnMoves w' lo v l := by
  obtain ⟨h0, h1⟩ := h
  refine ⟨h0, ?_⟩
  rcases h1 with h1 | ⟨g, cap, cur, rfl, hlo, hg, h2⟩
  · exact .inl h1
  · exact .inr ⟨g, cap, cur, rfl, hlo, (hb.block g (hv g rfl)).trans hg, h2⟩
/-- The numbers so far, beside the moves. -/
def ValsAt (w1 : World) (C B k : Nat) (lv : Value) (l : List ArmD) (wr : World) (s : Value) : Prop := ∃ vals, OwnInts wr B s vals ∧ vals.length = k ∧ s ≠ .slice none 0 0 ∧ OwnMoves wr w1.heap.size lv l ∧ Fr C w1 wr ∧ Cur wr C
theorem ValsAt.fr {w1 wr w' : World} {C B k : Nat} {lv s : Value} {l : List ArmD} (h : ValsAt w1 C B k lv l wr s) (hC : C < w1.heap.size) (hB : C < B) (hf : Fr C wr w') (hc : Cur w' C) : ValsAt w1 C B k lv l w' s := by
  obtain ⟨vals, h1, h2, h3, h4, h5, h6⟩ := h
  exact ⟨vals, h1.frc hf hB, h2, h3, h4.frc hf hC, h5.trans hf, hc⟩

set_option maxRecDepth 100000 in
set_option maxHeartbeats 8000000 in
theorem l9DrawVals_any (a : Option Addr) (len cap : Nat) (zs : List Int) (w : World) (hr : IsRow .u8 w a len cap zs) :
    Calls Try.prog 31 #[.slice a len cap] w fun e w' => GivesVals w e w' := by
  have HR : Hid (IsRow .u8 w a len cap zs) := hr
  clear hr
  obtain ⟨i0, hi, hz0, hz1, hz2⟩ := info_parts info_int
  have hmx : 20000 ≤ maxLen := by decide
  go_enter Try.func31, Try.ntmps31
  go_wp2_with fail
  refine (new_any a len cap zs _ HR.out).mono ?_
  rintro e w1 ⟨rfl, b1, c1, hsz1⟩
  have B1 : Hid (Below w.heap.size w w1) := b1
  have C1 : Hid (Cur w1 w.heap.size) := c1
  obtain ⟨C, HC⟩ : ∃ C, Hid (w.heap.size = C) := ⟨_, rfl⟩
  have hs1 : w1.heap.size = C + 1 := by rw [hsz1, HC.out]
  clear b1 c1 hsz1
  rw [HC.out] at C1 ⊢
  go_wp2_with fail
  refine (l9Draw_any C _ C1.out).mono ?_
  rintro e w2 ⟨lv, n, rfl, hd, hn1, hn26, f2, c2⟩
  obtain ⟨n, rfl⟩ := Int.eq_ofNat_of_zero_le (show 0 ≤ n by omega)
  obtain ⟨l, ho2, hl2, hnn2⟩ := hd
  have HO2 : Hid (OwnMoves w2 w1.heap.size lv l) := ho2
  have HLL : Hid (l.length ≤ 26) := hl2
  have HNN : Hid (lv ≠ .slice none 0 0) := hnn2
  have F2 : Hid (Fr C w1 w2) := f2
  have C2 : Hid (Cur w2 C) := c2
  have hs2 := f2.size
  obtain ⟨la, lcap, rfl⟩ := ho2.form rfl
  clear ho2 hl2 hnn2 f2 c2
  go_wp2_with fail
  have HLT : Hid (∀ b, (Value.slice la l.length lcap).ownBlock = some b → b < w2.heap.size) := fun b hb => (HO2.out.lt b hb).2
  have HV : Hid (ValsAt w1 C w2.heap.size 0 (.slice la l.length lcap) l (w2.alloc (.cells #[] 3)) (.slice (some ⟨w2.heap.size, 0, none⟩) 0 0)) := ⟨[], ownInts_nil rfl (Nat.le_refl _), rfl, by simp, World.ownsRow.alloc HO2.out _, F2.out.alloc _, C2.out.later (Bel.alloc _ _)⟩
  generalize w2.alloc (.cells #[] 3) = w3 at HV ⊢
  generalize hsl : Value.slice (some ⟨w2.heap.size, 0, none⟩) 0 0 = v3 at HV ⊢
  clear hsl
  have hC1 : C < w1.heap.size := by omega
  have hC2 : C < w2.heap.size := by omega
  obtain ⟨ll, HLN⟩ : ∃ q, Hid (l.length = q) := ⟨_, rfl⟩
  rw [HLN.out] at HO2 HNN HLT HV ⊢
  go_loopw [7, 8] (fun s i wr => ∃ k : Nat, k ≤ n ∧ i = .int .i64 k ∧ ValsAt w1 C w2.heap.size k (.slice la ll lcap) l wr s) (fun _ i _ => n - (intOf i).toNat)
  case atStart => exact ⟨0, Nat.zero_le _, rfl, HV.out⟩
  case round =>
    obtain ⟨k, hk, rfl, hv⟩ := hrel
    have HVK : Hid (ValsAt w1 C w2.heap.size k (.slice la ll lcap) l wr u7) := hv
    clear hv
    by_cases hlt : (k : Int) < (n : Int)
    · have h10 : IntKind.i64.wrap (10 * (k : Int)) = 10 * (k : Int) := by simp [IntKind.wrap, IntKind.bits, IntKind.signed]; omega
      go_wp2_with fail
      refine (below_any C 5 _ (by obtain ⟨_, _, _, _, _, _, h⟩ := HVK.out; exact h)).mono ?_
      rintro e w4 ⟨y, rfl, hy0, hy1, _, f4, c4⟩
      have hy5 := hy1 (by omega)
      have HV4 : Hid (ValsAt w1 C w2.heap.size k (.slice la ll lcap) l w4 u7) := HVK.out.fr hC1 hC2 f4 c4
      clear f4 c4 hy1
      obtain ⟨z, HZ⟩ : ∃ z, Hid (10 * (k : Int) + y = z) := ⟨_, rfl⟩
      have hz : 10 * (k : Int) + y = z := HZ.out
      have hzw : IntKind.i64.wrap (10 * (k : Int) + y) = z := by rw [← HZ.out]; simp [IntKind.wrap, IntKind.bits, IntKind.signed]; omega
      obtain ⟨vals, ho, hvl, hnn, hom, hf4, hc4⟩ := HV4.out
      have HO4 : Hid (OwnInts w4 w2.heap.size u7 vals) := ho
      have HM4 : Hid (OwnMoves w4 w1.heap.size (.slice la ll lcap) l) := hom
      have HF4 : Hid (Fr C w1 w4) := hf4
      have HC4 : Hid (Cur w4 C) := hc4
      have HS4 : Hid (w2.heap.size ≤ w4.heap.size) := by
        obtain ⟨g, cp, _, _, _, h1, h2⟩ := ho.open' hnn rfl
        show _ ≤ _
        omega
      have hs4 := HS4.out
      clear ho hom hf4 hc4 hnn
      go_wp2_with (at_builtin; refine wpList_append_own _ rfl _ _ 25 rfl w2.heap.size 3 i0 (.int .i64 0) 1 8 Try.underlying25 hi hz0 hz1 hz2 rfl (by decide) _ vals.length _ rfl (World.ownsRow.alloc HO4.out _) ⟨w4.heap.size, 0, none⟩ 1 1 [.int .i64 z] rfl rfl (by have h := cell_one_new w4 (.int .i64 z) 3; exact h) (by simp [Value.oneCell']) (by omega) (by omega) (by simp; omega) ?_; intro v' wa hown' hgrow hnil; have HO' : Hid (OwnInts wa w2.heap.size v' (vals ++ [z])) := OwnInts.next hown'; have HG : Hid (Below w2.heap.size (w4.alloc (.cells #[.int .i64 z] 3)) wa) := ownsRow_under (World.ownsRow.alloc HO4.out _) (by simp; omega) hgrow; have HN' : Hid (v' ≠ .slice none 0 0) := (fun h => absurd (hnil.1 h).2 (by omega)); clear hown' hgrow hnil)
      go_roundw
      case rel =>
        have hb : Below w2.heap.size w4 wa := ((Below.refl w2.heap.size w4).alloc hs4 _).trans HG.out
        exact ⟨k + 1, by omega, by go_num, _, HO'.out, by simp; omega, HN'.out, HM4.out.under hb HLT.out, HF4.out.newer (hb.mono (by omega)), HC4.out.below hC2 hb⟩
      case measure => simp [intOf]; omega
    · have hkn : k = n := by omega
      subst hkn
      go_wp2_with fail
      refine (once_any C 9 _ (by obtain ⟨_, _, _, _, _, _, h⟩ := HVK.out; exact h)).mono ?_
      rintro e w5 ⟨q, rfl, f5, c5⟩
      have HV5 : Hid (ValsAt w1 C w2.heap.size k (.slice la ll lcap) l w5 u7) := HVK.out.fr hC1 hC2 f5 c5
      clear f5 c5
      cases q with
      | false =>
        obtain ⟨vals, ho, hvl, hnn, hom, hf5, hc5⟩ := HV5.out
        have HFIN : Hid (OwnMoves w5 w.heap.size (.slice la ll lcap) l ∧ OwnInts w5 w.heap.size u7 vals ∧ vals.length ≤ 26 ∧ u7 ≠ .slice none 0 0 ∧ Below w.heap.size w w5) := ⟨hom.low (by have := HC.out; omega), ho.low (by have := HC.out; omega), by omega, hnn, B1.out.trans (hf5.below (by have := HC.out; omega) (by have := HC.out; omega))⟩
        clear ho hom hnn hf5 hc5
        go_wp2_with fail
        go_ret2
        exact ⟨_, l, _, vals, rfl, HFIN.out.1, HLL.out, HNN.out, HFIN.out.2.1, HFIN.out.2.2.1, HFIN.out.2.2.2.1, HFIN.out.2.2.2.2⟩
      | true =>
        have hk1 : IntKind.i64.wrap ((k : Int) + 1) = (k : Int) + 1 := by simp [IntKind.wrap, IntKind.bits, IntKind.signed]; omega
        go_wp2_with fail
        refine (below_any C ((k : Int) + 1) _ (by obtain ⟨_, _, _, _, _, _, h⟩ := HV5.out; exact h)).mono ?_
        rintro e w6 ⟨y, rfl, hy0, hy1, _, f6, c6⟩
        have hyk := hy1 (by omega)
        obtain ⟨y, rfl⟩ := Int.eq_ofNat_of_zero_le hy0
        have HV6 : Hid (ValsAt w1 C w2.heap.size k (.slice la ll lcap) l w6 u7) := HV5.out.fr hC1 hC2 f6 c6
        clear f6 c6 hy1
        obtain ⟨vals, ho, hvl, hnn, hom, hf5, hc5⟩ := HV6.out
        obtain ⟨g, gcap, rfl, hgc, hgm, hg1, hg2⟩ := ho.open' hnn hvl
        have HFIN : Hid (OwnMoves w6 w.heap.size (.slice la ll lcap) l ∧ OwnInts w6 w.heap.size (.slice (some ⟨g, 0, none⟩) y gcap) (vals.take y) ∧ (vals.take y).length ≤ 26 ∧ Below w.heap.size w w6) := ⟨hom.low (by have := HC.out; omega), (ho.head (by omega)).low (by have := HC.out; omega), by rw [List.length_take]; omega, B1.out.trans (hf5.below (by have := HC.out; omega) (by have := HC.out; omega))⟩
        clear ho hom hnn hf5 hc5
        have hhd := slice_headI g k gcap y (by omega)
        go_wp2_with fail
        go_ret2
        exact ⟨_, l, _, _, rfl, HFIN.out.1, HLL.out, HNN.out, HFIN.out.2.1, HFIN.out.2.2.1, by simp, HFIN.out.2.2.2⟩

set_option maxHeartbeats 2000000 in
theorem drawMovesDo_any (a : Option Addr) (len cap : Nat) (zs : List Int) (w : World) (hr : IsRow .u8 w a len cap zs) :
    Calls Try.prog 10 #[.slice a len cap] w fun e w' => GivesVals w e w' := by
  go_enter Try.func10, Try.ntmps10
  go_wp2_with fail
  refine (l9DrawVals_any a len cap zs _ hr).mono ?_
  rintro e w1 ⟨lv, l, vv, vals, rfl, h⟩
  have HH : Hid (OwnMoves w1 w.heap.size lv l ∧ l.length ≤ 26 ∧ lv ≠ .slice none 0 0 ∧ OwnInts w1 w.heap.size vv vals ∧ vals.length ≤ 26 ∧ vv ≠ .slice none 0 0 ∧ Below w.heap.size w w1) := h
  clear h
  go_wp2_with fail
  go_ret2
  exact ⟨lv, l, vv, vals, rfl, HH.out⟩

set_option maxHeartbeats 2000000 in
theorem drawMovesEach_any (a : Option Addr) (len cap : Nat) (zs : List Int) (w : World) (hr : IsRow .u8 w a len cap zs) :
    Calls Try.prog 19 #[.slice a len cap] w fun e w' => GivesVals w e w' := by
  go_enter Try.func19, Try.ntmps19
  go_wp2_with fail
  refine (l9DrawVals_any a len cap zs _ hr).mono ?_
  rintro e w1 ⟨lv, l, vv, vals, rfl, h⟩
  have HH : Hid (OwnMoves w1 w.heap.size lv l ∧ l.length ≤ 26 ∧ lv ≠ .slice none 0 0 ∧ OwnInts w1 w.heap.size vv vals ∧ vals.length ≤ 26 ∧ vv ≠ .slice none 0 0 ∧ Below w.heap.size w w1) := h
  clear h
  go_wp2_with fail
  go_ret2
  exact ⟨lv, l, vv, vals, rfl, HH.out⟩
end Go.Proofs.Ytijihgkhdknkeaa
