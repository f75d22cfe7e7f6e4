/- What the laws on bytes draw: numbers, and bytes with a place in them. -/
import Derived.Test.YtgjojajodkagbaaEqB
import Derived.Test.YtgjojajodkagbaaPkNum
import Derived.Test.YtgjojajodkagbaaDrawInsC
import Derived.Laws.IdiomStrings
namespace Go.Proofs.Ytgjojajodkagbaa
open Go.ChangeShapes Go.WideShapes Go.ChangeAt Go.RowKit
set_option linter.unusedVariables false

theorem IsRow.afterB {k : IntKind} {w w' : World} {a : Option Addr} {len cap : Nat} {zs : List Int} (h : IsRow k w a len cap zs) (hb : Below w.heap.size w w') : IsRow k w' a len cap zs := by
  rcases h with h | ⟨x, h1, h2, h3, h4, h5, h6⟩
  · exact .inl h
  · exact .inr ⟨x, h1, h2, h3, h4, fun i hi => Bel.keeps hb (h5 i hi), h6⟩
/-- A text of so many bytes. -/
def bs (l : List UInt8) : ByteArray := ⟨l.toArray⟩
theorem conv_bytes (v : Value) (l : List UInt8) (w : World) (h : BytesAt w v l) : (convert 22 9 v).run Try.prog w = .ok (.string (bs l)) w := by
  obtain ⟨a, cap, rfl, _, hc⟩ := h
  by_cases hp : 0 < l.length
  · obtain ⟨_, b, off, rfl, hd⟩ := hc hp
    exact run_convert_bytes_back (P := Try.prog) w 22 9 5 ⟨b, off, none⟩ cap l Try.underlying22 Try.underlying5 Try.underlying9 (fun j hj => by
      rw [addr_add, hd j hj, List.getD, List.getElem?_eq_getElem hj]
      rfl)
  · have h0 : l = [] := List.eq_nil_of_length_eq_zero (by omega)
    subst h0
    cases a with
    | some x => exact run_convert_bytes_back (P := Try.prog) w 22 9 5 x cap [] Try.underlying22 Try.underlying5 Try.underlying9 (fun j hj => absurd hj (by simp))
    | none =>
      show (convert 22 9 (.slice none 0 cap)).run Try.prog w = _
      rw [run_convert_bytes_string (P := Try.prog) w 22 9 5 none 0 cap Try.underlying22 Try.underlying5 Try.underlying9]
      rfl
theorem BytesAt.sub {w : World} {b off n cap : Nat} {l : List UInt8} (h : BytesAt w (.slice (some ⟨b, off, none⟩) n cap) l) {i j : Nat} (hij : i ≤ j) (hj : j ≤ n) (hnc : n ≤ cap) : BytesAt w (.slice (some ⟨b, off + i, none⟩) (j - i) (cap - i)) ((l.drop i).take (j - i)) := by
  obtain ⟨a, c, e, hm, hc⟩ := h
  simp at e
  obtain ⟨e1, rfl, rfl⟩ := e
  have hl : ((l.drop i).take (j - i)).length = j - i := by simp; omega
  refine ⟨some ⟨b, off + i, none⟩, cap - i, by rw [hl], by rw [hl]; omega, fun hp => ?_⟩
  rw [hl] at hp
  obtain ⟨hcap, b', off', e2, hd⟩ := hc (by omega)
  rw [← e1] at e2
  simp at e2
  obtain ⟨rfl, rfl⟩ := e2
  refine ⟨by rw [hl]; omega, b, off + i, rfl, fun k hk => ?_⟩
  rw [hl] at hk
  have h9 := hd (i + k) (by omega)
  rw [Nat.add_assoc, h9, List.getD, List.getD, List.getElem?_take, if_pos hk, List.getElem?_drop]
theorem OwnB.drew {w w' : World} {lo C : Nat} {v : Value} {l : List UInt8} (h : OwnB w lo v l) (hf : Fr C w w') (hC : C < lo) : OwnB w' lo v l := by
  obtain ⟨h0, h1⟩ := h
  refine ⟨h0, ?_⟩
  rcases h1 with h1 | ⟨g, cap, cur, rfl, hlo, hg, h2⟩
  · exact .inl h1
  · exact .inr ⟨g, cap, cur, rfl, hlo, (hf.block g (Array.getElem?_eq_some_iff.1 hg).1 (by omega)).trans hg, h2⟩
/-- Bytes that were just built. -/
theorem ownB_built (w : World) (lo n : Nat) (l : List UInt8) (c : Array Value) (hc : c = (Lib.byteCells l).toArray) (hn : l.length = n) (hm : n ≤ 1000) (hlo : lo ≤ w.heap.size) : OwnB (w.alloc (.cells c 5)) lo (.slice (some ⟨w.heap.size, 0, none⟩) n n) l := by
  subst hc
  have hmx : n ≤ maxLen := by
    have : 1000 ≤ maxLen := by decide
    omega
  refine ⟨by rw [Lib.byteCells_length, Nat.mul_one], .inr ⟨w.heap.size, n, (Lib.byteCells l).toArray, by rw [hn], hlo, World.alloc_heap_new w _, by omega, hmx, by simp [Lib.byteCells_length, hn], ?_⟩⟩
  rw [Nat.mul_one, ← Lib.byteCells_length l]
  exact List.take_length
theorem big_anyB (a : Option Addr) (len cap : Nat) (w : World) : Calls Try.prog 7 #[.slice a len cap] w fun e w' => ∃ b : Bool, e = .returned (.bool b) ∧ w' = w := by
  go_enter Try.func7, Try.ntmps7
  go_wp2
  go_ret
  exact ⟨_, rfl, rfl⟩

def Num64 (z : Int) : Prop := -9223372036854775808 ≤ z ∧ z ≤ 9223372036854775807
set_option maxHeartbeats 2000000 in
theorem drawNumB_any (C : Nat) (w : World) (hc : Cur w C) :
    Calls Try.prog 27 #[.pointer (some ⟨C, 0, none⟩)] w fun e w' => ∃ z : Int, e = .returned (.int .i64 z) ∧ Num64 z ∧ Fr C w w' ∧ Cur w' C := by
  have HC : Hid (Cur w C) := hc
  clear hc
  go_enter Try.func27, Try.ntmps27
  go_wp2_with fail
  refine (once_any C 8 _ HC.out).mono ?_
  rintro e w1 ⟨b, rfl, hf1, hc1⟩
  have F1 : Hid (Fr C w w1) := hf1
  have C1 : Hid (Cur w1 C) := hc1
  have hl1 : C < w1.heap.size := hc1.lt
  clear hf1 hc1
  cases b with
  | true =>
    go_wp2_with fail
    refine (pickint_any C w1.heap.size [9223372036854775807, -9223372036854775808, 4294967296, -1, 63, 64, 1000000007] 7 _ (C1.out.later (Bel.alloc _ _)) (by omega) rfl (by omega) (by omega) ?_).mono ?_
    · intro j hj
      have h7 : j = 0 ∨ j = 1 ∨ j = 2 ∨ j = 3 ∨ j = 4 ∨ j = 5 ∨ j = 6 := by omega
      rcases h7 with rfl | rfl | rfl | rfl | rfl | rfl | rfl <;> simp
    · rintro e w2 ⟨x, rfl, hx, hf, hc⟩
      have F2 : Hid (Fr C w w2) := F1.out.trans ((Fr.ofBelow (Bel.alloc _ _)).trans hf)
      have C2 : Hid (Cur w2 C) := hc
      have HX : Hid (Num64 x) := by
        simp at hx
        rcases hx with rfl | rfl | rfl | rfl | rfl | rfl | rfl <;> exact ⟨by omega, by omega⟩
      clear hf hc hx
      go_wp2_with fail
      go_ret
      exact ⟨_, rfl, HX.out, F2.out, C2.out⟩
  | false =>
    go_wp2_with fail
    refine (below_any C 20 _ C1.out).mono ?_
    rintro e w2 ⟨x, rfl, hx0, hx1, _, hf, hc⟩
    have F2 : Hid (Fr C w w2) := F1.out.trans hf
    have C2 : Hid (Cur w2 C) := hc
    replace hx1 : x < 20 := hx1 (by omega)
    clear hf hc
    go_wp2_with fail
    go_ret
    exact ⟨_, rfl, ⟨by omega, by omega⟩, F2.out, C2.out⟩

set_option maxHeartbeats 2000000 in
theorem drawPackNum_any (a : Option Addr) (len cap : Nat) (zs : List Int) (w : World) (hr : IsRow .u8 w a len cap zs) :
    Calls Try.prog 8 #[.slice a len cap] w fun e w' => ∃ z : Int, e = .returned (.int .i64 z) ∧ Num64 z ∧ Below w.heap.size w w' := by
  go_enter Try.func8, Try.ntmps8
  go_wp2_with fail
  refine (new_any a len cap zs _ hr).mono ?_
  rintro e w0 ⟨rfl, b0, c0, s0⟩
  obtain ⟨C, HC⟩ : ∃ C, Hid (w.heap.size = C) := ⟨_, rfl⟩
  have B0 : Hid (Below w.heap.size w w0) := b0
  rw [HC.out] at c0 s0 ⊢
  have C0 : Hid (Cur w0 C) := c0
  clear c0 b0 hr
  go_wp2_with fail
  refine (once_any C 4 _ C0.out).mono ?_
  rintro e w1 ⟨b, rfl, hf1, hc1⟩
  have B1 : Hid (Below w.heap.size w w1) := B0.out.trans (hf1.below (by rw [HC.out]; exact Nat.le_refl _) (by rw [HC.out]; omega))
  have C1 : Hid (Cur w1 C) := hc1
  have hl1 : C < w1.heap.size := hc1.lt
  clear hf1 hc1
  cases b with
  | true =>
    go_wp2_with fail
    refine (pickint_any C w1.heap.size [4611686018427387903, 4611686018427387904, -4611686018427387904, -4611686018427387905, 63, 64, -64, -65] 8 _ (C1.out.later (Bel.alloc _ _)) (by omega) rfl (by omega) (by omega) ?_).mono ?_
    · intro j hj
      have h7 : j = 0 ∨ j = 1 ∨ j = 2 ∨ j = 3 ∨ j = 4 ∨ j = 5 ∨ j = 6 ∨ j = 7 := by omega
      rcases h7 with rfl | rfl | rfl | rfl | rfl | rfl | rfl | rfl <;> simp
    · rintro e w2 ⟨x, rfl, hx, hf, hc⟩
      have B2 : Hid (Below w.heap.size w w2) := B1.out.trans (((Fr.ofBelow (Bel.alloc w1 _)).trans hf).below (by rw [HC.out]; exact Nat.le_refl _) (by rw [HC.out]; omega))
      have HX : Hid (Num64 x) := by
        simp at hx
        rcases hx with rfl | rfl | rfl | rfl | rfl | rfl | rfl | rfl <;> exact ⟨by omega, by omega⟩
      clear hf hc hx
      go_wp2_with fail
      go_ret
      exact ⟨_, rfl, HX.out, B2.out⟩
  | false =>
    go_wp2_with fail
    refine (drawNumB_any C _ C1.out).mono ?_
    rintro e w2 ⟨x, rfl, hx, hf, hc⟩
    have B2 : Hid (Below w.heap.size w w2) := B1.out.trans (hf.below (by rw [HC.out]; exact Nat.le_refl _) (by rw [HC.out]; omega))
    have HX : Hid (Num64 x) := hx
    clear hf hc hx
    go_wp2_with fail
    go_ret
    exact ⟨_, rfl, HX.out, B2.out⟩

/-- Bytes and a place. -/
def GivesRaw (w : World) (e : Ending) (w' : World) : Prop := ∃ (v : Value) (l : List UInt8) (k : Int), e = .returned (.tuple #[v, .int .i64 k]) ∧ OwnB w' w.heap.size v l ∧ l.length ≤ 100 ∧ Num64 k ∧ Below w.heap.size w w'
/-- The state while bytes are drawn. -/
structure RawSt (w : World) (C : Nat) (wr : World) (v : Value) (l : List UInt8) : Prop where
  bel : Below w.heap.size w wr
  cur : Cur wr C
  own : OwnB wr (C + 1) v l
  le : C + 1 ≤ wr.heap.size
  eq : w.heap.size = C
theorem RawSt.draw {w wr wr' : World} {C : Nat} {v : Value} {l : List UInt8} (h : RawSt w C wr v l) (hf : Fr C wr wr') (hc : Cur wr' C) : RawSt w C wr' v l :=
  ⟨h.bel.trans (hf.below (by rw [h.eq]; exact Nat.le_refl _) (by rw [h.eq]; have := h.le; omega)), hc, h.own.drew hf (by omega), Nat.le_trans h.le hf.size, h.eq⟩
theorem RawSt.keep {w wr wr' : World} {C : Nat} {v : Value} {l : List UInt8} (h : RawSt w C wr v l) (hb : Below wr.heap.size wr wr') : RawSt w C wr' v l :=
  ⟨Bel.after h.bel hb, h.cur.later hb, h.own.keep hb, Nat.le_trans h.le hb.size, h.eq⟩
set_option maxRecDepth 100000 in
set_option maxHeartbeats 4000000 in
theorem drawUnpackNum_any (a : Option Addr) (len cap : Nat) (zs : List Int) (w : World) (hr : IsRow .u8 w a len cap zs) :
    Calls Try.prog 12 #[.slice a len cap] w fun e w' => GivesRaw w e w' := by
  go_enter Try.func12, Try.ntmps12
  go_wp2_with fail
  refine (new_any a len cap zs _ hr).mono ?_
  rintro e w0 ⟨rfl, b0, c0, s0⟩
  obtain ⟨C, HC⟩ : ∃ C, Hid (w.heap.size = C) := ⟨_, rfl⟩
  rw [HC.out] at c0 s0 ⊢
  have S0 : Hid (RawSt w C w0 (.slice none 0 0) []) := ⟨b0, c0, OwnB.nil _ _, by omega, HC.out⟩
  clear c0 b0 hr s0
  go_wp2_with fail
  refine (below_any C 300 _ S0.out.cur).mono ?_
  rintro e w1 ⟨x, rfl, hx0, hx1, _, hf, hc⟩
  have S1 : Hid (RawSt w C w1 (.slice none 0 0) []) := S0.out.draw hf hc
  replace hx1 : x < 300 := hx1 (by omega)
  clear hf hc S0
  go_wp2_with fail
  refine (spec_packNum (x - 100) _ (by omega)).mono ?_
  rintro e w2 ⟨v1, rfl, o1, b1⟩
  obtain ⟨l1, HL1⟩ : ∃ l, Hid (packX (x - 100) = l) := ⟨_, rfl⟩
  have h1 : l1.length ≤ 9 := by rw [← HL1.out]; exact packX_len _
  rw [HL1.out] at o1
  have S2 : Hid (RawSt w C w2 v1 l1) := ⟨Bel.after S1.out.bel b1, S1.out.cur.later b1, o1.low S1.out.le, Nat.le_trans S1.out.le b1.size, HC.out⟩
  clear o1 b1 S1 HL1
  go_wp2_with fail
  refine (drawNumB_any C _ S2.out.cur).mono ?_
  rintro e w3 ⟨z, rfl, hz, hf, hc⟩
  have S3 : Hid (RawSt w C w3 v1 l1) := S2.out.draw hf hc
  have HZ : Hid (Num64 z) := hz
  clear hf hc S2 hz
  go_wp2_with fail
  refine (spec_packNum z _ HZ.out).mono ?_
  rintro e w4 ⟨v2, rfl, o2, b2⟩
  obtain ⟨l2, HL2⟩ : ∃ l, Hid (packX z = l) := ⟨_, rfl⟩
  have h2 : l2.length ≤ 9 := by rw [← HL2.out]; exact packX_len _
  rw [HL2.out] at o2
  have S4 : Hid (RawSt w C w4 v1 l1) := S3.out.keep b2
  obtain ⟨v5, w5, hrun, o5, b5, s5, k5⟩ := add_bytes (C + 1) w3.heap.size v1 v2 l1 l2 w4 S4.out.own o2 S4.out.le (by omega)
  obtain ⟨l, HL⟩ : ∃ l, Hid (l1 ++ l2 = l) := ⟨_, rfl⟩
  have hl : l.length ≤ 18 := by rw [← HL.out, List.length_append]; omega
  rw [HL.out] at o5
  have S5 : Hid (RawSt w C w5 v5 l) := ⟨S4.out.bel.trans (b5.mono (by rw [HC.out]; omega)), S4.out.cur.below (Nat.lt_succ_self C) b5, o5, Nat.le_trans S4.out.le s5, HC.out⟩
  clear o2 b2 S3 S4 o5 b5 s5 k5 HL HL2 h1 h2
  go_wp2_with (at_builtin; refine wpList_appendR rfl _ _ 22 rfl rfl rfl hrun ?_)
  clear hrun
  refine (once_any C 4 _ S5.out.cur).mono ?_
  rintro e w6 ⟨q, rfl, hf, hc⟩
  have S6 : Hid (RawSt w C w6 v5 l) := S5.out.draw hf hc
  clear hf hc S5
  cases q with
  | true =>
    go_wp2_with fail
    refine (byte_any C _ S6.out.cur).mono ?_
    rintro e w7 ⟨y, rfl, hy0, hy1, hf, hc⟩
    have S7 : Hid (RawSt w C w7 v5 l) := S6.out.draw hf hc
    clear hf hc S6
    have ho := ownB_built w7 (C + 1) 3 [128, 128, UInt8.ofNat y.toNat] #[.int .u8 128, .int .u8 128, .int .u8 y] (by simp [Lib.byteCells]; omega) rfl (by omega) S7.out.le
    have S8 := S7.out.keep (Bel.alloc w7 (.cells #[.int .u8 128, .int .u8 128, .int .u8 y] 5))
    obtain ⟨v9, w9, hrun, o9, b9, s9, k9⟩ := add_bytes (C + 1) (C + 1) v5 _ l _ _ S8.own ho S8.le (by simp; omega)
    obtain ⟨m, HM⟩ : ∃ m, Hid (l ++ [128, 128, UInt8.ofNat y.toNat] = m) := ⟨_, rfl⟩
    have hm : m.length ≤ 60 := by rw [← HM.out, List.length_append]; simp; omega
    rw [HM.out] at o9
    have S9 : Hid (RawSt w C w9 v9 m) := ⟨S8.bel.trans (b9.mono (by rw [HC.out]; omega)), S8.cur.below (Nat.lt_succ_self C) b9, o9, Nat.le_trans S8.le s9, HC.out⟩
    clear S7 S8 o9 b9 s9 k9 ho HM hl
    go_wp2_with (at_builtin; refine wpList_appendR rfl _ _ 22 rfl rfl rfl hrun ?_)
    clear hrun
    refine (once_any C 12 _ S9.out.cur).mono ?_
    rintro e wa ⟨q, rfl, hf, hc⟩
    have SA : Hid (RawSt w C wa v9 m) := S9.out.draw hf hc
    clear hf hc S9
    cases q with
    | true =>
      have hsa := SA.out.le
      go_wp2_with fail
      refine (pickint_any C wa.heap.size [127, 255, 0, 1] 4 _ (SA.out.cur.later (Bel.alloc _ _)) (by omega) rfl (by omega) (by omega) ?_).mono ?_
      · intro j hj
        have h7 : j = 0 ∨ j = 1 ∨ j = 2 ∨ j = 3 := by omega
        rcases h7 with rfl | rfl | rfl | rfl <;> simp
      · rintro e wb ⟨x2, rfl, hx2, hf, hc⟩
        have SB : Hid (RawSt w C wb v9 m) := (SA.out.keep (Bel.alloc wa _)).draw hf hc
        have hxx : 0 ≤ x2 ∧ x2 ≤ 255 := by
          simp at hx2
          rcases hx2 with rfl | rfl | rfl | rfl <;> omega
        obtain ⟨hx3, hx4⟩ := hxx
        clear hf hc SA hx2
        have ho := ownB_built wb (C + 1) 10 [255, 255, 255, 255, 255, 255, 255, 255, UInt8.ofNat x2.toNat, 1] #[.int .u8 255, .int .u8 255, .int .u8 255, .int .u8 255, .int .u8 255, .int .u8 255, .int .u8 255, .int .u8 255, .int .u8 x2, .int .u8 1] (by simp [Lib.byteCells]; omega) rfl (by omega) SB.out.le
        have SC : Hid (RawSt w C (wb.alloc (.cells #[.int .u8 255, .int .u8 255, .int .u8 255, .int .u8 255, .int .u8 255, .int .u8 255, .int .u8 255, .int .u8 255, .int .u8 x2, .int .u8 1] 5)) (.slice (some ⟨wb.heap.size, 0, none⟩) 10 10) [255, 255, 255, 255, 255, 255, 255, 255, UInt8.ofNat x2.toNat, 1]) := ⟨Bel.after SB.out.bel (Bel.alloc _ _), SB.out.cur.later (Bel.alloc _ _), ho, Nat.le_trans SB.out.le (Bel.alloc wb _).size, HC.out⟩
        clear ho SB
        go_wp2_with fail
        refine (below_any C (11) _ SC.out.cur).mono ?_
        rintro e wc ⟨k1, rfl, hk0, hk1, _, hf, hc⟩
        have SD : Hid (RawSt w C wc (.slice (some ⟨wb.heap.size, 0, none⟩) 10 10) ([255, 255, 255, 255, 255, 255, 255, 255, UInt8.ofNat x2.toNat, 1])) := SC.out.draw hf hc
        replace hk1 : k1 < (11) := hk1 (by omega)
        clear hf hc SC
        go_wp2_with fail
        refine (below_any C 20 _ SD.out.cur).mono ?_
        rintro e wd ⟨k2, rfl, hk2, hk3, _, hf, hc⟩
        have SE : Hid (RawSt w C wd (.slice (some ⟨wb.heap.size, 0, none⟩) 10 10) ([255, 255, 255, 255, 255, 255, 255, 255, UInt8.ofNat x2.toNat, 1])) := SD.out.draw hf hc
        replace hk3 : k2 < 20 := hk3 (by omega)
        have hq0 : 0 ≤ Int.tdiv k2 19 := by rw [Int.tdiv_eq_ediv_of_nonneg hk2]; omega
        have hq1 : Int.tdiv k2 19 ≤ 1 := by rw [Int.tdiv_eq_ediv_of_nonneg hk2]; omega
        clear hf hc SD
        go_wp2_with fail
        refine bodyPost_ret (v := .tuple #[(.slice (some ⟨wb.heap.size, 0, none⟩) 10 10), .int .i64 (k1 - Int.tdiv k2 19)]) (by simp [results, Try.results12, go_sem]) rfl ?_
        exact ⟨_, [255, 255, 255, 255, 255, 255, 255, 255, UInt8.ofNat x2.toNat, 1], _, rfl, SE.out.own.low (by rw [SE.out.eq]; omega), by first | (simp; done) | (have := HLN.out; omega), ⟨by omega, by omega⟩, SE.out.bel⟩
    | false =>
      obtain ⟨ln, HLN⟩ : ∃ n, Hid ((m).length = n) := ⟨_, rfl⟩
      obtain ⟨la, lc, e9⟩ := SA.out.own.form HLN.out
      subst e9
      rw [HLN.out] at hm
      have hn1 : (0 : Int) ≤ (ln : Int) := by omega
      have hn2 : (ln : Int) ≤ 60 := by omega
      go_wp2_with fail
      refine (below_any C ((ln : Int) + 1) _ SA.out.cur).mono ?_
      rintro e wc ⟨k1, rfl, hk0, hk1, _, hf, hc⟩
      have SD : Hid (RawSt w C wc (.slice la ln lc) (m)) := SA.out.draw hf hc
      replace hk1 : k1 < ((ln : Int) + 1) := hk1 (by omega)
      clear hf hc SA
      go_wp2_with fail
      refine (below_any C 20 _ SD.out.cur).mono ?_
      rintro e wd ⟨k2, rfl, hk2, hk3, _, hf, hc⟩
      have SE : Hid (RawSt w C wd (.slice la ln lc) (m)) := SD.out.draw hf hc
      replace hk3 : k2 < 20 := hk3 (by omega)
      have hq0 : 0 ≤ Int.tdiv k2 19 := by rw [Int.tdiv_eq_ediv_of_nonneg hk2]; omega
      have hq1 : Int.tdiv k2 19 ≤ 1 := by rw [Int.tdiv_eq_ediv_of_nonneg hk2]; omega
      clear hf hc SD
      go_wp2_with fail
      refine bodyPost_ret (v := .tuple #[(.slice la ln lc), .int .i64 (k1 - Int.tdiv k2 19)]) (by simp [results, Try.results12, go_sem]) rfl ?_
      exact ⟨_, m, _, rfl, SE.out.own.low (by rw [SE.out.eq]; omega), by first | (simp; done) | (have := HLN.out; omega), ⟨by omega, by omega⟩, SE.out.bel⟩
  | false =>
    have S9 := S6
    have hm : l.length ≤ 60 := by omega
    clear S6 hl
    go_wp2_with fail
    refine (once_any C 12 _ S9.out.cur).mono ?_
    rintro e wa ⟨q, rfl, hf, hc⟩
    have SA : Hid (RawSt w C wa v5 l) := S9.out.draw hf hc
    clear hf hc S9
    cases q with
    | true =>
      have hsa := SA.out.le
      go_wp2_with fail
      refine (pickint_any C wa.heap.size [127, 255, 0, 1] 4 _ (SA.out.cur.later (Bel.alloc _ _)) (by omega) rfl (by omega) (by omega) ?_).mono ?_
      · intro j hj
        have h7 : j = 0 ∨ j = 1 ∨ j = 2 ∨ j = 3 := by omega
        rcases h7 with rfl | rfl | rfl | rfl <;> simp
      · rintro e wb ⟨x2, rfl, hx2, hf, hc⟩
        have SB : Hid (RawSt w C wb v5 l) := (SA.out.keep (Bel.alloc wa _)).draw hf hc
        have hxx : 0 ≤ x2 ∧ x2 ≤ 255 := by
          simp at hx2
          rcases hx2 with rfl | rfl | rfl | rfl <;> omega
        obtain ⟨hx3, hx4⟩ := hxx
        clear hf hc SA hx2
        have ho := ownB_built wb (C + 1) 10 [255, 255, 255, 255, 255, 255, 255, 255, UInt8.ofNat x2.toNat, 1] #[.int .u8 255, .int .u8 255, .int .u8 255, .int .u8 255, .int .u8 255, .int .u8 255, .int .u8 255, .int .u8 255, .int .u8 x2, .int .u8 1] (by simp [Lib.byteCells]; omega) rfl (by omega) SB.out.le
        have SC : Hid (RawSt w C (wb.alloc (.cells #[.int .u8 255, .int .u8 255, .int .u8 255, .int .u8 255, .int .u8 255, .int .u8 255, .int .u8 255, .int .u8 255, .int .u8 x2, .int .u8 1] 5)) (.slice (some ⟨wb.heap.size, 0, none⟩) 10 10) [255, 255, 255, 255, 255, 255, 255, 255, UInt8.ofNat x2.toNat, 1]) := ⟨Bel.after SB.out.bel (Bel.alloc _ _), SB.out.cur.later (Bel.alloc _ _), ho, Nat.le_trans SB.out.le (Bel.alloc wb _).size, HC.out⟩
        clear ho SB
        go_wp2_with fail
        refine (below_any C (11) _ SC.out.cur).mono ?_
        rintro e wc ⟨k1, rfl, hk0, hk1, _, hf, hc⟩
        have SD : Hid (RawSt w C wc (.slice (some ⟨wb.heap.size, 0, none⟩) 10 10) ([255, 255, 255, 255, 255, 255, 255, 255, UInt8.ofNat x2.toNat, 1])) := SC.out.draw hf hc
        replace hk1 : k1 < (11) := hk1 (by omega)
        clear hf hc SC
        go_wp2_with fail
        refine (below_any C 20 _ SD.out.cur).mono ?_
        rintro e wd ⟨k2, rfl, hk2, hk3, _, hf, hc⟩
        have SE : Hid (RawSt w C wd (.slice (some ⟨wb.heap.size, 0, none⟩) 10 10) ([255, 255, 255, 255, 255, 255, 255, 255, UInt8.ofNat x2.toNat, 1])) := SD.out.draw hf hc
        replace hk3 : k2 < 20 := hk3 (by omega)
        have hq0 : 0 ≤ Int.tdiv k2 19 := by rw [Int.tdiv_eq_ediv_of_nonneg hk2]; omega
        have hq1 : Int.tdiv k2 19 ≤ 1 := by rw [Int.tdiv_eq_ediv_of_nonneg hk2]; omega
        clear hf hc SD
        go_wp2_with fail
        refine bodyPost_ret (v := .tuple #[(.slice (some ⟨wb.heap.size, 0, none⟩) 10 10), .int .i64 (k1 - Int.tdiv k2 19)]) (by simp [results, Try.results12, go_sem]) rfl ?_
        exact ⟨_, [255, 255, 255, 255, 255, 255, 255, 255, UInt8.ofNat x2.toNat, 1], _, rfl, SE.out.own.low (by rw [SE.out.eq]; omega), by first | (simp; done) | (have := HLN.out; omega), ⟨by omega, by omega⟩, SE.out.bel⟩
    | false =>
      obtain ⟨ln, HLN⟩ : ∃ n, Hid ((l).length = n) := ⟨_, rfl⟩
      obtain ⟨la, lc, e9⟩ := SA.out.own.form HLN.out
      subst e9
      rw [HLN.out] at hm
      have hn1 : (0 : Int) ≤ (ln : Int) := by omega
      have hn2 : (ln : Int) ≤ 60 := by omega
      go_wp2_with fail
      refine (below_any C ((ln : Int) + 1) _ SA.out.cur).mono ?_
      rintro e wc ⟨k1, rfl, hk0, hk1, _, hf, hc⟩
      have SD : Hid (RawSt w C wc (.slice la ln lc) (l)) := SA.out.draw hf hc
      replace hk1 : k1 < ((ln : Int) + 1) := hk1 (by omega)
      clear hf hc SA
      go_wp2_with fail
      refine (below_any C 20 _ SD.out.cur).mono ?_
      rintro e wd ⟨k2, rfl, hk2, hk3, _, hf, hc⟩
      have SE : Hid (RawSt w C wd (.slice la ln lc) (l)) := SD.out.draw hf hc
      replace hk3 : k2 < 20 := hk3 (by omega)
      have hq0 : 0 ≤ Int.tdiv k2 19 := by rw [Int.tdiv_eq_ediv_of_nonneg hk2]; omega
      have hq1 : Int.tdiv k2 19 ≤ 1 := by rw [Int.tdiv_eq_ediv_of_nonneg hk2]; omega
      clear hf hc SD
      go_wp2_with fail
      refine bodyPost_ret (v := .tuple #[(.slice la ln lc), .int .i64 (k1 - Int.tdiv k2 19)]) (by simp [results, Try.results12, go_sem]) rfl ?_
      exact ⟨_, l, _, rfl, SE.out.own.low (by rw [SE.out.eq]; omega), by first | (simp; done) | (have := HLN.out; omega), ⟨by omega, by omega⟩, SE.out.bel⟩
end Go.Proofs.Ytgjojajodkagbaa
