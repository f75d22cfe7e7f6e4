/- The laws' measure of a program: where it does not fall below 0 no list of the program is long. -/
import Derived.Test.YtgjojajodkagbaaTo
import Derived.Handy
namespace Go.Proofs.Ytgjojajodkagbaa
open Go.ChangeShapes Go.WideShapes Go.ChangeAt Go.RowKit
set_option linter.unusedVariables false

/-- A measure is returned; where it is not below 0, p. -/
def GivesSz (p : Prop) (w : World) (e : Ending) (w' : World) : Prop := ∃ r : Int, e = .returned (.int .i64 r) ∧ -1 ≤ r ∧ r ≤ 1048576 ∧ (0 ≤ r → p) ∧ Below w.heap.size w w'

theorem szArmS_any (v : Value) (l : List ArmD) (left : Int) (w : World) (ha : ListAt 0 2 ArmAt w v l) (h0 : 0 ≤ left) (h1 : left ≤ 1048576) :
    Calls Try.prog 76 #[v, .int .i64 left] w fun e w' => GivesSz (l.length ≤ 1048576) w e w' := by
  obtain ⟨a, cap, rfl, hm, _⟩ := ha
  obtain ⟨n, HN⟩ : ∃ n, Hid (l.length = n) := ⟨_, rfl⟩
  rw [HN.out] at hm ⊢
  by_cases hlt : left - (n : Int) < 0
  · go_enter Try.func76, Try.ntmps76
    go_wp2
    go_ret
    exact ⟨-1, rfl, by omega, by omega, fun h => absurd h (by omega), Below.refl _ _⟩
  · go_enter Try.func76, Try.ntmps76
    go_wp2
    go_ret
    exact ⟨left - (n : Int), rfl, by omega, by omega, fun _ => by omega, Below.refl _ _⟩

theorem szInsS_any (v : Value) (l : List InsD) (left : Int) (w : World) (ha : ListAt 0 5 InsAt w v l) (h0 : 0 ≤ left) (h1 : left ≤ 1048576) :
    Calls Try.prog 51 #[v, .int .i64 left] w fun e w' => GivesSz (l.length ≤ 1048576) w e w' := by
  obtain ⟨a, cap, rfl, hm, _⟩ := ha
  obtain ⟨n, HN⟩ : ∃ n, Hid (l.length = n) := ⟨_, rfl⟩
  rw [HN.out] at hm ⊢
  by_cases hlt : left - (n : Int) < 0
  · go_enter Try.func51, Try.ntmps51
    go_wp2
    go_ret
    exact ⟨-1, rfl, by omega, by omega, fun h => absurd h (by omega), Below.refl _ _⟩
  · go_enter Try.func51, Try.ntmps51
    go_wp2
    go_ret
    exact ⟨left - (n : Int), rfl, by omega, by omega, fun _ => by omega, Below.refl _ _⟩

set_option maxHeartbeats 1000000 in
theorem szPhi_any (d : Int) (sv : Value) (l : List ArmD) (left : Int) (w : World) (ha : ListAt 0 2 ArmAt w sv l) (h0 : 0 ≤ left) (h1 : left ≤ 1048576) :
    Calls Try.prog 64 #[.agg #[.int .i64 d, sv], .int .i64 left] w fun e w' => GivesSz (PhiSmall ⟨d, l⟩) w e w' := by
  have HA : Hid (ListAt 0 2 ArmAt w sv l) := ha
  obtain ⟨sa, scap, hsv, _⟩ := ha
  obtain ⟨sn, HSN⟩ : ∃ sn, Hid (l.length = sn) := ⟨_, rfl⟩
  rw [HSN.out] at hsv
  subst hsv
  go_enter Try.func64, Try.ntmps64
  go_wp2_with fail
  refine (szArmS_any (.slice sa sn scap) l left _ (arms_keep HA.out (Keeps.of_below (Bel.alloc w _) 0)) h0 h1).mono ?_
  rintro e w1 ⟨r, rfl, hr0, hr1, hp, b1⟩
  have HB : Hid (Below w.heap.size w w1) := Bel.after (Bel.alloc w _) b1
  have HP : Hid (0 ≤ r → l.length ≤ 1048576) := hp
  clear b1 hp
  by_cases hr : r < 0
  · go_wp2
    go_ret
    exact ⟨-1, rfl, by omega, by omega, fun h => absurd h (by omega), HB.out⟩
  · go_wp2
    go_ret
    exact ⟨r, rfl, by omega, by omega, fun h => HP.out h, HB.out⟩

set_option maxHeartbeats 2000000 in
theorem szPhiS_any (v : Value) (l : List PhiD) (left : Int) (w : World) (ha : ListAt 0 2 (PhiAt 0) w v l) (h0 : 0 ≤ left) (h1 : left ≤ 1048576) :
    Calls Try.prog 50 #[v, .int .i64 left] w fun e w' => GivesSz (l.length ≤ 1048576 ∧ ∀ x ∈ l, PhiSmall x) w e w' := by
  obtain ⟨a, cap, rfl, hm, hc⟩ := ha
  obtain ⟨n, HN⟩ : ∃ n, Hid (l.length = n) := ⟨_, rfl⟩
  rw [HN.out] at hm hc ⊢
  have HC : Hid (0 < n → ∃ b off, a = some ⟨b, off, none⟩ ∧ 0 ≤ b ∧ ∀ i x, l[i]? = some x → (PhiAt 0) w b (off + i * 2) x) := hc
  clear hc
  by_cases hlt0 : left - (n : Int) < 0
  · go_enter Try.func50, Try.ntmps50
    go_wp2
    go_ret
    exact ⟨-1, rfl, by omega, by omega, fun h => absurd h (by omega), Below.refl _ _⟩
  · go_enter Try.func50, Try.ntmps50
    go_wp2
    go_loopw [1, 5] (fun lv i wr => ∃ k : Nat, k ≤ n ∧ i = .int .i64 k ∧ (∃ r : Int, lv = .int .i64 r ∧ 0 ≤ r ∧ r ≤ 1048576) ∧ Below w.heap.size w wr ∧ ∀ j x, j < k → l[j]? = some x → PhiSmall x) (fun _ i _ => n - (intOf i).toNat)
    case atStart => exact ⟨0, Nat.zero_le _, rfl, ⟨_, rfl, by omega, by omega⟩, Below.refl _ _, fun j x hj => absurd hj (by omega)⟩
    case round =>
      obtain ⟨k, hk, rfl, ⟨r, rfl, hr0, hr1⟩, hb, hd⟩ := hrel
      have H1 : Hid (Below w.heap.size w wr) := hb
      have H3 : Hid (∀ j x, j < k → l[j]? = some x → PhiSmall x) := hd
      clear hb hd
      by_cases hlt : (k : Int) < (n : Int)
      · obtain ⟨b, off, rfl, _, hc1⟩ := HC.out (by omega)
        have hkl : k < l.length := by have := HN.out; omega
        obtain ⟨x, HX⟩ : ∃ x, Hid (l[k]? = some x) := ⟨l[k], List.getElem?_eq_getElem hkl⟩
        obtain ⟨c0, sv, c1, hsv⟩ := (hc1 k x HX.out).keep (Keeps.of_below H1.out 0) (Nat.zero_le _)
        clear hc1 hkl
        obtain ⟨x0, x1⟩ := x
        have HSV : Hid (ListAt 0 2 ArmAt wr sv x1) := hsv
        clear hsv
        go_wp2_with fail
        refine (szPhi_any x0 sv x1 r _ HSV.out hr0 hr1).mono ?_
        rintro e w1 ⟨r', rfl, hr'0, hr'1, hps, b1⟩
        have B1 : Hid (Below w.heap.size w w1) := Bel.after H1.out b1
        have HPS : Hid (0 ≤ r' → PhiSmall _) := hps
        clear b1 hps
        by_cases hr' : r' < 0
        · go_wp2
          go_ret
          exact ⟨-1, rfl, by omega, by omega, fun h => absurd h (by omega), B1.out⟩
        · go_wp2
          go_roundw
          case rel =>
            refine ⟨k + 1, by omega, by go_num, ⟨r', rfl, by omega, by omega⟩, B1.out, fun j x hj hx => ?_⟩
            by_cases hjk : j = k
            · subst hjk
              have e := HX.out.symm.trans hx
              simp only [Option.some.injEq] at e
              subst e
              exact HPS.out (by omega)
            · exact H3.out j x (by omega) hx
          case measure => simp [intOf]; omega
      · have hkn : k = n := by omega
        have HK : Hid (k = n) := hkn
        clear hkn
        go_wp2
        go_ret
        refine ⟨r, rfl, by omega, by omega, fun _ => ⟨by omega, fun x hx => ?_⟩, H1.out⟩
        obtain ⟨j, hj, hjx⟩ := List.mem_iff_getElem.1 hx
        exact H3.out j x (by have := HN.out; have := HK.out; omega) (by rw [List.getElem?_eq_getElem hj, hjx])

set_option maxHeartbeats 1000000 in
theorem szBlock_any (pv lv : Value) (ps : List PhiD) (is : List InsD) (k a t o : Int) (left : Int) (w : World) (hp : ListAt 0 2 (PhiAt 0) w pv ps) (hi : ListAt 0 5 InsAt w lv is) (h0 : 0 ≤ left) (h1 : left ≤ 1048576) :
    Calls Try.prog 41 #[.agg #[pv, lv, .int .i64 k, .int .i64 a, .int .i64 t, .int .i64 o], .int .i64 left] w fun e w' => GivesSz (BlockSmall ⟨ps, is, ⟨k, a, t, o⟩⟩) w e w' := by
  have HP : Hid (ListAt 0 2 (PhiAt 0) w pv ps) := hp
  have HI : Hid (ListAt 0 5 InsAt w lv is) := hi
  obtain ⟨pa, pcap, hpv, _⟩ := hp
  obtain ⟨la, lcap, hlv, _⟩ := hi
  obtain ⟨pn, HPN⟩ : ∃ pn, Hid (ps.length = pn) := ⟨_, rfl⟩
  obtain ⟨ln, HLN⟩ : ∃ ln, Hid (is.length = ln) := ⟨_, rfl⟩
  rw [HPN.out] at hpv
  rw [HLN.out] at hlv
  subst hpv hlv
  go_enter Try.func41, Try.ntmps41
  go_wp2_with fail
  refine (szPhiS_any (.slice pa pn pcap) ps left _ (phis_keep HP.out (Keeps.of_below (Bel.alloc w _) 0)) h0 h1).mono ?_
  rintro e w1 ⟨r, rfl, hr0, hr1, hps, b1⟩
  have HB : Hid (Below w.heap.size w w1) := Bel.after (Bel.alloc w _) b1
  have HPS : Hid (0 ≤ r → ps.length ≤ 1048576 ∧ ∀ x ∈ ps, PhiSmall x) := hps
  have c1 := box_cell b1 1
  simp at c1
  clear b1 hps
  by_cases hr : r < 0
  · go_wp2
    go_ret
    exact ⟨-1, rfl, by omega, by omega, fun h => absurd h (by omega), HB.out⟩
  · go_wp2_with fail
    refine (szInsS_any (.slice la ln lcap) is r _ (places_keep HI.out (Keeps.of_below HB.out 0)) (by omega) hr1).mono ?_
    rintro e w2 ⟨r2, rfl, hr20, hr21, hps2, b2⟩
    have HB2 : Hid (Below w.heap.size w w2) := Bel.after HB.out b2
    have HPS2 : Hid (0 ≤ r2 → is.length ≤ 1048576) := hps2
    clear b2 hps2
    by_cases hr2 : r2 < 0
    · go_wp2
      go_ret
      exact ⟨-1, rfl, by omega, by omega, fun h => absurd h (by omega), HB2.out⟩
    · go_wp2
      go_ret
      exact ⟨r2, rfl, by omega, by omega, fun h => ⟨(HPS.out (by omega)).1, HPS2.out h, (HPS.out (by omega)).2⟩, HB2.out⟩

set_option maxHeartbeats 2000000 in
theorem szBlockS_any (v : Value) (l : List BlockD) (left : Int) (w : World) (ha : ListAt 0 6 (BlockAt 0) w v l) (h0 : 0 ≤ left) (h1 : left ≤ 1048576) :
    Calls Try.prog 32 #[v, .int .i64 left] w fun e w' => GivesSz (l.length ≤ 1048576 ∧ ∀ x ∈ l, BlockSmall x) w e w' := by
  obtain ⟨a, cap, rfl, hm, hc⟩ := ha
  obtain ⟨n, HN⟩ : ∃ n, Hid (l.length = n) := ⟨_, rfl⟩
  rw [HN.out] at hm hc ⊢
  have HC : Hid (0 < n → ∃ b off, a = some ⟨b, off, none⟩ ∧ 0 ≤ b ∧ ∀ i x, l[i]? = some x → (BlockAt 0) w b (off + i * 6) x) := hc
  clear hc
  by_cases hlt0 : left - (n : Int) < 0
  · go_enter Try.func32, Try.ntmps32
    go_wp2
    go_ret
    exact ⟨-1, rfl, by omega, by omega, fun h => absurd h (by omega), Below.refl _ _⟩
  · go_enter Try.func32, Try.ntmps32
    go_wp2
    go_loopw [1, 5] (fun lv i wr => ∃ k : Nat, k ≤ n ∧ i = .int .i64 k ∧ (∃ r : Int, lv = .int .i64 r ∧ 0 ≤ r ∧ r ≤ 1048576) ∧ Below w.heap.size w wr ∧ ∀ j x, j < k → l[j]? = some x → BlockSmall x) (fun _ i _ => n - (intOf i).toNat)
    case atStart => exact ⟨0, Nat.zero_le _, rfl, ⟨_, rfl, by omega, by omega⟩, Below.refl _ _, fun j x hj => absurd hj (by omega)⟩
    case round =>
      obtain ⟨k, hk, rfl, ⟨r, rfl, hr0, hr1⟩, hb, hd⟩ := hrel
      have H1 : Hid (Below w.heap.size w wr) := hb
      have H3 : Hid (∀ j x, j < k → l[j]? = some x → BlockSmall x) := hd
      clear hb hd
      by_cases hlt : (k : Int) < (n : Int)
      · obtain ⟨b, off, rfl, _, hc1⟩ := HC.out (by omega)
        have hkl : k < l.length := by have := HN.out; omega
        obtain ⟨x, HX⟩ : ∃ x, Hid (l[k]? = some x) := ⟨l[k], List.getElem?_eq_getElem hkl⟩
        obtain ⟨pv, lv, c0, c1, c2, c3, c4, c5, hpv, hlv⟩ := (hc1 k x HX.out).keep (Keeps.of_below H1.out 0) (Nat.zero_le _)
        clear hc1 hkl
        obtain ⟨x0, x1, ⟨x2, x3, x4, x5⟩⟩ := x
        have HPV : Hid (ListAt 0 2 (PhiAt 0) wr pv x0) := hpv
        have HLV : Hid (ListAt 0 5 InsAt wr lv x1) := hlv
        clear hpv hlv
        go_wp2_with fail
        refine (szBlock_any pv lv x0 x1 x2 x3 x4 x5 r _ HPV.out HLV.out hr0 hr1).mono ?_
        rintro e w1 ⟨r', rfl, hr'0, hr'1, hps, b1⟩
        have B1 : Hid (Below w.heap.size w w1) := Bel.after H1.out b1
        have HPS : Hid (0 ≤ r' → BlockSmall _) := hps
        clear b1 hps
        by_cases hr' : r' < 0
        · go_wp2
          go_ret
          exact ⟨-1, rfl, by omega, by omega, fun h => absurd h (by omega), B1.out⟩
        · go_wp2
          go_roundw
          case rel =>
            refine ⟨k + 1, by omega, by go_num, ⟨r', rfl, by omega, by omega⟩, B1.out, fun j x hj hx => ?_⟩
            by_cases hjk : j = k
            · subst hjk
              have e := HX.out.symm.trans hx
              simp only [Option.some.injEq] at e
              subst e
              exact HPS.out (by omega)
            · exact H3.out j x (by omega) hx
          case measure => simp [intOf]; omega
      · have hkn : k = n := by omega
        have HK : Hid (k = n) := hkn
        clear hkn
        go_wp2
        go_ret
        refine ⟨r, rfl, by omega, by omega, fun _ => ⟨by omega, fun x hx => ?_⟩, H1.out⟩
        obtain ⟨j, hj, hjx⟩ := List.mem_iff_getElem.1 hx
        exact H3.out j x (by have := HN.out; have := HK.out; omega) (by rw [List.getElem?_eq_getElem hj, hjx])

set_option maxHeartbeats 1000000 in
theorem szFn_any (v : Value) (F : FnD) (left : Int) (w : World) (hF : FnAt w v F) (h0 : 0 ≤ left) (h1 : left ≤ 1048576) :
    Calls Try.prog 18 #[v, .int .i64 left] w fun e w' => GivesSz (FnSmall F) w e w' := by
  obtain ⟨bv, rfl, hb⟩ := hF
  have HA : Hid (ListAt 0 6 (BlockAt 0) w bv F.blocks) := hb
  obtain ⟨ba, bcap, hbv, _⟩ := hb
  obtain ⟨bn, HBN⟩ : ∃ bn, Hid (F.blocks.length = bn) := ⟨_, rfl⟩
  obtain ⟨x, HX⟩ : ∃ x, Hid (F.values = x) := ⟨_, rfl⟩
  rw [HBN.out] at hbv
  subst hbv
  rw [HX.out]
  go_enter Try.func18, Try.ntmps18
  go_wp2_with fail
  refine (szBlockS_any (.slice ba bn bcap) F.blocks left _ (blocks_keep HA.out (Keeps.of_below (Bel.alloc w _) 0)) h0 h1).mono ?_
  rintro e w1 ⟨r, rfl, hr0, hr1, hp, b1⟩
  have HB : Hid (Below w.heap.size w w1) := Bel.after (Bel.alloc w _) b1
  have HP : Hid (0 ≤ r → F.blocks.length ≤ 1048576 ∧ ∀ x ∈ F.blocks, BlockSmall x) := hp
  clear b1 hp
  by_cases hr : r < 0
  · go_wp2
    go_ret
    exact ⟨-1, rfl, by omega, by omega, fun h => absurd h (by omega), HB.out⟩
  · go_wp2
    go_ret
    exact ⟨r, rfl, by omega, by omega, fun h => HP.out h, HB.out⟩

end Go.Proofs.Ytgjojajodkagbaa
