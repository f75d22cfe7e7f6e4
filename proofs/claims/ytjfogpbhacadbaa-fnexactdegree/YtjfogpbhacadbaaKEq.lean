/- The laws' measure of a program: where it does not fall below 0 no list of the program is long. Two programs that read alike are told alike. -/
import Derived.Test.YtjfogpbhacadbaaKTo
import Derived.Handy
import Derived.Deep.RegionWith
import Derived.BigRegion
import Derived.Deep.QuietTactic
import Derived.BigQuiet
namespace Go.Proofs.Ytjfogpbhacadbaa
open Go.ChangeShapes Go.WideShapes Go.ChangeAt Go.RowKit
set_option linter.unusedVariables false

/-- A measure is returned; where it is not below 0, p. -/
def GivesSz (p : Prop) (w : World) (e : Ending) (w' : World) : Prop := ∃ r : Int, e = .returned (.int .i64 r) ∧ -1 ≤ r ∧ r ≤ 1048576 ∧ (0 ≤ r → p) ∧ Below w.heap.size w w'

theorem szArmS_any (v : Value) (l : List ArmD) (left : Int) (w : World) (ha : ListAt 0 2 ArmAt w v l) (h0 : 0 ≤ left) (h1 : left ≤ 1048576) :
    Calls Try.prog 76 #[v, .int .i64 left] w fun e w' => GivesSz (l.length ≤ 1048576) w e w' := by
  obtain ⟨a, cap, rfl, hm, _⟩ := ha
  obtain ⟨n, HN⟩ : ∃ n, Hid (l.length = n) := ⟨_, rfl⟩
  rw [HN.out] at hm ⊢
  by_cases hlt : left - (n : Int) < 0
  · go_enter Try.func76, Try.ntmps76
    go_wp2
    go_ret
    exact ⟨-1, rfl, by omega, by omega, fun h => absurd h (by omega), Below.refl _ _⟩
  · go_enter Try.func76, Try.ntmps76
    go_wp2
    go_ret
    exact ⟨left - (n : Int), rfl, by omega, by omega, fun _ => by omega, Below.refl _ _⟩

theorem szInsS_any (v : Value) (l : List InsD) (left : Int) (w : World) (ha : ListAt 0 5 InsAt w v l) (h0 : 0 ≤ left) (h1 : left ≤ 1048576) :
    Calls Try.prog 33 #[v, .int .i64 left] w fun e w' => GivesSz (l.length ≤ 1048576) w e w' := by
  obtain ⟨a, cap, rfl, hm, _⟩ := ha
  obtain ⟨n, HN⟩ : ∃ n, Hid (l.length = n) := ⟨_, rfl⟩
  rw [HN.out] at hm ⊢
  by_cases hlt : left - (n : Int) < 0
  · go_enter Try.func33, Try.ntmps33
    go_wp2
    go_ret
    exact ⟨-1, rfl, by omega, by omega, fun h => absurd h (by omega), Below.refl _ _⟩
  · go_enter Try.func33, Try.ntmps33
    go_wp2
    go_ret
    exact ⟨left - (n : Int), rfl, by omega, by omega, fun _ => by omega, Below.refl _ _⟩

set_option maxHeartbeats 1000000 in
theorem szPhi_any (d : Int) (sv : Value) (l : List ArmD) (left : Int) (w : World) (ha : ListAt 0 2 ArmAt w sv l) (h0 : 0 ≤ left) (h1 : left ≤ 1048576) :
    Calls Try.prog 55 #[.agg #[.int .i64 d, sv], .int .i64 left] w fun e w' => GivesSz (PhiSmall ⟨d, l⟩) w e w' := by
  have HA : Hid (ListAt 0 2 ArmAt w sv l) := ha
  obtain ⟨sa, scap, hsv, _⟩ := ha
  obtain ⟨sn, HSN⟩ : ∃ sn, Hid (l.length = sn) := ⟨_, rfl⟩
  rw [HSN.out] at hsv
  subst hsv
  go_enter Try.func55, Try.ntmps55
  go_wp2_with fail
  refine (szArmS_any (.slice sa sn scap) l left _ (arms_keep HA.out (Keeps.of_below (Bel.alloc w _) 0)) h0 h1).mono ?_
  rintro e w1 ⟨r, rfl, hr0, hr1, hp, b1⟩
  have HB : Hid (Below w.heap.size w w1) := Bel.after (Bel.alloc w _) b1
  have HP : Hid (0 ≤ r → l.length ≤ 1048576) := hp
  clear b1 hp
  by_cases hr : r < 0
  · go_wp2
    go_ret
    exact ⟨-1, rfl, by omega, by omega, fun h => absurd h (by omega), HB.out⟩
  · go_wp2
    go_ret
    exact ⟨r, rfl, by omega, by omega, fun h => HP.out h, HB.out⟩

set_option maxHeartbeats 2000000 in
theorem szPhiS_any (v : Value) (l : List PhiD) (left : Int) (w : World) (ha : ListAt 0 2 (PhiAt 0) w v l) (h0 : 0 ≤ left) (h1 : left ≤ 1048576) :
    Calls Try.prog 32 #[v, .int .i64 left] w fun e w' => GivesSz (l.length ≤ 1048576 ∧ ∀ x ∈ l, PhiSmall x) w e w' := by
  obtain ⟨a, cap, rfl, hm, hc⟩ := ha
  obtain ⟨n, HN⟩ : ∃ n, Hid (l.length = n) := ⟨_, rfl⟩
  rw [HN.out] at hm hc ⊢
  have HC : Hid (0 < n → ∃ b off, a = some ⟨b, off, none⟩ ∧ 0 ≤ b ∧ ∀ i x, l[i]? = some x → (PhiAt 0) w b (off + i * 2) x) := hc
  clear hc
  by_cases hlt0 : left - (n : Int) < 0
  · go_enter Try.func32, Try.ntmps32
    go_wp2
    go_ret
    exact ⟨-1, rfl, by omega, by omega, fun h => absurd h (by omega), Below.refl _ _⟩
  · go_enter Try.func32, Try.ntmps32
    go_wp2
    go_loopw [1, 5] (fun lv i wr => ∃ k : Nat, k ≤ n ∧ i = .int .i64 k ∧ (∃ r : Int, lv = .int .i64 r ∧ 0 ≤ r ∧ r ≤ 1048576) ∧ Below w.heap.size w wr ∧ ∀ j x, j < k → l[j]? = some x → PhiSmall x) (fun _ i _ => n - (intOf i).toNat)
    case atStart => exact ⟨0, Nat.zero_le _, rfl, ⟨_, rfl, by omega, by omega⟩, Below.refl _ _, fun j x hj => absurd hj (by omega)⟩
    case round =>
      obtain ⟨k, hk, rfl, ⟨r, rfl, hr0, hr1⟩, hb, hd⟩ := hrel
      have H1 : Hid (Below w.heap.size w wr) := hb
      have H3 : Hid (∀ j x, j < k → l[j]? = some x → PhiSmall x) := hd
      clear hb hd
      by_cases hlt : (k : Int) < (n : Int)
      · obtain ⟨b, off, rfl, _, hc1⟩ := HC.out (by omega)
        have hkl : k < l.length := by have := HN.out; omega
        obtain ⟨x, HX⟩ : ∃ x, Hid (l[k]? = some x) := ⟨l[k], List.getElem?_eq_getElem hkl⟩
        obtain ⟨c0, sv, c1, hsv⟩ := (hc1 k x HX.out).keep (Keeps.of_below H1.out 0) (Nat.zero_le _)
        clear hc1 hkl
        obtain ⟨x0, x1⟩ := x
        have HSV : Hid (ListAt 0 2 ArmAt wr sv x1) := hsv
        clear hsv
        go_wp2_with fail
        refine (szPhi_any x0 sv x1 r _ HSV.out hr0 hr1).mono ?_
        rintro e w1 ⟨r', rfl, hr'0, hr'1, hps, b1⟩
        have B1 : Hid (Below w.heap.size w w1) := Bel.after H1.out b1
        have HPS : Hid (0 ≤ r' → PhiSmall _) := hps
        clear b1 hps
        by_cases hr' : r' < 0
        · go_wp2
          go_ret
          exact ⟨-1, rfl, by omega, by omega, fun h => absurd h (by omega), B1.out⟩
        · go_wp2
          go_roundw
          case rel =>
            refine ⟨k + 1, by omega, by go_num, ⟨r', rfl, by omega, by omega⟩, B1.out, fun j x hj hx => ?_⟩
            by_cases hjk : j = k
            · subst hjk
              have e := HX.out.symm.trans hx
              simp only [Option.some.injEq] at e
              subst e
              exact HPS.out (by omega)
            · exact H3.out j x (by omega) hx
          case measure => simp [intOf]; omega
      · have hkn : k = n := by omega
        have HK : Hid (k = n) := hkn
        clear hkn
        go_wp2
        go_ret
        refine ⟨r, rfl, by omega, by omega, fun _ => ⟨by omega, fun x hx => ?_⟩, H1.out⟩
        obtain ⟨j, hj, hjx⟩ := List.mem_iff_getElem.1 hx
        exact H3.out j x (by have := HN.out; have := HK.out; omega) (by rw [List.getElem?_eq_getElem hj, hjx])

set_option maxHeartbeats 1000000 in
theorem szBlock_any (pv lv : Value) (ps : List PhiD) (is : List InsD) (k a t o : Int) (left : Int) (w : World) (hp : ListAt 0 2 (PhiAt 0) w pv ps) (hi : ListAt 0 5 InsAt w lv is) (h0 : 0 ≤ left) (h1 : left ≤ 1048576) :
    Calls Try.prog 19 #[.agg #[pv, lv, .int .i64 k, .int .i64 a, .int .i64 t, .int .i64 o], .int .i64 left] w fun e w' => GivesSz (BlockSmall ⟨ps, is, ⟨k, a, t, o⟩⟩) w e w' := by
  have HP : Hid (ListAt 0 2 (PhiAt 0) w pv ps) := hp
  have HI : Hid (ListAt 0 5 InsAt w lv is) := hi
  obtain ⟨pa, pcap, hpv, _⟩ := hp
  obtain ⟨la, lcap, hlv, _⟩ := hi
  obtain ⟨pn, HPN⟩ : ∃ pn, Hid (ps.length = pn) := ⟨_, rfl⟩
  obtain ⟨ln, HLN⟩ : ∃ ln, Hid (is.length = ln) := ⟨_, rfl⟩
  rw [HPN.out] at hpv
  rw [HLN.out] at hlv
  subst hpv hlv
  go_enter Try.func19, Try.ntmps19
  go_wp2_with fail
  refine (szPhiS_any (.slice pa pn pcap) ps left _ (phis_keep HP.out (Keeps.of_below (Bel.alloc w _) 0)) h0 h1).mono ?_
  rintro e w1 ⟨r, rfl, hr0, hr1, hps, b1⟩
  have HB : Hid (Below w.heap.size w w1) := Bel.after (Bel.alloc w _) b1
  have HPS : Hid (0 ≤ r → ps.length ≤ 1048576 ∧ ∀ x ∈ ps, PhiSmall x) := hps
  have c1 := box_cell b1 1
  simp at c1
  clear b1 hps
  by_cases hr : r < 0
  · go_wp2
    go_ret
    exact ⟨-1, rfl, by omega, by omega, fun h => absurd h (by omega), HB.out⟩
  · go_wp2_with fail
    refine (szInsS_any (.slice la ln lcap) is r _ (places_keep HI.out (Keeps.of_below HB.out 0)) (by omega) hr1).mono ?_
    rintro e w2 ⟨r2, rfl, hr20, hr21, hps2, b2⟩
    have HB2 : Hid (Below w.heap.size w w2) := Bel.after HB.out b2
    have HPS2 : Hid (0 ≤ r2 → is.length ≤ 1048576) := hps2
    clear b2 hps2
    by_cases hr2 : r2 < 0
    · go_wp2
      go_ret
      exact ⟨-1, rfl, by omega, by omega, fun h => absurd h (by omega), HB2.out⟩
    · go_wp2
      go_ret
      exact ⟨r2, rfl, by omega, by omega, fun h => ⟨(HPS.out (by omega)).1, HPS2.out h, (HPS.out (by omega)).2⟩, HB2.out⟩

set_option maxHeartbeats 2000000 in
theorem szBlockS_any (v : Value) (l : List BlockD) (left : Int) (w : World) (ha : ListAt 0 6 (BlockAt 0) w v l) (h0 : 0 ≤ left) (h1 : left ≤ 1048576) :
    Calls Try.prog 9 #[v, .int .i64 left] w fun e w' => GivesSz (l.length ≤ 1048576 ∧ ∀ x ∈ l, BlockSmall x) w e w' := by
  obtain ⟨a, cap, rfl, hm, hc⟩ := ha
  obtain ⟨n, HN⟩ : ∃ n, Hid (l.length = n) := ⟨_, rfl⟩
  rw [HN.out] at hm hc ⊢
  have HC : Hid (0 < n → ∃ b off, a = some ⟨b, off, none⟩ ∧ 0 ≤ b ∧ ∀ i x, l[i]? = some x → (BlockAt 0) w b (off + i * 6) x) := hc
  clear hc
  by_cases hlt0 : left - (n : Int) < 0
  · go_enter Try.func9, Try.ntmps9
    go_wp2
    go_ret
    exact ⟨-1, rfl, by omega, by omega, fun h => absurd h (by omega), Below.refl _ _⟩
  · go_enter Try.func9, Try.ntmps9
    go_wp2
    go_loopw [1, 5] (fun lv i wr => ∃ k : Nat, k ≤ n ∧ i = .int .i64 k ∧ (∃ r : Int, lv = .int .i64 r ∧ 0 ≤ r ∧ r ≤ 1048576) ∧ Below w.heap.size w wr ∧ ∀ j x, j < k → l[j]? = some x → BlockSmall x) (fun _ i _ => n - (intOf i).toNat)
    case atStart => exact ⟨0, Nat.zero_le _, rfl, ⟨_, rfl, by omega, by omega⟩, Below.refl _ _, fun j x hj => absurd hj (by omega)⟩
    case round =>
      obtain ⟨k, hk, rfl, ⟨r, rfl, hr0, hr1⟩, hb, hd⟩ := hrel
      have H1 : Hid (Below w.heap.size w wr) := hb
      have H3 : Hid (∀ j x, j < k → l[j]? = some x → BlockSmall x) := hd
      clear hb hd
      by_cases hlt : (k : Int) < (n : Int)
      · obtain ⟨b, off, rfl, _, hc1⟩ := HC.out (by omega)
        have hkl : k < l.length := by have := HN.out; omega
        obtain ⟨x, HX⟩ : ∃ x, Hid (l[k]? = some x) := ⟨l[k], List.getElem?_eq_getElem hkl⟩
        obtain ⟨pv, lv, c0, c1, c2, c3, c4, c5, hpv, hlv⟩ := (hc1 k x HX.out).keep (Keeps.of_below H1.out 0) (Nat.zero_le _)
        clear hc1 hkl
        obtain ⟨x0, x1, ⟨x2, x3, x4, x5⟩⟩ := x
        have HPV : Hid (ListAt 0 2 (PhiAt 0) wr pv x0) := hpv
        have HLV : Hid (ListAt 0 5 InsAt wr lv x1) := hlv
        clear hpv hlv
        go_wp2_with fail
        refine (szBlock_any pv lv x0 x1 x2 x3 x4 x5 r _ HPV.out HLV.out hr0 hr1).mono ?_
        rintro e w1 ⟨r', rfl, hr'0, hr'1, hps, b1⟩
        have B1 : Hid (Below w.heap.size w w1) := Bel.after H1.out b1
        have HPS : Hid (0 ≤ r' → BlockSmall _) := hps
        clear b1 hps
        by_cases hr' : r' < 0
        · go_wp2
          go_ret
          exact ⟨-1, rfl, by omega, by omega, fun h => absurd h (by omega), B1.out⟩
        · go_wp2
          go_roundw
          case rel =>
            refine ⟨k + 1, by omega, by go_num, ⟨r', rfl, by omega, by omega⟩, B1.out, fun j x hj hx => ?_⟩
            by_cases hjk : j = k
            · subst hjk
              have e := HX.out.symm.trans hx
              simp only [Option.some.injEq] at e
              subst e
              exact HPS.out (by omega)
            · exact H3.out j x (by omega) hx
          case measure => simp [intOf]; omega
      · have hkn : k = n := by omega
        have HK : Hid (k = n) := hkn
        clear hkn
        go_wp2
        go_ret
        refine ⟨r, rfl, by omega, by omega, fun _ => ⟨by omega, fun x hx => ?_⟩, H1.out⟩
        obtain ⟨j, hj, hjx⟩ := List.mem_iff_getElem.1 hx
        exact H3.out j x (by have := HN.out; have := HK.out; omega) (by rw [List.getElem?_eq_getElem hj, hjx])

set_option maxHeartbeats 1000000 in
theorem szFn_any (v : Value) (F : FnD) (left : Int) (w : World) (hF : FnAt w v F) (h0 : 0 ≤ left) (h1 : left ≤ 1048576) :
    Calls Try.prog 4 #[v, .int .i64 left] w fun e w' => GivesSz (FnSmall F) w e w' := by
  obtain ⟨bv, rfl, hb⟩ := hF
  have HA : Hid (ListAt 0 6 (BlockAt 0) w bv F.blocks) := hb
  obtain ⟨ba, bcap, hbv, _⟩ := hb
  obtain ⟨bn, HBN⟩ : ∃ bn, Hid (F.blocks.length = bn) := ⟨_, rfl⟩
  obtain ⟨x, HX⟩ : ∃ x, Hid (F.values = x) := ⟨_, rfl⟩
  rw [HBN.out] at hbv
  subst hbv
  rw [HX.out]
  go_enter Try.func4, Try.ntmps4
  go_wp2_with fail
  refine (szBlockS_any (.slice ba bn bcap) F.blocks left _ (blocks_keep HA.out (Keeps.of_below (Bel.alloc w _) 0)) h0 h1).mono ?_
  rintro e w1 ⟨r, rfl, hr0, hr1, hp, b1⟩
  have HB : Hid (Below w.heap.size w w1) := Bel.after (Bel.alloc w _) b1
  have HP : Hid (0 ≤ r → F.blocks.length ≤ 1048576 ∧ ∀ x ∈ F.blocks, BlockSmall x) := hp
  clear b1 hp
  by_cases hr : r < 0
  · go_wp2
    go_ret
    exact ⟨-1, rfl, by omega, by omega, fun h => absurd h (by omega), HB.out⟩
  · go_wp2
    go_ret
    exact ⟨r, rfl, by omega, by omega, fun h => HP.out h, HB.out⟩

end Go.Proofs.Ytjfogpbhacadbaa

namespace Go.Proofs.Ytjfogpbhacadbaa
open Go.ChangeShapes Go.WideShapes Go.ChangeAt Go.RowKit
set_option linter.unusedVariables false

/-- True is returned; the world only grows. -/
def GivesTrue (w : World) (e : Ending) (w' : World) : Prop := e = .returned (.bool true) ∧ Below w.heap.size w w'

theorem eqArm_same (a b : Int) (w : World) :
    Calls Try.prog 95 #[.agg #[.int .i64 a, .int .i64 b], .agg #[.int .i64 a, .int .i64 b]] w fun e w' => GivesTrue w e w' := by
  have na : (a != a) = false := by simp
  have nb : (b != b) = false := by simp
  go_enter Try.func95, Try.ntmps95
  go_wp2
  go_ret
  exact ⟨rfl, by repeat (first | exact Below.refl _ _ | apply Below.drew | refine Below.alloc ?_ (by simp <;> omega) _ | refine Below.setCell ?_ (by simp <;> omega) _)⟩

theorem eqIns_same (op d a b n : Int) (w : World) :
    Calls Try.prog 75 #[.agg #[.int .i64 op, .int .i64 d, .int .i64 a, .int .i64 b, .int .i64 n], .agg #[.int .i64 op, .int .i64 d, .int .i64 a, .int .i64 b, .int .i64 n]] w fun e w' => GivesTrue w e w' := by
  have nop : (op != op) = false := by simp
  have nd : (d != d) = false := by simp
  have na : (a != a) = false := by simp
  have nb : (b != b) = false := by simp
  have nn : (n != n) = false := by simp
  go_enter Try.func75, Try.ntmps75
  go_wp2
  go_ret
  exact ⟨rfl, by repeat (first | exact Below.refl _ _ | apply Below.drew | refine Below.alloc ?_ (by simp <;> omega) _ | refine Below.setCell ?_ (by simp <;> omega) _)⟩

theorem eqTerm_same (k a t o : Int) (w : World) :
    Calls Try.prog 54 #[.agg #[.int .i64 k, .int .i64 a, .int .i64 t, .int .i64 o], .agg #[.int .i64 k, .int .i64 a, .int .i64 t, .int .i64 o]] w fun e w' => GivesTrue w e w' := by
  have nk : (k != k) = false := by simp
  have na : (a != a) = false := by simp
  have nt : (t != t) = false := by simp
  have no : (o != o) = false := by simp
  go_enter Try.func54, Try.ntmps54
  go_wp2
  go_ret
  exact ⟨rfl, by repeat (first | exact Below.refl _ _ | apply Below.drew | refine Below.alloc ?_ (by simp <;> omega) _ | refine Below.setCell ?_ (by simp <;> omega) _)⟩

set_option maxHeartbeats 4000000 in
theorem eqArmS_same (va vb : Value) (l : List ArmD) (w : World) (ha : ListAt 0 2 ArmAt w va l) (hb : ListAt 0 2 ArmAt w vb l) :
    Calls Try.prog 89 #[va, vb] w fun e w' => GivesTrue w e w' := by
  obtain ⟨aa, ca, rfl, hm, hca⟩ := ha
  obtain ⟨ab, cb, rfl, _, hcb⟩ := hb
  obtain ⟨n, HN⟩ : ∃ n, Hid (l.length = n) := ⟨_, rfl⟩
  rw [HN.out] at hm hca hcb ⊢
  have HA : Hid (0 < n → ∃ b off, aa = some ⟨b, off, none⟩ ∧ 0 ≤ b ∧ ∀ i x, l[i]? = some x → ArmAt w b (off + i * 2) x) := hca
  have HB : Hid (0 < n → ∃ b off, ab = some ⟨b, off, none⟩ ∧ 0 ≤ b ∧ ∀ i x, l[i]? = some x → ArmAt w b (off + i * 2) x) := hcb
  clear hca hcb
  have hne : ((n : Int) != (n : Int)) = false := by simp
  go_enter Try.func89, Try.ntmps89
  go_wp2
  go_loopw [5] (fun i wr => ∃ k : Nat, k ≤ n ∧ i = .int .i64 k ∧ Below w.heap.size w wr) (fun i _ => n - (intOf i).toNat)
  case atStart => exact ⟨0, Nat.zero_le _, rfl, Below.refl _ _⟩
  case round =>
    obtain ⟨k, hk, rfl, hb3⟩ := hrel
    have H1 : Hid (Below w.heap.size w wr) := hb3
    clear hb3
    by_cases hlt : (k : Int) < (n : Int)
    · obtain ⟨b, off, rfl, _, hc1⟩ := HA.out (by omega)
      obtain ⟨b', off', rfl, _, hc2⟩ := HB.out (by omega)
      have hkl : k < l.length := by have := HN.out; omega
      obtain ⟨x, HX⟩ : ∃ x, Hid (l[k]? = some x) := ⟨l[k], List.getElem?_eq_getElem hkl⟩
      obtain ⟨c0, c1⟩ := (hc1 k x HX.out).keep (Keeps.of_below H1.out 0) (Nat.zero_le _)
      obtain ⟨d0, d1⟩ := (hc2 k x HX.out).keep (Keeps.of_below H1.out 0) (Nat.zero_le _)
      clear hc1 hc2 hkl
      obtain ⟨x0, x1⟩ := x
      go_wp2
      go_region_with (go_at_call 95; refine (eqArm_same x0 x1 _).mono ?_; rintro e w1 ⟨rfl, b1⟩)
      all_goals
        go_wp2
        go_roundw
        case rel => exact ⟨k + 1, by omega, by go_num, by first | exact Bel.after H1.out.drew (by assumption) | exact Bel.after H1.out (by assumption)⟩
        case measure => simp [intOf]; omega
    · go_wp2
      go_ret
      exact ⟨rfl, H1.out⟩

set_option maxHeartbeats 4000000 in
theorem eqInsS_same (va vb : Value) (l : List InsD) (w : World) (ha : ListAt 0 5 InsAt w va l) (hb : ListAt 0 5 InsAt w vb l) :
    Calls Try.prog 53 #[va, vb] w fun e w' => GivesTrue w e w' := by
  obtain ⟨aa, ca, rfl, hm, hca⟩ := ha
  obtain ⟨ab, cb, rfl, _, hcb⟩ := hb
  obtain ⟨n, HN⟩ : ∃ n, Hid (l.length = n) := ⟨_, rfl⟩
  rw [HN.out] at hm hca hcb ⊢
  have HA : Hid (0 < n → ∃ b off, aa = some ⟨b, off, none⟩ ∧ 0 ≤ b ∧ ∀ i x, l[i]? = some x → InsAt w b (off + i * 5) x) := hca
  have HB : Hid (0 < n → ∃ b off, ab = some ⟨b, off, none⟩ ∧ 0 ≤ b ∧ ∀ i x, l[i]? = some x → InsAt w b (off + i * 5) x) := hcb
  clear hca hcb
  have hne : ((n : Int) != (n : Int)) = false := by simp
  go_enter Try.func53, Try.ntmps53
  go_wp2
  go_loopw [5] (fun i wr => ∃ k : Nat, k ≤ n ∧ i = .int .i64 k ∧ Below w.heap.size w wr) (fun i _ => n - (intOf i).toNat)
  case atStart => exact ⟨0, Nat.zero_le _, rfl, Below.refl _ _⟩
  case round =>
    obtain ⟨k, hk, rfl, hb3⟩ := hrel
    have H1 : Hid (Below w.heap.size w wr) := hb3
    clear hb3
    by_cases hlt : (k : Int) < (n : Int)
    · obtain ⟨b, off, rfl, _, hc1⟩ := HA.out (by omega)
      obtain ⟨b', off', rfl, _, hc2⟩ := HB.out (by omega)
      have hkl : k < l.length := by have := HN.out; omega
      obtain ⟨x, HX⟩ : ∃ x, Hid (l[k]? = some x) := ⟨l[k], List.getElem?_eq_getElem hkl⟩
      obtain ⟨c0, c1, c2, c3, c4⟩ := (hc1 k x HX.out).keep (Keeps.of_below H1.out 0) (Nat.zero_le _)
      obtain ⟨d0, d1, d2, d3, d4⟩ := (hc2 k x HX.out).keep (Keeps.of_below H1.out 0) (Nat.zero_le _)
      clear hc1 hc2 hkl
      obtain ⟨x0, x1, x2, x3, x4⟩ := x
      go_wp2
      go_region_with (go_at_call 75; refine (eqIns_same x0 x1 x2 x3 x4 _).mono ?_; rintro e w1 ⟨rfl, b1⟩)
      all_goals
        go_wp2
        go_roundw
        case rel => exact ⟨k + 1, by omega, by go_num, by first | exact Bel.after H1.out.drew (by assumption) | exact Bel.after H1.out (by assumption)⟩
        case measure => simp [intOf]; omega
    · go_wp2
      go_ret
      exact ⟨rfl, H1.out⟩

set_option maxHeartbeats 1000000 in
theorem eqPhi_same (d : Int) (va vb : Value) (l : List ArmD) (w : World) (ha : ListAt 0 2 ArmAt w va l) (hb : ListAt 0 2 ArmAt w vb l) :
    Calls Try.prog 74 #[.agg #[.int .i64 d, va], .agg #[.int .i64 d, vb]] w fun e w' => GivesTrue w e w' := by
  have HA : Hid (ListAt 0 2 ArmAt w va l) := ha
  have HB : Hid (ListAt 0 2 ArmAt w vb l) := hb
  obtain ⟨aa, ca, hva, _⟩ := ha
  obtain ⟨ab, cb, hvb, _⟩ := hb
  obtain ⟨n, HN⟩ : ∃ n, Hid (l.length = n) := ⟨_, rfl⟩
  rw [HN.out] at hva hvb
  subst hva hvb
  have hne : (d != d) = false := by simp
  go_enter Try.func74, Try.ntmps74
  go_wp2_with fail
  refine (eqArmS_same (.slice aa n ca) (.slice ab n cb) l _ (arms_keep HA.out (Keeps.of_below (by repeat (first | exact Below.refl _ _ | apply Below.drew | refine Below.alloc ?_ (by simp <;> omega) _ | refine Below.setCell ?_ (by simp <;> omega) _)) 0)) (arms_keep HB.out (Keeps.of_below (by repeat (first | exact Below.refl _ _ | apply Below.drew | refine Below.alloc ?_ (by simp <;> omega) _ | refine Below.setCell ?_ (by simp <;> omega) _)) 0))).mono ?_
  rintro e w1 ⟨rfl, b1⟩
  have HB1 : Hid (Below w.heap.size w w1) := Bel.after (by repeat (first | exact Below.refl _ _ | apply Below.drew | refine Below.alloc ?_ (by simp <;> omega) _ | refine Below.setCell ?_ (by simp <;> omega) _)) b1
  clear b1
  go_wp2
  go_ret
  exact ⟨rfl, HB1.out⟩

set_option maxHeartbeats 4000000 in
theorem eqPhiS_same (va vb : Value) (l : List PhiD) (w : World) (ha : ListAt 0 2 (PhiAt 0) w va l) (hb : ListAt 0 2 (PhiAt 0) w vb l) :
    Calls Try.prog 52 #[va, vb] w fun e w' => GivesTrue w e w' := by
  obtain ⟨aa, ca, rfl, hm, hca⟩ := ha
  obtain ⟨ab, cb, rfl, _, hcb⟩ := hb
  obtain ⟨n, HN⟩ : ∃ n, Hid (l.length = n) := ⟨_, rfl⟩
  rw [HN.out] at hm hca hcb ⊢
  have HA : Hid (0 < n → ∃ b off, aa = some ⟨b, off, none⟩ ∧ 0 ≤ b ∧ ∀ i x, l[i]? = some x → (PhiAt 0) w b (off + i * 2) x) := hca
  have HB : Hid (0 < n → ∃ b off, ab = some ⟨b, off, none⟩ ∧ 0 ≤ b ∧ ∀ i x, l[i]? = some x → (PhiAt 0) w b (off + i * 2) x) := hcb
  clear hca hcb
  have hne : ((n : Int) != (n : Int)) = false := by simp
  go_enter Try.func52, Try.ntmps52
  go_wp2
  go_loopw [5] (fun i wr => ∃ k : Nat, k ≤ n ∧ i = .int .i64 k ∧ Below w.heap.size w wr) (fun i _ => n - (intOf i).toNat)
  case atStart => exact ⟨0, Nat.zero_le _, rfl, Below.refl _ _⟩
  case round =>
    obtain ⟨k, hk, rfl, hb3⟩ := hrel
    have H1 : Hid (Below w.heap.size w wr) := hb3
    clear hb3
    by_cases hlt : (k : Int) < (n : Int)
    · obtain ⟨b, off, rfl, _, hc1⟩ := HA.out (by omega)
      obtain ⟨b', off', rfl, _, hc2⟩ := HB.out (by omega)
      have hkl : k < l.length := by have := HN.out; omega
      obtain ⟨x, HX⟩ : ∃ x, Hid (l[k]? = some x) := ⟨l[k], List.getElem?_eq_getElem hkl⟩
      obtain ⟨c0, sv, c1, hsv⟩ := (hc1 k x HX.out).keep (Keeps.of_below H1.out 0) (Nat.zero_le _)
      obtain ⟨d0, sv2, d1, hsv2⟩ := (hc2 k x HX.out).keep (Keeps.of_below H1.out 0) (Nat.zero_le _)
      clear hc1 hc2 hkl
      obtain ⟨x0, x1⟩ := x
      have HSV : Hid (ListAt 0 2 ArmAt wr sv x1) := hsv
      have HSV2 : Hid (ListAt 0 2 ArmAt wr sv2 x1) := hsv2
      clear hsv hsv2
      go_wp2
      go_region_with (go_at_call 74; refine (eqPhi_same x0 sv sv2 x1 _ (arms_keep HSV.out (Keeps.of_below (Below.refl _ _).drew 0)) (arms_keep HSV2.out (Keeps.of_below (Below.refl _ _).drew 0))).mono ?_; rintro e w1 ⟨rfl, b1⟩)
      all_goals
        go_wp2
        go_roundw
        case rel => exact ⟨k + 1, by omega, by go_num, by first | exact Bel.after H1.out.drew (by assumption) | exact Bel.after H1.out (by assumption)⟩
        case measure => simp [intOf]; omega
    · go_wp2
      go_ret
      exact ⟨rfl, H1.out⟩

set_option maxHeartbeats 1000000 in
theorem eqBlock_same (pa pb la lb : Value) (ps : List PhiD) (is : List InsD) (k a t o : Int) (w : World) (hpa : ListAt 0 2 (PhiAt 0) w pa ps) (hpb : ListAt 0 2 (PhiAt 0) w pb ps) (hla : ListAt 0 5 InsAt w la is) (hlb : ListAt 0 5 InsAt w lb is) :
    Calls Try.prog 31 #[.agg #[pa, la, .int .i64 k, .int .i64 a, .int .i64 t, .int .i64 o], .agg #[pb, lb, .int .i64 k, .int .i64 a, .int .i64 t, .int .i64 o]] w fun e w' => GivesTrue w e w' := by
  have HPA : Hid (ListAt 0 2 (PhiAt 0) w pa ps) := hpa
  have HPB : Hid (ListAt 0 2 (PhiAt 0) w pb ps) := hpb
  have HLA : Hid (ListAt 0 5 InsAt w la is) := hla
  have HLB : Hid (ListAt 0 5 InsAt w lb is) := hlb
  obtain ⟨a1, c1, hv1, _⟩ := hpa
  obtain ⟨a2, c2, hv2, _⟩ := hpb
  obtain ⟨a3, c3, hv3, _⟩ := hla
  obtain ⟨a4, c4, hv4, _⟩ := hlb
  obtain ⟨n, HN⟩ : ∃ n, Hid (ps.length = n) := ⟨_, rfl⟩
  obtain ⟨m, HM⟩ : ∃ m, Hid (is.length = m) := ⟨_, rfl⟩
  rw [HN.out] at hv1 hv2
  rw [HM.out] at hv3 hv4
  subst hv1 hv2 hv3 hv4
  go_enter Try.func31, Try.ntmps31
  go_wp2_with fail
  refine (eqPhiS_same (.slice a1 n c1) (.slice a2 n c2) ps _ (phis_keep HPA.out (Keeps.of_below (by repeat (first | exact Below.refl _ _ | apply Below.drew | refine Below.alloc ?_ (by simp <;> omega) _ | refine Below.setCell ?_ (by simp <;> omega) _)) 0)) (phis_keep HPB.out (Keeps.of_below (by repeat (first | exact Below.refl _ _ | apply Below.drew | refine Below.alloc ?_ (by simp <;> omega) _ | refine Below.setCell ?_ (by simp <;> omega) _)) 0))).mono ?_
  rintro e w1 ⟨rfl, b1⟩
  have HB1 : Hid (Below w.heap.size w w1) := Bel.after (by repeat (first | exact Below.refl _ _ | apply Below.drew | refine Below.alloc ?_ (by simp <;> omega) _ | refine Below.setCell ?_ (by simp <;> omega) _)) b1
  have x1 := Bel.keeps b1 (p := ⟨w.heap.size, 1, none⟩) (v := .slice a3 m c3) (by simp [go_sem])
  have x2 := Bel.keeps b1 (p := ⟨w.heap.size, 2, none⟩) (v := .int .i64 k) (by simp [go_sem])
  have x3 := Bel.keeps b1 (p := ⟨w.heap.size, 3, none⟩) (v := .int .i64 a) (by simp [go_sem])
  have x4 := Bel.keeps b1 (p := ⟨w.heap.size, 4, none⟩) (v := .int .i64 t) (by simp [go_sem])
  have x5 := Bel.keeps b1 (p := ⟨w.heap.size, 5, none⟩) (v := .int .i64 o) (by simp [go_sem])
  have y1 := Bel.keeps b1 (p := ⟨w.heap.size + 1, 1, none⟩) (v := .slice a4 m c4) (by simp [go_sem])
  have y2 := Bel.keeps b1 (p := ⟨w.heap.size + 1, 2, none⟩) (v := .int .i64 k) (by simp [go_sem])
  have y3 := Bel.keeps b1 (p := ⟨w.heap.size + 1, 3, none⟩) (v := .int .i64 a) (by simp [go_sem])
  have y4 := Bel.keeps b1 (p := ⟨w.heap.size + 1, 4, none⟩) (v := .int .i64 t) (by simp [go_sem])
  have y5 := Bel.keeps b1 (p := ⟨w.heap.size + 1, 5, none⟩) (v := .int .i64 o) (by simp [go_sem])
  clear b1
  go_wp2_with fail
  refine (eqInsS_same (.slice a3 m c3) (.slice a4 m c4) is _ (places_keep HLA.out (Keeps.of_below HB1.out 0)) (places_keep HLB.out (Keeps.of_below HB1.out 0))).mono ?_
  rintro e w2 ⟨rfl, b2⟩
  have HB2 : Hid (Below w.heap.size w w2) := Bel.after HB1.out b2
  replace x2 := Bel.keeps b2 x2
  replace x3 := Bel.keeps b2 x3
  replace x4 := Bel.keeps b2 x4
  replace x5 := Bel.keeps b2 x5
  replace y2 := Bel.keeps b2 y2
  replace y3 := Bel.keeps b2 y3
  replace y4 := Bel.keeps b2 y4
  replace y5 := Bel.keeps b2 y5
  clear b2 x1 y1
  go_wp2_with fail
  refine (eqTerm_same k a t o _).mono ?_
  rintro e w3 ⟨rfl, b3⟩
  have HB3 : Hid (Below w.heap.size w w3) := Bel.after HB2.out b3
  clear b3
  go_wp2
  go_ret
  exact ⟨rfl, HB3.out⟩

set_option maxHeartbeats 4000000 in
theorem eqBlockS_same (va vb : Value) (l : List BlockD) (w : World) (ha : ListAt 0 6 (BlockAt 0) w va l) (hb : ListAt 0 6 (BlockAt 0) w vb l) :
    Calls Try.prog 18 #[va, vb] w fun e w' => GivesTrue w e w' := by
  obtain ⟨aa, ca, rfl, hm, hca⟩ := ha
  obtain ⟨ab, cb, rfl, _, hcb⟩ := hb
  obtain ⟨n, HN⟩ : ∃ n, Hid (l.length = n) := ⟨_, rfl⟩
  rw [HN.out] at hm hca hcb ⊢
  have HA : Hid (0 < n → ∃ b off, aa = some ⟨b, off, none⟩ ∧ 0 ≤ b ∧ ∀ i x, l[i]? = some x → (BlockAt 0) w b (off + i * 6) x) := hca
  have HB : Hid (0 < n → ∃ b off, ab = some ⟨b, off, none⟩ ∧ 0 ≤ b ∧ ∀ i x, l[i]? = some x → (BlockAt 0) w b (off + i * 6) x) := hcb
  clear hca hcb
  have hne : ((n : Int) != (n : Int)) = false := by simp
  go_enter Try.func18, Try.ntmps18
  go_wp2
  go_loopw [5] (fun i wr => ∃ k : Nat, k ≤ n ∧ i = .int .i64 k ∧ Below w.heap.size w wr) (fun i _ => n - (intOf i).toNat)
  case atStart => exact ⟨0, Nat.zero_le _, rfl, Below.refl _ _⟩
  case round =>
    obtain ⟨k, hk, rfl, hb3⟩ := hrel
    have H1 : Hid (Below w.heap.size w wr) := hb3
    clear hb3
    by_cases hlt : (k : Int) < (n : Int)
    · obtain ⟨b, off, rfl, _, hc1⟩ := HA.out (by omega)
      obtain ⟨b', off', rfl, _, hc2⟩ := HB.out (by omega)
      have hkl : k < l.length := by have := HN.out; omega
      obtain ⟨x, HX⟩ : ∃ x, Hid (l[k]? = some x) := ⟨l[k], List.getElem?_eq_getElem hkl⟩
      obtain ⟨pv, lv, c0, c1, c2, c3, c4, c5, hpv, hlv⟩ := (hc1 k x HX.out).keep (Keeps.of_below H1.out 0) (Nat.zero_le _)
      obtain ⟨pv2, lv2, d0, d1, d2, d3, d4, d5, hpv2, hlv2⟩ := (hc2 k x HX.out).keep (Keeps.of_below H1.out 0) (Nat.zero_le _)
      clear hc1 hc2 hkl
      obtain ⟨x0, x1, ⟨x2, x3, x4, x5⟩⟩ := x
      have HPV : Hid (ListAt 0 2 (PhiAt 0) wr pv x0) := hpv
      have HLV : Hid (ListAt 0 5 InsAt wr lv x1) := hlv
      have HPV2 : Hid (ListAt 0 2 (PhiAt 0) wr pv2 x0) := hpv2
      have HLV2 : Hid (ListAt 0 5 InsAt wr lv2 x1) := hlv2
      clear hpv hlv hpv2 hlv2
      go_wp2
      go_region_with (go_at_call 31; refine (eqBlock_same pv pv2 lv lv2 x0 x1 x2 x3 x4 x5 _ (phis_keep HPV.out (Keeps.of_below (Below.refl _ _).drew 0)) (phis_keep HPV2.out (Keeps.of_below (Below.refl _ _).drew 0)) (places_keep HLV.out (Keeps.of_below (Below.refl _ _).drew 0)) (places_keep HLV2.out (Keeps.of_below (Below.refl _ _).drew 0))).mono ?_; rintro e w1 ⟨rfl, b1⟩)
      all_goals
        go_wp2
        go_roundw
        case rel => exact ⟨k + 1, by omega, by go_num, by first | exact Bel.after H1.out.drew (by assumption) | exact Bel.after H1.out (by assumption)⟩
        case measure => simp [intOf]; omega
    · go_wp2
      go_ret
      exact ⟨rfl, H1.out⟩

set_option maxHeartbeats 1000000 in
theorem eqFn_same (va vb : Value) (F : FnD) (w : World) (ha : FnAt w va F) (hb : FnAt w vb F) :
    Calls Try.prog 8 #[va, vb] w fun e w' => GivesTrue w e w' := by
  obtain ⟨ba, rfl, ha⟩ := ha
  obtain ⟨bb, rfl, hb⟩ := hb
  have HA : Hid (ListAt 0 6 (BlockAt 0) w ba F.blocks) := ha
  have HB : Hid (ListAt 0 6 (BlockAt 0) w bb F.blocks) := hb
  obtain ⟨a1, c1, hv1, _⟩ := ha
  obtain ⟨a2, c2, hv2, _⟩ := hb
  obtain ⟨n, HN⟩ : ∃ n, Hid (F.blocks.length = n) := ⟨_, rfl⟩
  obtain ⟨x, HX⟩ : ∃ x, Hid (F.values = x) := ⟨_, rfl⟩
  rw [HN.out] at hv1 hv2
  subst hv1 hv2
  rw [HX.out]
  have hne : (x != x) = false := by simp
  go_enter Try.func8, Try.ntmps8
  go_wp2_with fail
  refine (eqBlockS_same (.slice a1 n c1) (.slice a2 n c2) F.blocks _ (blocks_keep HA.out (Keeps.of_below (by repeat (first | exact Below.refl _ _ | apply Below.drew | refine Below.alloc ?_ (by simp <;> omega) _ | refine Below.setCell ?_ (by simp <;> omega) _)) 0)) (blocks_keep HB.out (Keeps.of_below (by repeat (first | exact Below.refl _ _ | apply Below.drew | refine Below.alloc ?_ (by simp <;> omega) _ | refine Below.setCell ?_ (by simp <;> omega) _)) 0))).mono ?_
  rintro e w1 ⟨rfl, b1⟩
  have HB1 : Hid (Below w.heap.size w w1) := Bel.after (by repeat (first | exact Below.refl _ _ | apply Below.drew | refine Below.alloc ?_ (by simp <;> omega) _ | refine Below.setCell ?_ (by simp <;> omega) _)) b1
  have x1 := Bel.keeps b1 (p := ⟨w.heap.size, 1, none⟩) (v := .int .i64 x) (by simp [go_sem])
  have y1 := Bel.keeps b1 (p := ⟨w.heap.size + 1, 1, none⟩) (v := .int .i64 x) (by simp [go_sem])
  clear b1
  go_wp2
  go_ret
  exact ⟨rfl, HB1.out⟩

end Go.Proofs.Ytjfogpbhacadbaa
