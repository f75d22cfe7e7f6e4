/- UnpackNum on both sides. -/
import Derived.Test.YthdioeeanodjiaaDoorKBa
namespace Go.Proofs.YthdioeeanodjiaaDoor
open Go.ChangeShapes Go.WideShapes Go.ChangeAt Go.RowKit
set_option linter.unusedVariables false

def GivesU (w : World) (r : Int × Int × Bool) (e : Ending) (w' : World) : Prop := e = .returned (.tuple #[.int .i64 r.1, .int .i64 r.2.1, .bool r.2.2]) ∧ w' = w
theorem rd_at {l : List UInt8} {q : Nat} {c : UInt8} (h : l[q]? = some c) : l.drop q = c :: l.drop (q + 1) := by
  obtain ⟨hl, e⟩ := List.getElem?_eq_some_iff.1 h
  rw [List.drop_eq_getElem_cons hl, e]
theorem acc_next {n k : Nat} {c : UInt8} (h : n < 128 ^ k) : n + c.toNat % 128 * 128 ^ k < 128 ^ (k + 1) := by
  have h1 : c.toNat % 128 < 128 := Nat.mod_lt _ (by decide)
  have h2 : (c.toNat % 128 + 1) * 128 ^ k ≤ 128 * 128 ^ k := Nat.mul_le_mul_right _ h1
  rw [Nat.pow_succ, Nat.mul_comm (128 ^ k) 128]
  rw [Nat.add_mul, Nat.one_mul] at h2
  omega
theorem acc_le {n k : Nat} (h : n < 128 ^ k) (hk : k ≤ 9) : n < 9223372036854775808 := by
  have h1 : 128 ^ k ≤ 128 ^ 9 := Nat.pow_le_pow_right (by decide) hk
  have h2 : (128 : Nat) ^ 9 = 9223372036854775808 := by decide
  omega
theorem or_walk {k n d N : Nat} (hn : n < 128 ^ k) (hd : d < 128) (hk : k < 9) (hN : n + d * 128 ^ k = N) : bits .or .i64 (n : Int) (wrap64 ((d : Int) * 2 ^ (7 * k))) = (N : Int) := by
  have e : ((d : Int) * 2 ^ (7 * k)) = ((d * 128 ^ k : Nat) : Int) := by rw [pow_128]; push_cast; rfl
  have hlt : d * 128 ^ k < 9223372036854775808 := by
    have h2 : 128 ^ (k + 1) ≤ 128 ^ 9 := Nat.pow_le_pow_right (by decide) (by omega)
    have h3 : (128 : Nat) ^ 9 = 9223372036854775808 := by decide
    have h4 : d * 128 ^ k < 128 * 128 ^ k := Nat.mul_lt_mul_of_pos_right hd (Nat.pow_pos (by decide))
    rw [Nat.pow_succ] at h2
    omega
  have e2 : wrap64 ((d * 128 ^ k : Nat) : Int) = ((d * 128 ^ k : Nat) : Int) := by
    generalize d * 128 ^ k = X at hlt
    unfold wrap64; omega
  rw [e, e2, or_join k n d hn hd hk, hN]
def UpR (l : List UInt8) (P : Nat) (w : World) (nv kv : Value) (wr : World) : Prop := ∃ (k n : Nat), nv = .int .i64 (n : Int) ∧ kv = .int .i64 (k : Int) ∧ wr = w ∧ k ≤ 9 ∧ n < 128 ^ k ∧ rd (l.drop (P + k)) k n = rd (l.drop P) 0 0

set_option maxRecDepth 100000 in
set_option maxHeartbeats 2000000 in
theorem spec_unpackNum (v : Value) (l : List UInt8) (p : Int) (w : World) (hb : BytesAt w v l) (hlen : l.length ≤ 1000000000) (hp : -9223372036854775808 ≤ p ∧ p ≤ 9223372036854775807) :
    Calls Tryd.prog 61 #[v, .int .i64 p] w fun e w' => GivesU w (unpackX l p) e w' := by
  obtain ⟨a, cap, rfl, hm, hc⟩ := hb
  obtain ⟨m, HM⟩ : ∃ m, Hid (l.length = m) := ⟨_, rfl⟩
  rw [HM.out] at hm hc ⊢
  have hmx : (m : Int) ≤ 1000000000 := by have := HM.out; omega
  have HC : Hid (0 < m → m ≤ cap ∧ ∃ b off, a = some ⟨b, off, none⟩ ∧ ∀ i, i < m → w.cell? ⟨b, off + i, none⟩ = some (.int .u8 ((l.getD i 0).toNat : Nat))) := hc
  clear hc hm hlen
  by_cases hneg : p < 0
  · go_enter Tryd.func61, Tryd.ntmps61
    go_wp2_with fail
    refine bodyPost_ret (v := .tuple #[.int .i64 0, .int .i64 0, .bool false]) (by simp [results, Tryd.results61, go_sem]) rfl ?_
    exact ⟨by rw [unpackX_out (.inl hneg)], rfl⟩
  · by_cases hfar : (m : Int) ≤ p
    · go_enter Tryd.func61, Tryd.ntmps61
      go_wp2_with fail
      refine bodyPost_ret (v := .tuple #[.int .i64 0, .int .i64 0, .bool false]) (by simp [results, Tryd.results61, go_sem]) rfl ?_
      exact ⟨by rw [unpackX_out (.inr (by rw [HM.out]; exact hfar))], rfl⟩
    · obtain ⟨P, rfl⟩ : ∃ P : Nat, p = (P : Int) := ⟨p.toNat, by omega⟩
      have HPL : Hid (P < m) := by show _ < _; omega
      obtain ⟨hcap, b, off, rfl, hcc⟩ := HC.out (by have := HPL.out; omega)
      have HCC : Hid (∀ i, i < m → w.cell? ⟨b, off + i, none⟩ = some (.int .u8 ((l.getD i 0).toNat : Nat))) := hcc
      clear hcc HC hp
      go_enter Tryd.func61, Tryd.ntmps61
      go_wp2_with fail
      go_loopw [7, 8] (fun nv kv wr => UpR l P w nv kv wr) (fun _ kv _ => 9 - (intOf kv).toNat)
      case atStart => exact ⟨0, 0, rfl, rfl, rfl, by omega, by simp, rfl⟩
      case round =>
        obtain ⟨k, n, rfl, rfl, rfl, hk9, hn, hrd⟩ := hrel
        have HK : Hid (k ≤ 9) := hk9
        have HN : Hid (n < 128 ^ k) := hn
        have HR : Hid (rd (l.drop (P + k)) k n = rd (l.drop P) 0 0) := hrd
        clear hn hrd
        by_cases hk : (k : Int) < 9
        · by_cases hl : (P : Int) + (k : Int) < (m : Int)
          · have hk0 : (0 : Int) ≤ (k : Int) := by omega
            have hPk : (0 : Int) ≤ (P : Int) + (k : Int) := by omega
            obtain ⟨c, HCX⟩ : ∃ c, Hid (l[P + k]? = some c) := ⟨_, List.getElem?_eq_getElem (by rw [HM.out]; omega)⟩
            obtain ⟨z, HZ⟩ : ∃ z, Hid (c.toNat = z) := ⟨_, rfl⟩
            have hz : z < 256 := by rw [← HZ.out]; exact c.toNat_lt
            have q0 : wr.cell? ⟨b, off + (P + k), none⟩ = some (.int .u8 (z : Int)) := by
              have := HCC.out (P + k) (by omega)
              rw [List.getD, HCX.out] at this
              rw [← HZ.out]
              exact this
            by_cases hz0 : z = 0
            · subst hz0
              have HC0 : Hid (c.toNat = 0) := HZ.out
              by_cases hkz : k = 0
              · have hkl : (k : Int) ≤ 0 := by omega
                have HN0 : Hid (n = 0) := by
                  have := HN.out
                  rw [hkz, Nat.pow_zero] at this
                  show _ = _
                  omega
                have hw0 : wrap64 0 = 0 := by unfold wrap64; omega
                have hor : bits .or .i64 (n : Int) 0 = (n : Int) := by rw [HN0.out]; decide
                have hrm : Int.tmod (n : Int) 2 = 0 := by rw [HN0.out]; rfl
                have hqm : Int.tdiv (n : Int) 2 = 0 := by rw [HN0.out]; rfl
                have HE : Hid (unpackX l (P : Int) = (0, (P : Int) + (k : Int) + 1, true)) := by
                  show _ = _
                  rw [unpackX_some (v := 0) (e := k + 1) (by rw [HM.out]; omega)]
                  · rw [show ((P + (k + 1) : Nat) : Int) = (P : Int) + (k : Int) + 1 by omega]
                    rfl
                  · rw [← HR.out, rd_at HCX.out, rd_end (by omega) (by rw [HC0.out]; omega) (by omega), HC0.out, HN0.out]
                    simp
                clear hkz
                go_wp2_with fail
                refine bodyPost_ret (v := .tuple #[.int .i64 0, .int .i64 ((P : Int) + (k : Int) + 1), .bool true]) (by simp [results, Tryd.results61, go_sem]) rfl ?_
                exact ⟨by rw [HE.out], rfl⟩
              · have hkp : (0 : Int) < (k : Int) := by omega
                have HE : Hid (unpackX l (P : Int) = (0, 0, false)) := unpackX_none (by rw [← HR.out, rd_at HCX.out, rd_zero (by omega) HC0.out (by omega)])
                go_wp2_with fail
                refine bodyPost_ret (v := .tuple #[.int .i64 0, .int .i64 0, .bool false]) (by simp [results, Tryd.results61, go_sem]) rfl ?_
                exact ⟨by rw [HE.out], rfl⟩
            · by_cases hz1 : z < 128
              · have hz2 : (z : Int) < 128 := by omega
                have hz3 : ¬ ((z : Int) = 0) := by omega
                obtain ⟨N, HNN⟩ : ∃ N, Hid (n + z * 128 ^ k = N) := ⟨_, rfl⟩
                have hor := or_walk HN.out hz1 (by omega) HNN.out
                have hem : (z : Int) % 128 = (z : Int) := by omega
                have HNL : Hid (N < 9223372036854775808) := by
                  have h1 := acc_next (c := c) HN.out
                  rw [HZ.out, Nat.mod_eq_of_lt hz1, HNN.out] at h1
                  exact acc_le h1 (by omega)
                obtain ⟨r, HR2⟩ : ∃ r : Nat, Hid (N % 2 = r) := ⟨_, rfl⟩
                obtain ⟨h, HH⟩ : ∃ h : Nat, Hid (N / 2 = h) := ⟨_, rfl⟩
                have hrm : Int.tmod (N : Int) 2 = (r : Int) := by rw [Int.tmod_eq_emod_of_nonneg (by omega)]; have := HR2.out; omega
                have hqm : Int.tdiv (N : Int) 2 = (h : Int) := by rw [Int.tdiv_eq_ediv_of_nonneg (by omega)]; have := HH.out; omega
                have hh : (h : Int) ≤ 4611686018427387903 := by have := HH.out; have := HNL.out; omega
                have HE : Hid (unpackX l (P : Int) = (unzig N, ((P + (k + 1) : Nat) : Int), true)) := by
                  show _ = _
                  rw [unpackX_some (v := N) (e := k + 1) (by rw [HM.out]; omega)]
                  rw [← HR.out, rd_at HCX.out, rd_end (by omega) (by rw [HZ.out]; omega) (by rw [HZ.out]; omega), HZ.out, Nat.mod_eq_of_lt hz1, HNN.out]
                by_cases hodd : r = 1
                · subst hodd
                  have HU : Hid (unzig N = 0 - (h : Int) - 1) := by
                    show _ = _
                    unfold unzig
                    rw [if_pos HR2.out, HH.out]
                  go_wp2_with fail
                  refine bodyPost_ret (v := .tuple #[.int .i64 (-(h : Int) - 1), .int .i64 ((P : Int) + (k : Int) + 1), .bool true]) (by simp [results, Tryd.results61, go_sem]) rfl ?_
                  exact ⟨by rw [HE.out, HU.out, show ((P + (k + 1) : Nat) : Int) = (P : Int) + (k : Int) + 1 by omega, Int.zero_sub], rfl⟩
                · have hr0 : r = 0 := by have := HR2.out; omega
                  subst hr0
                  have HU : Hid (unzig N = (h : Int)) := by
                    show _ = _
                    unfold unzig
                    rw [if_neg (by rw [HR2.out]; omega), HH.out]
                  go_wp2_with fail
                  refine bodyPost_ret (v := .tuple #[.int .i64 (h : Int), .int .i64 ((P : Int) + (k : Int) + 1), .bool true]) (by simp [results, Tryd.results61, go_sem]) rfl ?_
                  exact ⟨by rw [HE.out, HU.out, show ((P + (k + 1) : Nat) : Int) = (P : Int) + (k : Int) + 1 by omega], rfl⟩
              · have hz2 : (128 : Int) ≤ (z : Int) := by omega
                obtain ⟨d, HD⟩ : ∃ d : Nat, Hid (z % 128 = d) := ⟨_, rfl⟩
                have hd : (d : Int) < 128 := by have := HD.out; omega
                have hrm : Int.tmod (z : Int) 128 = (d : Int) := by rw [Int.tmod_eq_emod_of_nonneg (by omega)]; have := HD.out; omega
                obtain ⟨N, HNN⟩ : ∃ N, Hid (n + d * 128 ^ k = N) := ⟨_, rfl⟩
                have hor := or_walk HN.out (by omega) (by omega) HNN.out
                have HREL : Hid (UpR l P wr (.int .i64 (N : Int)) (.int .i64 ((k : Int) + 1)) wr) := by
                  have h1 := acc_next (c := c) HN.out
                  rw [HZ.out, HD.out, HNN.out] at h1
                  refine ⟨k + 1, N, rfl, by simp, rfl, by omega, h1, ?_⟩
                  rw [← HR.out, rd_at HCX.out, rd_more (by omega) (by rw [HZ.out]; exact hz1), HZ.out, HD.out, HNN.out, Nat.add_assoc]
                go_wp2_with fail
                try rw [hor]
                exact ⟨HREL.out, by simp [intOf]; omega⟩
          · have hk0 : (0 : Int) ≤ (k : Int) := by omega
            have HE : Hid (unpackX l (P : Int) = (0, 0, false)) := unpackX_none (by rw [← HR.out, List.drop_eq_nil_of_le (by rw [HM.out]; omega)]; rfl)
            go_wp2_with fail
            refine bodyPost_ret (v := .tuple #[.int .i64 0, .int .i64 0, .bool false]) (by simp [results, Tryd.results61, go_sem]) rfl ?_
            exact ⟨by rw [HE.out], rfl⟩
        · have HE : Hid (unpackX l (P : Int) = (0, 0, false)) := unpackX_none (by rw [← HR.out, rd_far (by omega)])
          go_wp2_with fail
          refine bodyPost_ret (v := .tuple #[.int .i64 0, .int .i64 0, .bool false]) (by simp [results, Tryd.results61, go_sem]) rfl ?_
          exact ⟨by rw [HE.out], rfl⟩
theorem impl_packedNum (N : Nat) (w : World) (hN : N < 9223372036854775808) :
    Calls Tryd.prog 72 #[.int .i64 (N : Int)] w fun e w' => e = .returned (.int .i64 (unzig N)) ∧ w' = w := by
  obtain ⟨r, HR2⟩ : ∃ r : Nat, Hid (N % 2 = r) := ⟨_, rfl⟩
  obtain ⟨h, HH⟩ : ∃ h : Nat, Hid (N / 2 = h) := ⟨_, rfl⟩
  have hrm : Int.tmod (N : Int) 2 = (r : Int) := by rw [Int.tmod_eq_emod_of_nonneg (by omega)]; have := HR2.out; omega
  have hqm : Int.tdiv (N : Int) 2 = (h : Int) := by rw [Int.tdiv_eq_ediv_of_nonneg (by omega)]; have := HH.out; omega
  have hh : (h : Int) ≤ 4611686018427387903 := by have := HH.out; omega
  by_cases hodd : r = 1
  · subst hodd
    have hx : bits .xor .i64 (-1) (h : Int) = -1 - (h : Int) := not_i64 _ (by omega)
    have HU : Hid (unzig N = -1 - (h : Int)) := by
      show _ = _
      unfold unzig
      rw [if_pos HR2.out, HH.out]
      omega
    rw [HU.out]
    go_enter Tryd.func72, Tryd.ntmps72
    go_wp2_with fail
    go_ret
    exact ⟨rfl, rfl⟩
  · have hr0 : r = 0 := by have := HR2.out; omega
    subst hr0
    have HU : Hid (unzig N = (h : Int)) := by
      show _ = _
      unfold unzig
      rw [if_neg (by rw [HR2.out]; omega), HH.out]
    rw [HU.out]
    go_enter Tryd.func72, Tryd.ntmps72
    go_wp2_with fail
    go_ret
    exact ⟨rfl, rfl⟩

set_option maxRecDepth 100000 in
set_option maxHeartbeats 2000000 in
theorem impl_unpackNum (v : Value) (l : List UInt8) (p : Int) (w : World) (hb : BytesAt w v l) (hlen : l.length ≤ 1000000000) (hp : -9223372036854775808 ≤ p ∧ p ≤ 9223372036854775807) :
    Calls Tryd.prog 48 #[v, .int .i64 p] w fun e w' => GivesU w (unpackX l p) e w' := by
  obtain ⟨a, cap, rfl, hm, hc⟩ := hb
  obtain ⟨m, HM⟩ : ∃ m, Hid (l.length = m) := ⟨_, rfl⟩
  rw [HM.out] at hm hc ⊢
  have hmx : (m : Int) ≤ 1000000000 := by have := HM.out; omega
  have HC : Hid (0 < m → m ≤ cap ∧ ∃ b off, a = some ⟨b, off, none⟩ ∧ ∀ i, i < m → w.cell? ⟨b, off + i, none⟩ = some (.int .u8 ((l.getD i 0).toNat : Nat))) := hc
  clear hc hm hlen
  by_cases hneg : p < 0
  · go_enter Tryd.func48, Tryd.ntmps48
    go_wp2_with fail
    refine bodyPost_ret (v := .tuple #[.int .i64 0, .int .i64 0, .bool false]) (by simp [results, Tryd.results48, go_sem]) rfl ?_
    exact ⟨by rw [unpackX_out (.inl hneg)], rfl⟩
  · by_cases hfar : (m : Int) ≤ p
    · go_enter Tryd.func48, Tryd.ntmps48
      go_wp2_with fail
      refine bodyPost_ret (v := .tuple #[.int .i64 0, .int .i64 0, .bool false]) (by simp [results, Tryd.results48, go_sem]) rfl ?_
      exact ⟨by rw [unpackX_out (.inr (by rw [HM.out]; exact hfar))], rfl⟩
    · obtain ⟨P, rfl⟩ : ∃ P : Nat, p = (P : Int) := ⟨p.toNat, by omega⟩
      have HPL : Hid (P < m) := by show _ < _; omega
      obtain ⟨hcap, b, off, rfl, hcc⟩ := HC.out (by have := HPL.out; omega)
      have HCC : Hid (∀ i, i < m → w.cell? ⟨b, off + i, none⟩ = some (.int .u8 ((l.getD i 0).toNat : Nat))) := hcc
      clear hcc HC hp
      by_cases hc9 : (m : Int) ≤ (P : Int) + 9
      · obtain ⟨s, HS⟩ : ∃ s : Nat, Hid (m - P = s) := ⟨_, rfl⟩
        have HSM : Hid (P + s ≤ m) := by have := HS.out; have := HPL.out; show _ ≤ _; omega
        have HS9 : Hid (s ≤ 9) := by have := HS.out; show _ ≤ _; omega
        have HEND : Hid (s = 9 ∨ P + s = m) := by have := HS.out; have := HPL.out; exact .inr (by omega)
        go_enter Tryd.func48, Tryd.ntmps48
        go_wp2_with fail
        rw [HS.out]
        go_loopw [7, 27] (fun nv kv wr => UpR l P w nv kv wr ∧ (intOf kv).toNat ≤ s) (fun _ kv _ => 9 - (intOf kv).toNat)
        case atStart => exact ⟨⟨0, 0, rfl, rfl, rfl, by omega, by simp, rfl⟩, by simp [intOf]⟩
        case round =>
          obtain ⟨⟨k, n, rfl, rfl, rfl, hk9, hn, hrd⟩, hks⟩ := hrel
          replace hks : k ≤ s := by simpa [intOf] using hks
          have HK : Hid (k ≤ 9) := hk9
          have HN : Hid (n < 128 ^ k) := hn
          have HR : Hid (rd (l.drop (P + k)) k n = rd (l.drop P) 0 0) := hrd
          clear hn hrd
          by_cases hk : (k : Int) < (s : Int)
          · have hk0 : (0 : Int) ≤ (k : Int) := by omega
            have hkm : k < s := by omega
            obtain ⟨c, HCX⟩ : ∃ c, Hid (l[P + k]? = some c) := ⟨_, List.getElem?_eq_getElem (by rw [HM.out]; have := HSM.out; omega)⟩
            obtain ⟨z, HZ⟩ : ∃ z, Hid (c.toNat = z) := ⟨_, rfl⟩
            have hz : z < 256 := by rw [← HZ.out]; exact c.toNat_lt
            have q0 : wr.cell? ⟨b, off + P + k, none⟩ = some (.int .u8 (z : Int)) := by
              have := HCC.out (P + k) (by have := HSM.out; omega)
              rw [List.getD, HCX.out] at this
              rw [← HZ.out, Nat.add_assoc]
              exact this
            have hk9 : k < 9 := by have := HS9.out; omega
            have h7 : 7 * (k : Int) ≤ 63 := by omega
            by_cases hz0 : z = 0
            · subst hz0
              have HC0 : Hid (c.toNat = 0) := HZ.out
              by_cases hkz : k = 0
              · have hkl : (k : Int) ≤ 0 := by omega
                have HN0 : Hid (n = 0) := by
                  have := HN.out
                  rw [hkz, Nat.pow_zero] at this
                  show _ = _
                  omega
                have hw0 : wrap64 0 = 0 := by unfold wrap64; omega
                have hor : bits .or .i64 (n : Int) 0 = (n : Int) := by rw [HN0.out]; decide
                have HE : Hid (unpackX l (P : Int) = (0, (P : Int) + (k : Int) + 1, true)) := by
                  show _ = _
                  rw [unpackX_some (v := 0) (e := k + 1) (by rw [HM.out]; omega)]
                  · rw [show ((P + (k + 1) : Nat) : Int) = (P : Int) + (k : Int) + 1 by omega]
                    rfl
                  · rw [← HR.out, rd_at HCX.out, rd_end (by omega) (by rw [HC0.out]; omega) (by omega), HC0.out, HN0.out]
                    simp
                clear hkz
                go_wp2_with fail
                refine (impl_packedNum n _ (by rw [HN0.out]; omega)).mono ?_
                rintro e w9 ⟨rfl, rfl⟩
                rw [HN0.out, show unzig 0 = 0 from rfl]
                go_wp2_with fail
                refine bodyPost_ret (v := .tuple #[.int .i64 0, .int .i64 ((P : Int) + (k : Int) + 1), .bool true]) (by simp [results, Tryd.results48, go_sem]) rfl ?_
                exact ⟨by rw [HE.out], rfl⟩
              · have hkp : (0 : Int) < (k : Int) := by omega
                have HE : Hid (unpackX l (P : Int) = (0, 0, false)) := unpackX_none (by rw [← HR.out, rd_at HCX.out, rd_zero (by omega) HC0.out (by omega)])
                go_wp2_with fail
                refine bodyPost_ret (v := .tuple #[.int .i64 0, .int .i64 0, .bool false]) (by simp [results, Tryd.results48, go_sem]) rfl ?_
                exact ⟨by rw [HE.out], rfl⟩
            · by_cases hz1 : z < 128
              · have hz2 : (z : Int) < 128 := by omega
                have hz3 : ¬ ((z : Int) = 0) := by omega
                obtain ⟨N, HNN⟩ : ∃ N, Hid (n + z * 128 ^ k = N) := ⟨_, rfl⟩
                have hor := or_walk HN.out hz1 (by omega) HNN.out
                have hem : (z : Int) % 128 = (z : Int) := by omega
                have HNL : Hid (N < 9223372036854775808) := by
                  have h1 := acc_next (c := c) HN.out
                  rw [HZ.out, Nat.mod_eq_of_lt hz1, HNN.out] at h1
                  exact acc_le h1 (by omega)
                have HE : Hid (unpackX l (P : Int) = (unzig N, (P : Int) + (k : Int) + 1, true)) := by
                  show _ = _
                  rw [unpackX_some (v := N) (e := k + 1) (by rw [HM.out]; omega), show ((P + (k + 1) : Nat) : Int) = (P : Int) + (k : Int) + 1 by omega]
                  rw [← HR.out, rd_at HCX.out, rd_end (by omega) (by rw [HZ.out]; omega) (by rw [HZ.out]; omega), HZ.out, Nat.mod_eq_of_lt hz1, HNN.out]
                go_wp2_with fail
                refine (impl_packedNum N _ HNL.out).mono ?_
                rintro e w9 ⟨rfl, rfl⟩
                obtain ⟨U, HU⟩ : ∃ U, Hid (unzig N = U) := ⟨_, rfl⟩
                rw [HU.out]
                go_wp2_with fail
                refine bodyPost_ret (v := .tuple #[.int .i64 U, .int .i64 ((P : Int) + (k : Int) + 1), .bool true]) (by simp [results, Tryd.results48, go_sem]) rfl ?_
                exact ⟨by rw [HE.out, HU.out], rfl⟩
              · have hz2 : (128 : Int) ≤ (z : Int) := by omega
                obtain ⟨d, HD⟩ : ∃ d : Nat, Hid (z % 128 = d) := ⟨_, rfl⟩
                have hd : (d : Int) < 128 := by have := HD.out; omega
                have hrm : Int.tmod (z : Int) 128 = (d : Int) := by rw [Int.tmod_eq_emod_of_nonneg (by omega)]; have := HD.out; omega
                have hem : (z : Int) % 128 = (d : Int) := by have := HD.out; omega
                obtain ⟨N, HNN⟩ : ∃ N, Hid (n + d * 128 ^ k = N) := ⟨_, rfl⟩
                have hor := or_walk HN.out (by omega) (by omega) HNN.out
                have HREL : Hid (UpR l P wr (.int .i64 (N : Int)) (.int .i64 ((k : Int) + 1)) wr) := by
                  have h1 := acc_next (c := c) HN.out
                  rw [HZ.out, HD.out, HNN.out] at h1
                  refine ⟨k + 1, N, rfl, by simp, rfl, by omega, h1, ?_⟩
                  rw [← HR.out, rd_at HCX.out, rd_more (by omega) (by rw [HZ.out]; exact hz1), HZ.out, HD.out, HNN.out, Nat.add_assoc]
                go_wp2_with fail
                try rw [hor]
                exact ⟨⟨HREL.out, by simp [intOf]; omega⟩, by simp [intOf]; omega⟩
          · have HE : Hid (unpackX l (P : Int) = (0, 0, false)) := unpackX_none (by
              rcases HEND.out with h9 | h9
              · rw [← HR.out, rd_far (by omega)]
              · rw [← HR.out, List.drop_eq_nil_of_le (by rw [HM.out]; omega)]; rfl)
            go_wp2_with fail
            refine bodyPost_ret (v := .tuple #[.int .i64 0, .int .i64 0, .bool false]) (by simp [results, Tryd.results48, go_sem]) rfl ?_
            exact ⟨by rw [HE.out], rfl⟩
      · have hc8 : (P : Int) + 9 < (m : Int) := by omega
        have HSM : Hid (P + 9 ≤ m) := by have := HPL.out; show _ ≤ _; omega
        have HS9 : Hid (9 ≤ 9) := Nat.le_refl 9
        have HEND : Hid (9 = 9 ∨ P + 9 = m) := .inl rfl
        go_enter Tryd.func48, Tryd.ntmps48
        go_wp2_with fail
        go_loopw [7, 27] (fun nv kv wr => UpR l P w nv kv wr ∧ (intOf kv).toNat ≤ 9) (fun _ kv _ => 9 - (intOf kv).toNat)
        case atStart => exact ⟨⟨0, 0, rfl, rfl, rfl, by omega, by simp, rfl⟩, by simp [intOf]⟩
        case round =>
          obtain ⟨⟨k, n, rfl, rfl, rfl, hk9, hn, hrd⟩, hks⟩ := hrel
          replace hks : k ≤ 9 := by simpa [intOf] using hks
          have HK : Hid (k ≤ 9) := hk9
          have HN : Hid (n < 128 ^ k) := hn
          have HR : Hid (rd (l.drop (P + k)) k n = rd (l.drop P) 0 0) := hrd
          clear hn hrd
          by_cases hk : (k : Int) < 9
          · have hk0 : (0 : Int) ≤ (k : Int) := by omega
            have hkm : k < 9 := by omega
            obtain ⟨c, HCX⟩ : ∃ c, Hid (l[P + k]? = some c) := ⟨_, List.getElem?_eq_getElem (by rw [HM.out]; have := HSM.out; omega)⟩
            obtain ⟨z, HZ⟩ : ∃ z, Hid (c.toNat = z) := ⟨_, rfl⟩
            have hz : z < 256 := by rw [← HZ.out]; exact c.toNat_lt
            have q0 : wr.cell? ⟨b, off + P + k, none⟩ = some (.int .u8 (z : Int)) := by
              have := HCC.out (P + k) (by have := HSM.out; omega)
              rw [List.getD, HCX.out] at this
              rw [← HZ.out, Nat.add_assoc]
              exact this
            have hk9 : k < 9 := by have := HS9.out; omega
            have h7 : 7 * (k : Int) ≤ 63 := by omega
            by_cases hz0 : z = 0
            · subst hz0
              have HC0 : Hid (c.toNat = 0) := HZ.out
              by_cases hkz : k = 0
              · have hkl : (k : Int) ≤ 0 := by omega
                have HN0 : Hid (n = 0) := by
                  have := HN.out
                  rw [hkz, Nat.pow_zero] at this
                  show _ = _
                  omega
                have hw0 : wrap64 0 = 0 := by unfold wrap64; omega
                have hor : bits .or .i64 (n : Int) 0 = (n : Int) := by rw [HN0.out]; decide
                have HE : Hid (unpackX l (P : Int) = (0, (P : Int) + (k : Int) + 1, true)) := by
                  show _ = _
                  rw [unpackX_some (v := 0) (e := k + 1) (by rw [HM.out]; omega)]
                  · rw [show ((P + (k + 1) : Nat) : Int) = (P : Int) + (k : Int) + 1 by omega]
                    rfl
                  · rw [← HR.out, rd_at HCX.out, rd_end (by omega) (by rw [HC0.out]; omega) (by omega), HC0.out, HN0.out]
                    simp
                clear hkz
                go_wp2_with fail
                refine (impl_packedNum n _ (by rw [HN0.out]; omega)).mono ?_
                rintro e w9 ⟨rfl, rfl⟩
                rw [HN0.out, show unzig 0 = 0 from rfl]
                go_wp2_with fail
                refine bodyPost_ret (v := .tuple #[.int .i64 0, .int .i64 ((P : Int) + (k : Int) + 1), .bool true]) (by simp [results, Tryd.results48, go_sem]) rfl ?_
                exact ⟨by rw [HE.out], rfl⟩
              · have hkp : (0 : Int) < (k : Int) := by omega
                have HE : Hid (unpackX l (P : Int) = (0, 0, false)) := unpackX_none (by rw [← HR.out, rd_at HCX.out, rd_zero (by omega) HC0.out (by omega)])
                go_wp2_with fail
                refine bodyPost_ret (v := .tuple #[.int .i64 0, .int .i64 0, .bool false]) (by simp [results, Tryd.results48, go_sem]) rfl ?_
                exact ⟨by rw [HE.out], rfl⟩
            · by_cases hz1 : z < 128
              · have hz2 : (z : Int) < 128 := by omega
                have hz3 : ¬ ((z : Int) = 0) := by omega
                obtain ⟨N, HNN⟩ : ∃ N, Hid (n + z * 128 ^ k = N) := ⟨_, rfl⟩
                have hor := or_walk HN.out hz1 (by omega) HNN.out
                have hem : (z : Int) % 128 = (z : Int) := by omega
                have HNL : Hid (N < 9223372036854775808) := by
                  have h1 := acc_next (c := c) HN.out
                  rw [HZ.out, Nat.mod_eq_of_lt hz1, HNN.out] at h1
                  exact acc_le h1 (by omega)
                have HE : Hid (unpackX l (P : Int) = (unzig N, (P : Int) + (k : Int) + 1, true)) := by
                  show _ = _
                  rw [unpackX_some (v := N) (e := k + 1) (by rw [HM.out]; omega), show ((P + (k + 1) : Nat) : Int) = (P : Int) + (k : Int) + 1 by omega]
                  rw [← HR.out, rd_at HCX.out, rd_end (by omega) (by rw [HZ.out]; omega) (by rw [HZ.out]; omega), HZ.out, Nat.mod_eq_of_lt hz1, HNN.out]
                go_wp2_with fail
                refine (impl_packedNum N _ HNL.out).mono ?_
                rintro e w9 ⟨rfl, rfl⟩
                obtain ⟨U, HU⟩ : ∃ U, Hid (unzig N = U) := ⟨_, rfl⟩
                rw [HU.out]
                go_wp2_with fail
                refine bodyPost_ret (v := .tuple #[.int .i64 U, .int .i64 ((P : Int) + (k : Int) + 1), .bool true]) (by simp [results, Tryd.results48, go_sem]) rfl ?_
                exact ⟨by rw [HE.out, HU.out], rfl⟩
              · have hz2 : (128 : Int) ≤ (z : Int) := by omega
                obtain ⟨d, HD⟩ : ∃ d : Nat, Hid (z % 128 = d) := ⟨_, rfl⟩
                have hd : (d : Int) < 128 := by have := HD.out; omega
                have hrm : Int.tmod (z : Int) 128 = (d : Int) := by rw [Int.tmod_eq_emod_of_nonneg (by omega)]; have := HD.out; omega
                have hem : (z : Int) % 128 = (d : Int) := by have := HD.out; omega
                obtain ⟨N, HNN⟩ : ∃ N, Hid (n + d * 128 ^ k = N) := ⟨_, rfl⟩
                have hor := or_walk HN.out (by omega) (by omega) HNN.out
                have HREL : Hid (UpR l P wr (.int .i64 (N : Int)) (.int .i64 ((k : Int) + 1)) wr) := by
                  have h1 := acc_next (c := c) HN.out
                  rw [HZ.out, HD.out, HNN.out] at h1
                  refine ⟨k + 1, N, rfl, by simp, rfl, by omega, h1, ?_⟩
                  rw [← HR.out, rd_at HCX.out, rd_more (by omega) (by rw [HZ.out]; exact hz1), HZ.out, HD.out, HNN.out, Nat.add_assoc]
                go_wp2_with fail
                try rw [hor]
                exact ⟨⟨HREL.out, by simp [intOf]; omega⟩, by simp [intOf]; omega⟩
          · have HE : Hid (unpackX l (P : Int) = (0, 0, false)) := unpackX_none (by
              rcases HEND.out with h9 | h9
              · rw [← HR.out, rd_far (by omega)]
              · rw [← HR.out, List.drop_eq_nil_of_le (by rw [HM.out]; omega)]; rfl)
            go_wp2_with fail
            refine bodyPost_ret (v := .tuple #[.int .i64 0, .int .i64 0, .bool false]) (by simp [results, Tryd.results48, go_sem]) rfl ?_
            exact ⟨by rw [HE.out], rfl⟩
end Go.Proofs.YthdioeeanodjiaaDoor
