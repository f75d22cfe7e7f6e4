/- Lists of bytes: compared, marked, held against the marks, copied. -/
import Derived.Test.YtgjojajodkagbaaPkB
import Derived.Test.YtgjojajodkagbaaDrawC
import Derived.Deep.OwnRows
namespace Go.Proofs.Ytgjojajodkagbaa
open Go.ChangeShapes Go.WideShapes Go.ChangeAt Go.RowKit
set_option linter.unusedVariables false

set_option maxHeartbeats 1000000 in
theorem eqByteS_same (v1 v2 : Value) (l : List UInt8) (w : World) (h1 : BytesAt w v1 l) (h2 : BytesAt w v2 l) :
    Calls Try.prog 14 #[v1, v2] w fun e w' => e = .returned (.bool true) ∧ Below w.heap.size w w' := by
  obtain ⟨a1, cap1, rfl, hm, hc1⟩ := h1
  obtain ⟨a2, cap2, rfl, _, hc2⟩ := h2
  obtain ⟨n, HN⟩ : ∃ n, Hid (l.length = n) := ⟨_, rfl⟩
  rw [HN.out] at hm hc1 hc2 ⊢
  have hmx : (n : Int) ≤ 9223372036854775807 := by have : maxLen ≤ 9223372036854775807 := by decide
                                                   omega
  have HC1 : Hid (0 < n → n ≤ cap1 ∧ ∃ b off, a1 = some ⟨b, off, none⟩ ∧ ∀ i, i < n → w.cell? ⟨b, off + i, none⟩ = some (.int .u8 ((l.getD i 0).toNat : Nat))) := hc1
  have HC2 : Hid (0 < n → n ≤ cap2 ∧ ∃ b off, a2 = some ⟨b, off, none⟩ ∧ ∀ i, i < n → w.cell? ⟨b, off + i, none⟩ = some (.int .u8 ((l.getD i 0).toNat : Nat))) := hc2
  clear hc1 hc2 hm
  go_enter Try.func14, Try.ntmps14
  go_wp2
  go_loopw [5] (fun iv wr => ∃ k : Nat, k ≤ n ∧ iv = .int .i64 k ∧ Below w.heap.size w wr) (fun iv _ => n - (intOf iv).toNat)
  case atStart => exact ⟨0, Nat.zero_le _, rfl, Below.refl _ _⟩
  case round =>
    obtain ⟨k, hk, rfl, hb3⟩ := hrel
    have HBel : Hid (Below w.heap.size w wr) := hb3
    clear hb3
    by_cases hlt : (k : Int) < (n : Int)
    · obtain ⟨_, b1, o1, rfl, d1⟩ := HC1.out (by omega)
      obtain ⟨_, b2, o2, rfl, d2⟩ := HC2.out (by omega)
      have q1 := Bel.keeps HBel.out (d1 k (by omega))
      have q2 := Bel.keeps HBel.out (d2 k (by omega))
      obtain ⟨z, hz⟩ : ∃ z : Int, (((l.getD k 0).toNat : Nat) : Int) = z := ⟨_, rfl⟩
      rw [hz] at q1 q2
      clear d1 d2 hz
      have hne2 : (z != z) = false := by simp
      go_wp2
      go_quiet (fail)
      go_wp2
      go_roundw
      case rel => exact ⟨k + 1, by omega, by go_num, HBel.out.trans ⟨rfl, rfl, rfl, Nat.le_refl _, fun _ _ => rfl⟩⟩
      case measure => simp [intOf]; omega
    · have hkn : k = n := by omega
      subst hkn
      go_wp2
      go_ret
      exact ⟨rfl, HBel.out⟩

theorem BytesAt.under {w w' : World} {v : Value} {l : List UInt8} (h : BytesAt w v l) {lo : Nat} (hb : Below lo w w') (hv : ∀ a, v.ownBlock = some a → a < lo) : BytesAt w' v l := by
  obtain ⟨a, cap, rfl, hm, hc⟩ := h
  refine ⟨a, cap, rfl, hm, fun hp => ?_⟩
  obtain ⟨hcap, b, off, rfl, hd⟩ := hc hp
  exact ⟨hcap, b, off, rfl, fun i hi => by rw [hb.cell (p := ⟨b, off + i, none⟩) (hv b rfl)]; exact hd i hi⟩

/-- The marks from q on, as bytes. -/
def bmk (q n : Nat) : List UInt8 := (List.range n).map (fun i => UInt8.ofNat (q + i))
theorem bmk_len (q n : Nat) : (bmk q n).length = n := by simp [bmk]
theorem bmk_at (q n i : Nat) (h : i < n) : (bmk q n).getD i 0 = UInt8.ofNat (q + i) := by simp [bmk, List.getD, h]
theorem mark_byte (x : Nat) : (((UInt8.ofNat x).toNat : Nat) : Int) = (x : Int) % 256 := by simp [UInt8.toNat_ofNat']

set_option maxHeartbeats 1000000 in
theorem heldByteS_any (v : Value) (q n : Nat) (w : World) (hr : BytesAt w v (bmk q n)) (hq2 : (q : Int) + n ≤ 9223372036854775807) :
    Calls Try.prog 16 #[v, .int .i64 (q : Int)] w fun e w' => e = .returned (.int .i64 ((q : Int) + n)) ∧ w' = w := by
  obtain ⟨a, cap, rfl, hm, hc⟩ := hr
  rw [bmk_len] at hm hc ⊢
  have HC : Hid (0 < n → n ≤ cap ∧ ∃ b off, a = some ⟨b, off, none⟩ ∧ ∀ i, i < n → w.cell? ⟨b, off + i, none⟩ = some (.int .u8 (((bmk q n).getD i 0).toNat : Nat))) := hc
  clear hc
  go_enter Try.func16, Try.ntmps16
  go_wp2
  go_loop [1, 5] (fun kv i => ∃ k : Nat, k ≤ n ∧ i = .int .i64 k ∧ kv = .int .i64 ((q : Int) + k)) (fun _ i => n - (intOf i).toNat)
  case atStart => exact ⟨0, Nat.zero_le _, rfl, by go_num⟩
  case round =>
    obtain ⟨k, hk, rfl, rfl⟩ := hrel
    by_cases hlt2 : (k : Int) < (n : Int)
    · obtain ⟨_, b, off, rfl, hc1⟩ := HC.out (by omega)
      have q1 := hc1 k (by omega)
      rw [bmk_at _ _ _ (by omega), mark_byte] at q1
      have e9 : ((q + k : Nat) : Int) = (q : Int) + (k : Int) := by omega
      rw [e9] at q1
      clear hc1 e9
      go_wp2
      go_round
      case rel => exact ⟨k + 1, by omega, by go_num, by go_num⟩
      case measure => simp [intOf]; omega
    · have hkn : k = n := by omega
      subst hkn
      go_wp2
      go_ret
      exact ⟨rfl, rfl⟩

set_option maxHeartbeats 1000000 in
theorem markByteS_own (lo : Nat) (v : Value) (l : List UInt8) (q : Nat) (w : World) (hr : OwnB w lo v l) (hlo : lo ≤ w.heap.size) (hq2 : (q : Int) + l.length ≤ 9223372036854775807) :
    Calls Try.prog 15 #[v, .int .i64 (q : Int)] w fun e w' => e = .returned (.int .i64 ((q : Int) + l.length)) ∧ Below lo w w' ∧ BytesAt w' v (bmk q l.length) := by
  have hs := hr.small
  have hmx : (l.length : Int) ≤ 9223372036854775807 := by
    have : maxLen ≤ 9223372036854775807 := by decide
    omega
  obtain ⟨a, cap, rfl, hc⟩ := hr.row
  obtain ⟨n, HN⟩ : ∃ n, Hid (l.length = n) := ⟨_, rfl⟩
  rw [HN.out] at hmx hq2 hc hs ⊢
  have HS : Hid (n ≤ maxLen) := hs
  have HC : Hid (0 < n → n ≤ cap ∧ ∃ g, a = some ⟨g, 0, none⟩ ∧ lo ≤ g ∧ g < w.heap.size ∧ (∀ i, i < n → w.cell? ⟨g, i, none⟩ = some (.int .u8 ((l.getD i 0).toNat : Nat))) ∧ ∀ i, w.frozen? ⟨g, i, none⟩ = false) := hc
  clear hc hr hs
  go_enter Try.func15, Try.ntmps15
  go_wp2
  go_loopw [1, 5] (fun kv i wr => ∃ k : Nat, k ≤ n ∧ i = .int .i64 k ∧ kv = .int .i64 ((q : Int) + k) ∧ Below lo w wr ∧ ∀ g, a = some ⟨g, 0, none⟩ → ((∀ j, j < k → wr.cell? ⟨g, j, none⟩ = some (.int .u8 (((q : Int) + j) % 256))) ∧ (∀ j, k ≤ j → j < n → ∃ x, wr.cell? ⟨g, j, none⟩ = some (.int .u8 x)) ∧ (∀ j, j < n → wr.frozen? ⟨g, j, none⟩ = false))) (fun _ i _ => n - (intOf i).toNat)
  case atStart =>
    refine ⟨0, Nat.zero_le _, rfl, by go_num, Below.refl _ _, fun g hg => ⟨fun j hj => absurd hj (by omega), fun j _ hj => ?_, fun j hj => ?_⟩⟩
    · obtain ⟨_, g', e, _, _, h1, _⟩ := HC.out (by omega)
      rw [hg] at e
      cases e
      exact ⟨_, h1 j hj⟩
    · obtain ⟨_, g', e, _, _, _, h2⟩ := HC.out (by omega)
      rw [hg] at e
      cases e
      exact h2 j
  case round =>
    obtain ⟨k, hk, rfl, rfl, hfr, hdone⟩ := hrel
    have H1 : Hid (Below lo w wr) := hfr
    have H2 : Hid (∀ g, a = some ⟨g, 0, none⟩ → ((∀ j, j < k → wr.cell? ⟨g, j, none⟩ = some (.int .u8 (((q : Int) + j) % 256))) ∧ (∀ j, k ≤ j → j < n → ∃ x, wr.cell? ⟨g, j, none⟩ = some (.int .u8 x)) ∧ (∀ j, j < n → wr.frozen? ⟨g, j, none⟩ = false))) := hdone
    clear hfr hdone
    by_cases hlt2 : (k : Int) < (n : Int)
    · obtain ⟨_, g, rfl, hg, _⟩ := HC.out (by omega)
      obtain ⟨K1, K2, K3⟩ := H2.out g rfl
      obtain ⟨x, q1⟩ := K2 k (Nat.le_refl _) (by omega)
      have q2 := K3 k (by omega)
      have K1' : Hid (∀ j, j < k → wr.cell? ⟨g, j, none⟩ = some (.int .u8 (((q : Int) + j) % 256))) := K1
      have K2' : Hid (∀ j, k ≤ j → j < n → ∃ x, wr.cell? ⟨g, j, none⟩ = some (.int .u8 x)) := K2
      have K3' : Hid (∀ j, j < n → wr.frozen? ⟨g, j, none⟩ = false) := K3
      clear K1 K2 K3
      go_wp2
      go_roundw
      case rel =>
        refine ⟨k + 1, by omega, by go_num, by go_num, H1.out.setCell (p := ⟨g, k, none⟩) hg _, fun g' e => ?_⟩
        cases e
        refine ⟨fun j hj => ?_, fun j hj hj2 => ?_, fun j hj => ?_⟩
        · by_cases hjk : j = k
          · subst hjk
            exact World.cell?_setCell_same _ _ _ q1
          · rw [World.cell?_setCell_other _ _ _ _ (by simp <;> omega)]
            exact K1'.out j (by omega)
        · rw [World.cell?_setCell_other _ _ _ _ (by simp <;> omega)]
          exact K2'.out j (by omega) hj2
        · simpa using K3'.out j hj
      case measure => simp [intOf]; omega
    · have hkn : k = n := by omega
      subst hkn
      go_wp2
      go_ret
      refine ⟨rfl, H1.out, a, cap, by rw [bmk_len], by rw [bmk_len]; exact HS.out, fun hp => ?_⟩
      rw [bmk_len] at hp
      obtain ⟨hcap, g, rfl, _⟩ := HC.out hp
      refine ⟨by rw [bmk_len]; exact hcap, g, 0, rfl, fun i hi => ?_⟩
      rw [bmk_len] at hi
      rw [bmk_at _ _ _ hi, mark_byte]
      simpa using (H2.out g rfl).1 i hi

/-- What is handed in reads as bytes. -/
theorem IsRow.bytes {w : World} {a : Option Addr} {len cap : Nat} {zs : List Int} (h : IsRow .u8 w a len cap zs) : ∃ l : List UInt8, l.length = len ∧ BytesAt w (.slice a len cap) l := by
  rcases h with ⟨rfl, rfl, rfl, rfl⟩ | ⟨x, rfl, h1, h2, h3, hc, hw⟩
  · exact ⟨[], rfl, none, 0, rfl, Nat.zero_le _, fun hp => absurd hp (by simp)⟩
  · refine ⟨(zs.take len).map (fun z => UInt8.ofNat z.toNat), ?_, some x, cap, ?_, ?_, fun hp => ?_⟩
    · simp; omega
    · rw [List.length_map, List.length_take, Nat.min_eq_left (by omega)]
    · simp; omega
    · have hl : ((zs.take len).map (fun z => UInt8.ofNat z.toNat)).length = len := by simp; omega
      rw [hl] at hp ⊢
      obtain ⟨b, off, pth⟩ := x
      have hp0 : pth = none := by
        cases pth with
        | none => rfl
        | some sp =>
          have h9 := hc 0 (by omega)
          unfold World.cell? at h9
          have e9 : ((⟨b, off, some sp⟩ : Addr).add 0).spot = some sp := by simp [Addr.add]
          rw [e9] at h9
          split at h9 <;> simp at h9
      subst hp0
      refine ⟨h1, b, off, rfl, fun i hi => ?_⟩
      have h9 := hc i (by omega)
      rw [addr_add] at h9
      rw [h9]
      have hi2 : i < zs.length := by omega
      have hw9 := hw _ (List.getElem_mem hi2)
      simp [Lit.wf, IntKind.min, IntKind.max, IntKind.bits, IntKind.signed] at hw9
      have e5 : ((zs.take len).map (fun z => UInt8.ofNat z.toNat)).getD i 0 = UInt8.ofNat (zs[i].toNat) := by
        rw [List.getD, List.getElem?_map, List.getElem?_take, if_pos hi, List.getElem?_eq_getElem hi2]
        rfl
      rw [e5, List.getD, List.getElem?_eq_getElem hi2]
      simp
      omega
/-- A new row of bytes, all of them 0. -/
theorem make_bytes (n : Nat) (hn : n ≤ 1048576) (w : World) : (Instr.makeSlice 22 (.int .i64 (n : Int)) (.int .i64 (n : Int))).run Try.prog w = .ok (.slice (some ⟨w.heap.size, 0, none⟩) n n) (w.alloc (.cells (madeCells #[.int .u8 0] n) 5)) :=
  run_make_row' 22 5 (.int .u8 0) 1 Try.underlying22 (by kernel_rfl) rfl .i64 .i64 n (by omega) (by omega) w
/-- The copy so far: k bytes are put, noughts behind them. -/
def cpL (l : List UInt8) (k : Nat) : List UInt8 := l.take k ++ List.replicate (l.length - k) 0
theorem cpL_len (l : List UInt8) (k : Nat) (hk : k ≤ l.length) : (cpL l k).length = l.length := by simp [cpL]; omega
theorem cpL_set (l : List UInt8) (k : Nat) (hk : k < l.length) : (cpL l k).set k (l.getD k 0) = cpL l (k + 1) := by
  unfold cpL
  rw [List.set_append_right _ _ (by simp; omega), List.length_take, Nat.min_eq_left (by omega), Nat.sub_self]
  rw [show l.length - k = (l.length - (k + 1)) + 1 by omega, List.replicate_succ, List.set_cons_zero, List.take_add_one]
  simp only [List.getD, List.getElem?_eq_getElem hk, Option.getD_some, Option.toList_some]
  rw [List.append_assoc]
  rfl
def CpR (w : World) (l : List UInt8) (G n : Nat) (iv : Value) (wr : World) : Prop := ∃ k : Nat, k ≤ n ∧ iv = .int .i64 k ∧ Below w.heap.size w wr ∧ wr.heap[G]? = some (.cells (Lib.byteCells (cpL l k)).toArray 5 (0, 0))
set_option maxHeartbeats 1000000 in
theorem toByteS_any (v : Value) (l : List UInt8) (w : World) (hb : BytesAt w v l) (hn : l.length ≤ 1048576) :
    Calls Try.prog 17 #[v] w fun e w' => GivesB w l e w' := by
  obtain ⟨a, cap, rfl, hm, hc⟩ := hb
  obtain ⟨n, HN⟩ : ∃ n, Hid (l.length = n) := ⟨_, rfl⟩
  rw [HN.out] at hm hc hn ⊢
  have HC : Hid (0 < n → n ≤ cap ∧ ∃ b off, a = some ⟨b, off, none⟩ ∧ ∀ i, i < n → w.cell? ⟨b, off + i, none⟩ = some (.int .u8 ((l.getD i 0).toNat : Nat))) := hc
  have mk := make_bytes n hn w
  clear hc hm
  go_enter Try.func17, Try.ntmps17
  go_wp2_with fail
  have H1 : Hid ((w.alloc (.cells (madeCells #[.int .u8 0] n) 5)).heap[w.heap.size]? = some (.cells (Lib.byteCells (cpL l 0)).toArray 5 (0, 0))) := by
    show _ = _
    rw [World.alloc_heap_new]
    have e9 : madeCells #[.int .u8 0] n = (Lib.byteCells (cpL l 0)).toArray := by
      apply Array.ext'
      rw [toList_madeCells_one]
      simp [cpL, Lib.byteCells, HN.out]
    rw [e9]
  have B1 : Hid (Below w.heap.size w (w.alloc (.cells (madeCells #[.int .u8 0] n) 5))) := Bel.alloc _ _
  clear mk
  generalize w.alloc (.cells (madeCells #[.int .u8 0] n) 5) = w1 at H1 B1 ⊢
  obtain ⟨G, HG⟩ : ∃ G, Hid (w.heap.size = G) := ⟨_, rfl⟩
  rw [HG.out] at H1 ⊢
  go_loopw [4] (fun i wr => CpR w l G n i wr) (fun i _ => n - (intOf i).toNat)
  case atStart => exact ⟨0, Nat.zero_le _, rfl, B1.out, H1.out⟩
  case round =>
    obtain ⟨k, hk, rfl, hb, hg⟩ := hrel
    have HB : Hid (Below w.heap.size w wr) := hb
    have HGG : Hid (wr.heap[G]? = some (.cells (Lib.byteCells (cpL l k)).toArray 5 (0, 0))) := hg
    by_cases hlt : (k : Int) < (n : Int)
    · have hkl : k < n := by omega
      obtain ⟨_, b, off, rfl, hx⟩ := HC.out (by omega)
      have c1 := Bel.keeps hb (hx k hkl)
      obtain ⟨c, HCC⟩ : ∃ c, Hid (l.getD k 0 = c) := ⟨_, rfl⟩
      rw [HCC.out] at c1
      obtain ⟨z, HZ⟩ : ∃ z : Int, Hid (((c.toNat : Nat) : Int) = z) := ⟨_, rfl⟩
      rw [HZ.out] at c1
      have hl9 := cpL_len l k (by have := HN.out; omega)
      have c2 : ∃ u, wr.cell? ⟨G, k, none⟩ = some u := by
        refine ⟨_, (by unfold World.cell?; rw [hg]; simp : wr.cell? ⟨G, k, none⟩ = (Lib.byteCells (cpL l k))[k]?).trans (List.getElem?_eq_getElem (by rw [Lib.byteCells_length, hl9, HN.out]; exact hkl))⟩
      obtain ⟨u, c2⟩ := c2
      have fz : wr.frozen? ⟨G, k, none⟩ = false := by simp [World.frozen?, hg]
      have HREL : Hid (CpR w l G n (.int .i64 ((k : Int) + 1)) (wr.setCell ⟨G, k, none⟩ (.int .u8 z))) := by
        refine ⟨k + 1, by omega, by simp, HB.out.setCell (p := ⟨G, k, none⟩) (by show w.heap.size ≤ G; rw [HG.out]; exact Nat.le_refl _) _, ?_⟩
        rw [heap_setCell_same _ _ _ _ _ _ hg]
        have e9 : (Lib.byteCells (cpL l k)).toArray.setIfInBounds k (.int .u8 z) = (Lib.byteCells (cpL l (k + 1))).toArray := by
          apply Array.ext'
          simp
          rw [← cpL_set l k (by rw [HN.out]; exact hkl), HCC.out, ← HZ.out]
          simp [Lib.byteCells, List.map_set]
        rw [e9]
      clear hb hg hx hl9
      go_wp2_with fail
      go_roundw
      case rel => exact HREL.out
      case measure => simp [intOf]; omega
    · have hkl : k = n := by omega
      subst hkl
      clear hb hg
      go_wp2_with fail
      go_ret
      refine ⟨_, rfl, ?_, HB.out⟩
      have h9 := HGG.out
      have e9 : cpL l k = l := by
        unfold cpL
        rw [HN.out, Nat.sub_self, ← HN.out, List.take_length]
        simp
      rw [e9] at h9
      rw [HG.out]
      have hmx : k ≤ maxLen := by
        have : 1048576 ≤ maxLen := by decide
        omega
      refine ⟨by rw [Lib.byteCells_length, Nat.mul_one], .inr ⟨G, k, (Lib.byteCells l).toArray, by rw [HN.out]; rfl, Nat.le_refl _, h9, by rw [HN.out]; exact Nat.le_refl _, hmx, by simp [Lib.byteCells_length, HN.out], ?_⟩⟩
      rw [Nat.mul_one, ← Lib.byteCells_length l]
      exact List.take_length
end Go.Proofs.Ytgjojajodkagbaa
