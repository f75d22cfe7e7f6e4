/- Marking a program turns its own numbers alone. -/
import Derived.Test.YtgjojajodkagbaaMark
namespace Go.Proofs.Ytgjojajodkagbaa
open Go.ChangeShapes Go.WideShapes Go.ChangeAt Go.RowKit
set_option linter.unusedVariables false

/-- Nothing there is frozen. -/
def Thaw (lo hi : Nat) (w : World) : Prop := ∀ p : Addr, lo ≤ p.block → p.block < hi → w.frozen? p = false
theorem Thaw.turn {lo hi : Nat} {w w' : World} (h : Thaw lo hi w) (t : Turns lo hi w w') : Thaw lo hi w' := fun p h1 h2 => (t.fz p).trans (h p h1 h2)
/-- So many marks at most were put. -/
def GivesMark (lo hi : Nat) (q c : Int) (w : World) (e : Ending) (w' : World) : Prop := ∃ z, e = .returned (.int .i64 z) ∧ q ≤ z ∧ z ≤ q + c ∧ Turns lo hi w w'

set_option maxHeartbeats 2000000 in
theorem markArmS_any (lo hi : Nat) (v : Value) (n : Nat) (q : Int) (w : World) (hm : MarkAt lo hi 2 ArmM w v n) (hz : Thaw lo hi w) (hn : n ≤ 1048576) (hq : 0 ≤ q) (hq2 : q ≤ 4611686018427387904) :
    Calls Try.prog 63 #[v, .int .i64 q] w fun e w' => GivesMark lo hi q 2097152 w e w' := by
  obtain ⟨a, cap, rfl, hc⟩ := hm
  have HC : Hid (0 < n → ∃ b off, a = some ⟨b, off, none⟩ ∧ lo ≤ b ∧ b < hi ∧ ∀ i, i < n → ArmM w b (off + i * 2)) := hc
  have HZ : Hid (Thaw lo hi w) := hz
  clear hc hz
  go_enter Try.func63, Try.ntmps63
  go_wp2
  go_loopw [1, 5] (fun kv i wr => ∃ (k : Nat) (z : Int), k ≤ n ∧ i = .int .i64 k ∧ kv = .int .i64 z ∧ q ≤ z ∧ z ≤ q + k * 2 ∧ Turns lo hi w wr) (fun _ i _ => n - (intOf i).toNat)
  case atStart => exact ⟨0, q, Nat.zero_le _, rfl, rfl, Int.le_refl _, by omega, Turns.refl _ _ _⟩
  case round =>
    obtain ⟨k, z, hk, rfl, rfl, hz1, hz2, ht⟩ := hrel
    have HT : Hid (Turns lo hi w wr) := ht
    clear ht
    by_cases hlt : (k : Int) < (n : Int)
    · obtain ⟨b, off, rfl, hb1, hb2, hc1⟩ := HC.out (by omega)
      obtain ⟨⟨z0, c0⟩, ⟨z1, c1⟩⟩ := (hc1 k (by omega)).turn HT.out
      clear hc1
      have f0 := (HZ.out.turn HT.out) ⟨b, off + k * 2, none⟩ hb1 hb2
      have f1 := (HZ.out.turn HT.out) ⟨b, off + k * 2 + 1, none⟩ hb1 hb2
      go_wp2
      go_roundw
      case rel =>
        exact ⟨k + 1, z + 2, by omega, by go_num, by go_num, by omega, by omega, (Turns.put (Turns.put HT.out c0 hb1 hb2 _) (cell_aside c1 (by omega)) hb1 hb2 _)⟩
      case measure => simp [intOf]; omega
    · go_wp2
      go_ret
      exact ⟨z, rfl, hz1, by omega, HT.out⟩

set_option maxHeartbeats 2000000 in
theorem markInsS_any (lo hi : Nat) (v : Value) (n : Nat) (q : Int) (w : World) (hm : MarkAt lo hi 5 InsM w v n) (hz : Thaw lo hi w) (hn : n ≤ 1048576) (hq : 0 ≤ q) (hq2 : q ≤ 4611686018427387904) :
    Calls Try.prog 49 #[v, .int .i64 q] w fun e w' => GivesMark lo hi q 5242880 w e w' := by
  obtain ⟨a, cap, rfl, hc⟩ := hm
  have HC : Hid (0 < n → ∃ b off, a = some ⟨b, off, none⟩ ∧ lo ≤ b ∧ b < hi ∧ ∀ i, i < n → InsM w b (off + i * 5)) := hc
  have HZ : Hid (Thaw lo hi w) := hz
  clear hc hz
  go_enter Try.func49, Try.ntmps49
  go_wp2
  go_loopw [1, 5] (fun kv i wr => ∃ (k : Nat) (z : Int), k ≤ n ∧ i = .int .i64 k ∧ kv = .int .i64 z ∧ q ≤ z ∧ z ≤ q + k * 5 ∧ Turns lo hi w wr) (fun _ i _ => n - (intOf i).toNat)
  case atStart => exact ⟨0, q, Nat.zero_le _, rfl, rfl, Int.le_refl _, by omega, Turns.refl _ _ _⟩
  case round =>
    obtain ⟨k, z, hk, rfl, rfl, hz1, hz2, ht⟩ := hrel
    have HT : Hid (Turns lo hi w wr) := ht
    clear ht
    by_cases hlt : (k : Int) < (n : Int)
    · obtain ⟨b, off, rfl, hb1, hb2, hc1⟩ := HC.out (by omega)
      obtain ⟨⟨z0, c0⟩, ⟨z1, c1⟩, ⟨z2, c2⟩, ⟨z3, c3⟩, ⟨z4, c4⟩⟩ := (hc1 k (by omega)).turn HT.out
      clear hc1
      have f0 := (HZ.out.turn HT.out) ⟨b, off + k * 5, none⟩ hb1 hb2
      have f1 := (HZ.out.turn HT.out) ⟨b, off + k * 5 + 1, none⟩ hb1 hb2
      have f2 := (HZ.out.turn HT.out) ⟨b, off + k * 5 + 2, none⟩ hb1 hb2
      have f3 := (HZ.out.turn HT.out) ⟨b, off + k * 5 + 3, none⟩ hb1 hb2
      have f4 := (HZ.out.turn HT.out) ⟨b, off + k * 5 + 4, none⟩ hb1 hb2
      go_wp2
      go_roundw
      case rel =>
        exact ⟨k + 1, z + 5, by omega, by go_num, by go_num, by omega, by omega, (Turns.put (Turns.put (Turns.put (Turns.put (Turns.put HT.out c0 hb1 hb2 _) (cell_aside c1 (by omega)) hb1 hb2 _) (cell_aside (cell_aside c2 (by omega)) (by omega)) hb1 hb2 _) (cell_aside (cell_aside (cell_aside c3 (by omega)) (by omega)) (by omega)) hb1 hb2 _) (cell_aside (cell_aside (cell_aside (cell_aside c4 (by omega)) (by omega)) (by omega)) (by omega)) hb1 hb2 _)⟩
      case measure => simp [intOf]; omega
    · go_wp2
      go_ret
      exact ⟨z, rfl, hz1, by omega, HT.out⟩

set_option maxHeartbeats 2000000 in
theorem markPhiS_any (lo hi : Nat) (v : Value) (n : Nat) (q : Int) (w : World) (hm : MarkAt lo hi 2 (PhiM lo hi) w v n) (hz : Thaw lo hi w) (hn : n ≤ 1048576) (hq : 0 ≤ q) (hq2 : q ≤ 4000000000000000000) :
    Calls Try.prog 48 #[v, .int .i64 q] w fun e w' => GivesMark lo hi q 2199024304128 w e w' := by
  obtain ⟨a, cap, rfl, hc⟩ := hm
  have HC : Hid (0 < n → ∃ b off, a = some ⟨b, off, none⟩ ∧ lo ≤ b ∧ b < hi ∧ ∀ i, i < n → PhiM lo hi w b (off + i * 2)) := hc
  have HZ : Hid (Thaw lo hi w) := hz
  clear hc hz
  go_enter Try.func48, Try.ntmps48
  go_wp2_with fail
  go_loopw [1, 5] (fun kv i wr => ∃ (k : Nat) (z : Int), k ≤ n ∧ i = .int .i64 k ∧ kv = .int .i64 z ∧ q ≤ z ∧ z ≤ q + k * 2097153 ∧ Turns lo hi w wr) (fun _ i _ => n - (intOf i).toNat)
  case atStart => exact ⟨0, q, Nat.zero_le _, rfl, rfl, Int.le_refl _, by omega, Turns.refl _ _ _⟩
  case round =>
    obtain ⟨k, z, hk, rfl, rfl, hz1, hz2, ht⟩ := hrel
    have HT : Hid (Turns lo hi w wr) := ht
    clear ht
    by_cases hlt : (k : Int) < (n : Int)
    · obtain ⟨b, off, rfl, hb1, hb2, hc1⟩ := HC.out (by omega)
      obtain ⟨⟨z0, c0⟩, sv, sn, hsn, c1, hsv⟩ := (hc1 k (by omega)).turn HT.out
      clear hc1
      have f0 := (HZ.out.turn HT.out) ⟨b, off + k * 2, none⟩ hb1 hb2
      have HT1 : Hid (Turns lo hi w (wr.setCell ⟨b, off + k * 2, none⟩ (.int .i64 z))) := HT.out.put c0 hb1 hb2 _
      have HSV : Hid (MarkAt lo hi 2 ArmM (wr.setCell ⟨b, off + k * 2, none⟩ (.int .i64 z)) sv sn) := hsv.keep fun _ _ hx => hx.turn ((Turns.refl lo hi wr).put c0 hb1 hb2 _)
      obtain ⟨sa, scap, rfl⟩ := hsv.isSlice
      clear hsv
      go_wp2_with fail
      refine (markArmS_any lo hi _ sn (z + 1) _ HSV.out (HZ.out.turn HT1.out) hsn (by omega) (by omega)).mono ?_
      rintro e w1 ⟨z1, rfl, h1, h2, t1⟩
      have HT2 : Hid (Turns lo hi w w1) := HT1.out.trans t1
      clear t1 c0 c1 f0
      go_wp2_with fail
      go_roundw
      case rel => exact ⟨k + 1, z1, by omega, by go_num, rfl, by omega, by omega, HT2.out⟩
      case measure => simp [intOf]; omega
    · go_wp2_with fail
      go_ret
      exact ⟨z, rfl, hz1, by omega, HT.out⟩

set_option maxHeartbeats 4000000 in
theorem markBlockS_any (lo hi : Nat) (v : Value) (n : Nat) (q : Int) (w : World) (hm : MarkAt lo hi 6 (BlockM lo hi) w v n) (hz : Thaw lo hi w) (hn : n ≤ 1048576) (hq : 0 ≤ q) (hq2 : q ≤ 1000000) :
    Calls Try.prog 40 #[v, .int .i64 q] w fun e w' => GivesMark lo hi q 2305849606287654912 w e w' := by
  obtain ⟨a, cap, rfl, hc⟩ := hm
  have HC : Hid (0 < n → ∃ b off, a = some ⟨b, off, none⟩ ∧ lo ≤ b ∧ b < hi ∧ ∀ i, i < n → BlockM lo hi w b (off + i * 6)) := hc
  have HZ : Hid (Thaw lo hi w) := hz
  clear hc hz
  go_enter Try.func40, Try.ntmps40
  go_wp2_with fail
  go_loopw [1, 5] (fun kv i wr => ∃ (k : Nat) (z : Int), k ≤ n ∧ i = .int .i64 k ∧ kv = .int .i64 z ∧ q ≤ z ∧ z ≤ q + k * 2199029547012 ∧ Turns lo hi w wr) (fun _ i _ => n - (intOf i).toNat)
  case atStart => exact ⟨0, q, Nat.zero_le _, rfl, rfl, Int.le_refl _, by omega, Turns.refl _ _ _⟩
  case round =>
    obtain ⟨k, z, hk, rfl, rfl, hz1, hz2, ht⟩ := hrel
    have HT : Hid (Turns lo hi w wr) := ht
    clear ht
    by_cases hlt : (k : Int) < (n : Int)
    · obtain ⟨b, off, rfl, hb1, hb2, hc1⟩ := HC.out (by omega)
      have HM : Hid (BlockM lo hi w b (off + k * 6)) := hc1 k (by omega)
      clear hc1
      obtain ⟨pv, pn, lv, ln, hpn, hln, c0, c1, n2, n3, n4, n5, m1, m2⟩ := HM.out.turn HT.out
      have HP : Hid (MarkAt lo hi 2 (PhiM lo hi) wr pv pn) := m1
      obtain ⟨pa, pcap, rfl⟩ := m1.isSlice
      obtain ⟨la, lcap, rfl⟩ := m2.isSlice
      clear m1 m2 n2 n3 n4 n5
      go_wp2_with fail
      refine (markPhiS_any lo hi _ pn z _ HP.out (HZ.out.turn HT.out) hpn (by omega) (by omega)).mono ?_
      rintro e w1 ⟨z1, rfl, h1, h2, t1⟩
      have HT1 : Hid (Turns lo hi w w1) := HT.out.trans t1
      have HL : Hid (MarkAt lo hi 5 InsM w1 (.slice la ln lcap) ln) := by
        obtain ⟨pv', pn', lv', ln', hpn', hln', c0', c1', n2', n3', n4', n5', m1', m2'⟩ := HM.out.turn HT1.out
        have e1 := c1'.symm.trans (t1.list _ _ _ _ c1)
        simp only [Option.some.injEq] at e1
        subst e1
        obtain ⟨_, _, e2⟩ := m2'.isSlice
        simp only [Value.slice.injEq] at e2
        have e3 : ln = ln' := e2.2.1
        subst e3
        exact m2'
      have d1 := t1.list _ _ _ _ c1
      clear t1 c0 c1
      go_wp2_with fail
      refine (markInsS_any lo hi _ ln z1 _ HL.out (HZ.out.turn HT1.out) hln (by omega) (by omega)).mono ?_
      rintro e w2 ⟨z2, rfl, h3, h4, t2⟩
      have HT2 : Hid (Turns lo hi w w2) := HT1.out.trans t2
      clear t2 d1
      obtain ⟨_, _, _, _, _, _, _, _, ⟨x2, c2⟩, ⟨x3, c3⟩, ⟨x4, c4⟩, ⟨x5, c5⟩, _, _⟩ := HM.out.turn HT2.out
      have f2 := (HZ.out.turn HT2.out) ⟨b, off + k * 6 + 2, none⟩ hb1 hb2
      have f3 := (HZ.out.turn HT2.out) ⟨b, off + k * 6 + 3, none⟩ hb1 hb2
      have f4 := (HZ.out.turn HT2.out) ⟨b, off + k * 6 + 4, none⟩ hb1 hb2
      have f5 := (HZ.out.turn HT2.out) ⟨b, off + k * 6 + 5, none⟩ hb1 hb2
      go_wp2_with fail
      go_roundw
      case rel =>
        exact ⟨k + 1, z2 + 4, by omega, by go_num, by go_num, by omega, by omega, Turns.put (Turns.put (Turns.put (Turns.put HT2.out c2 hb1 hb2 _) (cell_aside c3 (by omega)) hb1 hb2 _) (cell_aside (cell_aside c4 (by omega)) (by omega)) hb1 hb2 _) (cell_aside (cell_aside (cell_aside c5 (by omega)) (by omega)) (by omega)) hb1 hb2 _⟩
      case measure => simp [intOf]; omega
    · go_wp2_with fail
      go_ret
      exact ⟨z, rfl, hz1, by omega, HT.out⟩

/-- A program was marked: what lies below lo and from hi on is as it was. -/
structure Marked (lo hi : Nat) (w w' : World) : Prop where
  bel : Below lo w w'
  above : ∀ k, hi ≤ k → k < w.heap.size → w'.heap[k]? = w.heap[k]?

set_option maxHeartbeats 1000000 in
theorem markFn_any (lo hi : Nat) (v : Value) (n : Nat) (vals : Int) (q : Int) (w : World) (hm : FnM lo hi w v n vals) (hz : Thaw lo hi w) (hn : n ≤ 1048576) (hlo : lo ≤ w.heap.size) (hhi : hi ≤ w.heap.size) (hq : 0 ≤ q) (hq2 : q ≤ 1000000) :
    Calls Try.prog 23 #[v, .int .i64 q] w fun e w' => ∃ z, e = .returned (.int .i64 z) ∧ 0 ≤ z ∧ Marked lo hi w w' := by
  obtain ⟨bv, rfl, hb⟩ := hm
  have HB : Hid (MarkAt lo hi 6 (BlockM lo hi) w bv n) := hb
  have HZ : Hid (Thaw lo hi w) := hz
  obtain ⟨ba, bcap, rfl⟩ := hb.isSlice
  clear hb hz
  go_enter Try.func23, Try.ntmps23
  go_wp2_with fail
  refine (markBlockS_any lo hi _ n q _ (HB.out.keep fun _ _ hx => hx.later (Bel.alloc _ _)) (fun p h1 h2 => (frozen?_alloc_cells _ _ _ _).trans (HZ.out p h1 h2)) hn hq hq2).mono ?_
  rintro e w1 ⟨z, rfl, h1, h2, t1⟩
  have HT : Hid (Turns lo hi (w.alloc (.cells #[.slice ba n bcap, .int .i64 vals] 43)) w1) := t1
  clear t1
  go_wp2_with fail
  go_ret
  refine ⟨z, rfl, by omega, ((Below.refl lo w).alloc hlo _).trans HT.out.bel, fun k hk hk2 => ?_⟩
  exact (HT.out.above k hk).trans (Below.heap_alloc w _ k hk2)
end Go.Proofs.Ytgjojajodkagbaa
