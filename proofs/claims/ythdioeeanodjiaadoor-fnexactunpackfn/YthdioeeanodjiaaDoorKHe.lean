/- Marks hold: what was marked in places that are all other ones stands there. Marks hold: phis. Marks hold: blocks, and a program. -/
import Derived.Test.YthdioeeanodjiaaDoorKSpU
namespace Go.Proofs.YthdioeeanodjiaaDoor
open Go.ChangeShapes Go.WideShapes Go.ChangeAt Go.RowKit
set_option linter.unusedVariables false

def GivesWrote (lo hi : Nat) (L : List Spot) (q : Int) (w : World) (e : Ending) (w' : World) : Prop := e = .returned (.int .i64 (q + L.length)) ∧ Wrote lo hi L q w w'
def GivesHeld (L : List Spot) (q : Int) (w : World) (e : Ending) (w' : World) : Prop := e = .returned (.int .i64 (q + L.length)) ∧ Below w.heap.size w w'
theorem Has.row {w : World} {f : Nat → List Spot} {n k : Nat} {q : Int} (h : Has w (rowS f n) q) (hk : k < n) : Has w (f k) (q + (rowS f k).length) := by
  obtain ⟨R, hR⟩ := rowS_pre f (n := n) (k := k + 1) (by omega)
  rw [hR, rowS_succ] at h
  exact (Has.app.1 (Has.app.1 h).1).2
theorem Has.head {w : World} {s : Spot} {R : List Spot} {q : Int} (h : Has w (s :: R) q) : w.cell? (spotA s) = some (.int .i64 q) ∧ Has w R (q + 1) := by
  have h1 := Has.app.1 (show Has w ([s] ++ R) q from h)
  refine ⟨?_, by simpa using h1.2⟩
  have := h 0 s rfl
  simpa using this
/-- One place more is written, of a row. -/
theorem Wrote.next {lo hi : Nat} {L R : List Spot} {q : Int} {a w : World} (h : Wrote lo hi L q a w) {b o : Nat} {z x : Int} (hd : (L ++ (b, o) :: R).Nodup) (hc : w.cell? ⟨b, o, none⟩ = some (.int .i64 z)) (h1 : lo ≤ b) (h2 : b < hi) (hx : x = q + L.length) :
    Wrote lo hi (L ++ [(b, o)]) q a (w.setCell ⟨b, o, none⟩ (.int .i64 x)) ∧ ((L ++ [(b, o)]) ++ R).Nodup ∧ x + 1 = q + (L ++ [(b, o)]).length := by
  have e : L ++ (b, o) :: R = (L ++ [(b, o)]) ++ R := by simp
  rw [e] at hd
  refine ⟨h.more hc h1 h2 (List.nodup_append.1 hd).1 hx, hd, ?_⟩
  rw [List.length_append, hx]
  simp
  omega

set_option maxHeartbeats 2000000 in
theorem markArmS_wr (lo hi : Nat) (v : Value) (t : RowT) (q : Int) (w : World) (hm : ArmsTr lo hi w v t) (hd : (armsSp t).Nodup) (hq : 0 ≤ q) (hq2 : q ≤ 4611686018427387904) :
    Calls Tryd.prog 84 #[v, .int .i64 q] w fun e w' => GivesWrote lo hi (armsSp t) q w e w' := by
  have HM : Hid (ArmsTr lo hi w v t) := hm
  have HD : Hid ((armsSp t).Nodup) := hd
  obtain ⟨a, cap, rfl, ha⟩ := hm.is
  have HA : Hid (0 < t.n → a = some ⟨t.b, t.off, none⟩) := ha
  have hsm := hm.small
  have HIN : Hid (0 < t.n → lo ≤ t.b ∧ t.b < hi) := hm.inn
  obtain ⟨n, HN⟩ : ∃ n, Hid (t.n = n) := ⟨_, rfl⟩
  obtain ⟨f, HFF⟩ : ∃ f, Hid ((fun i => armE t.b (t.off + i * 2)) = f) := ⟨_, rfl⟩
  have HSP : Hid (armsSp t = rowS f n) := by show _ = _; rw [← HFF.out, ← HN.out]; rfl
  have HLE : Hid (∀ k, (rowS f k).length ≤ k * 2) := fun k => rowS_len (fun i _ => by rw [← HFF.out]; exact Nat.le_refl _)
  rw [HN.out] at hsm ⊢
  clear hm hd ha
  go_enter Tryd.func84, Tryd.ntmps84
  go_wp2
  go_loopw [1, 5] (fun kv i wr => ∃ (k : Nat) (z : Int), k ≤ n ∧ i = .int .i64 k ∧ kv = .int .i64 z ∧ q ≤ z ∧ z ≤ q + k * 2 ∧ Hid (z = q + (rowS f k).length) ∧ Wrote lo hi (rowS f k) q w wr) (fun _ i _ => n - (intOf i).toNat)
  case atStart => exact ⟨0, q, Nat.zero_le _, rfl, rfl, Int.le_refl _, by omega, by show _ = _; simp [rowS], Wrote.refl _ _ _ _⟩
  case round =>
    obtain ⟨k, z, hk, rfl, rfl, hz1, hz2, HZL, ht⟩ := hrel
    have HT : Hid (Wrote lo hi (rowS f k) q w wr) := ht
    clear ht
    by_cases hlt : (k : Int) < (n : Int)
    · obtain ⟨tb, toff, tn⟩ := t
      obtain rfl := HA.out (by have := HN.out; omega)
      obtain ⟨hb1, hb2⟩ := HIN.out (by have := HN.out; omega)
      obtain ⟨⟨z0, c0⟩, ⟨z1, c1⟩⟩ := (HM.out.at_ k (by have := HN.out; omega)).turn HT.out.turns
      dsimp only at hb1 hb2 c0 c1
      have HFZ9 : Hid (∀ j, wr.frozen? ⟨tb, j, none⟩ = false) := fun j => (HM.out.stay HT.out.turns.stays).fz (by have := HN.out; omega) j
      have f0 := HFZ9.out (toff + k * 2)
      have f1 := HFZ9.out (toff + k * 2 + 1)
      have HND : Hid ((rowS f k ++ [(tb, toff + k * 2), (tb, toff + k * 2 + 1)]).Nodup) := by
        have h := HD.out
        rw [HSP.out] at h
        have h2 := rowS_nodup h (show k < n by omega)
        rw [← HFF.out] at h2 ⊢
        exact h2
      have HRS : Hid (rowS f (k + 1) = rowS f k ++ [(tb, toff + k * 2), (tb, toff + k * 2 + 1)]) := by show _ = _; rw [rowS_succ, ← HFF.out]; rfl
      go_wp2
      go_roundw
      case rel =>
        obtain ⟨h1, d1, e1⟩ := HT.out.next HND.out c0 hb1 hb2 HZL.out
        obtain ⟨h2, d2, e2⟩ := h1.next d1 (cell_aside c1 (by omega)) hb1 hb2 e1
        have e3 : rowS f (k + 1) = rowS f k ++ [(tb, toff + k * 2)] ++ [(tb, toff + k * 2 + 1)] := by rw [HRS.out]; simp
        refine ⟨k + 1, z + 2, by omega, by go_num, by go_num, by omega, by omega, ?_, ?_⟩
        · show _ = _
          rw [e3, ← e2]
          omega
        · rw [e3]
          exact h2
      case measure => simp [intOf]; omega
    · go_wp2
      go_ret
      have hkn : k = n := by omega
      subst hkn
      refine ⟨?_, ?_⟩
      · rw [HSP.out]
        exact congrArg (fun x => Ending.returned (.int .i64 x)) HZL.out
      · rw [HSP.out]
        exact HT.out
set_option maxHeartbeats 2000000 in
theorem markInsS_wr (lo hi : Nat) (v : Value) (t : RowT) (q : Int) (w : World) (hm : InsTr lo hi w v t) (hd : (insSp t).Nodup) (hq : 0 ≤ q) (hq2 : q ≤ 4611686018427387904) :
    Calls Tryd.prog 64 #[v, .int .i64 q] w fun e w' => GivesWrote lo hi (insSp t) q w e w' := by
  have HM : Hid (InsTr lo hi w v t) := hm
  have HD : Hid ((insSp t).Nodup) := hd
  obtain ⟨a, cap, rfl, ha⟩ := hm.is
  have HA : Hid (0 < t.n → a = some ⟨t.b, t.off, none⟩) := ha
  have hsm := hm.small
  have HIN : Hid (0 < t.n → lo ≤ t.b ∧ t.b < hi) := hm.inn
  obtain ⟨n, HN⟩ : ∃ n, Hid (t.n = n) := ⟨_, rfl⟩
  obtain ⟨f, HFF⟩ : ∃ f, Hid ((fun i => insE t.b (t.off + i * 5)) = f) := ⟨_, rfl⟩
  have HSP : Hid (insSp t = rowS f n) := by show _ = _; rw [← HFF.out, ← HN.out]; rfl
  have HLE : Hid (∀ k, (rowS f k).length ≤ k * 5) := fun k => rowS_len (fun i _ => by rw [← HFF.out]; exact Nat.le_refl _)
  rw [HN.out] at hsm ⊢
  clear hm hd ha
  go_enter Tryd.func64, Tryd.ntmps64
  go_wp2
  go_loopw [1, 5] (fun kv i wr => ∃ (k : Nat) (z : Int), k ≤ n ∧ i = .int .i64 k ∧ kv = .int .i64 z ∧ q ≤ z ∧ z ≤ q + k * 5 ∧ Hid (z = q + (rowS f k).length) ∧ Wrote lo hi (rowS f k) q w wr) (fun _ i _ => n - (intOf i).toNat)
  case atStart => exact ⟨0, q, Nat.zero_le _, rfl, rfl, Int.le_refl _, by omega, by show _ = _; simp [rowS], Wrote.refl _ _ _ _⟩
  case round =>
    obtain ⟨k, z, hk, rfl, rfl, hz1, hz2, HZL, ht⟩ := hrel
    have HT : Hid (Wrote lo hi (rowS f k) q w wr) := ht
    clear ht
    by_cases hlt : (k : Int) < (n : Int)
    · obtain ⟨tb, toff, tn⟩ := t
      obtain rfl := HA.out (by have := HN.out; omega)
      obtain ⟨hb1, hb2⟩ := HIN.out (by have := HN.out; omega)
      obtain ⟨⟨z0, c0⟩, ⟨z1, c1⟩, ⟨z2, c2⟩, ⟨z3, c3⟩, ⟨z4, c4⟩⟩ := (HM.out.at_ k (by have := HN.out; omega)).turn HT.out.turns
      dsimp only at hb1 hb2 c0 c1 c2 c3 c4
      have HFZ9 : Hid (∀ j, wr.frozen? ⟨tb, j, none⟩ = false) := fun j => (HM.out.stay HT.out.turns.stays).fz (by have := HN.out; omega) j
      have f0 := HFZ9.out (toff + k * 5)
      have f1 := HFZ9.out (toff + k * 5 + 1)
      have f2 := HFZ9.out (toff + k * 5 + 2)
      have f3 := HFZ9.out (toff + k * 5 + 3)
      have f4 := HFZ9.out (toff + k * 5 + 4)
      have HND : Hid ((rowS f k ++ [(tb, toff + k * 5), (tb, toff + k * 5 + 1), (tb, toff + k * 5 + 2), (tb, toff + k * 5 + 3), (tb, toff + k * 5 + 4)]).Nodup) := by
        have h := HD.out
        rw [HSP.out] at h
        have h2 := rowS_nodup h (show k < n by omega)
        rw [← HFF.out] at h2 ⊢
        exact h2
      have HRS : Hid (rowS f (k + 1) = rowS f k ++ [(tb, toff + k * 5), (tb, toff + k * 5 + 1), (tb, toff + k * 5 + 2), (tb, toff + k * 5 + 3), (tb, toff + k * 5 + 4)]) := by show _ = _; rw [rowS_succ, ← HFF.out]; rfl
      go_wp2
      go_roundw
      case rel =>
        obtain ⟨h1, d1, e1⟩ := HT.out.next HND.out c0 hb1 hb2 HZL.out
        obtain ⟨h2, d2, e2⟩ := h1.next d1 (cell_aside c1 (by omega)) hb1 hb2 e1
        obtain ⟨h3, d3, e3⟩ := h2.next d2 (cell_aside (cell_aside c2 (by omega)) (by omega)) hb1 hb2 e2
        obtain ⟨h4, d4, e4⟩ := h3.next d3 (cell_aside (cell_aside (cell_aside c3 (by omega)) (by omega)) (by omega)) hb1 hb2 e3
        obtain ⟨h5, d5, e5⟩ := h4.next d4 (cell_aside (cell_aside (cell_aside (cell_aside c4 (by omega)) (by omega)) (by omega)) (by omega)) hb1 hb2 e4
        have e9 : rowS f (k + 1) = rowS f k ++ [(tb, toff + k * 5)] ++ [(tb, toff + k * 5 + 1)] ++ [(tb, toff + k * 5 + 2)] ++ [(tb, toff + k * 5 + 3)] ++ [(tb, toff + k * 5 + 4)] := by rw [HRS.out]; simp
        refine ⟨k + 1, z + 5, by omega, by go_num, by go_num, by omega, by omega, ?_, ?_⟩
        · show _ = _
          rw [e9, ← e5]
          omega
        · rw [e9]
          exact h5
      case measure => simp [intOf]; omega
    · go_wp2
      go_ret
      have hkn : k = n := by omega
      subst hkn
      refine ⟨?_, ?_⟩
      · rw [HSP.out]
        exact congrArg (fun x => Ending.returned (.int .i64 x)) HZL.out
      · rw [HSP.out]
        exact HT.out

set_option maxHeartbeats 2000000 in
theorem heldArmS_has (lo hi : Nat) (v : Value) (t : RowT) (q : Int) (w : World) (hm : ArmsTr lo hi w v t) (hh : Has w (armsSp t) q) (hq : 0 ≤ q) (hq2 : q ≤ 4611686018427387904) :
    Calls Tryd.prog 85 #[v, .int .i64 q] w fun e w' => GivesHeld (armsSp t) q w e w' := by
  obtain ⟨a, cap, rfl, ha⟩ := hm.is
  have HA : Hid (0 < t.n → a = some ⟨t.b, t.off, none⟩) := ha
  have hsm := hm.small
  obtain ⟨n, HN⟩ : ∃ n, Hid (t.n = n) := ⟨_, rfl⟩
  obtain ⟨f, HFF⟩ : ∃ f, Hid ((fun i => armE t.b (t.off + i * 2)) = f) := ⟨_, rfl⟩
  have HSP : Hid (armsSp t = rowS f n) := by show _ = _; rw [← HFF.out, ← HN.out]; rfl
  have HLE : Hid (∀ k, (rowS f k).length ≤ k * 2) := fun k => rowS_len (fun i _ => by rw [← HFF.out]; exact Nat.le_refl _)
  have HH : Hid (Has w (rowS f n) q) := by have h := hh; rw [HSP.out] at h; exact h
  rw [HN.out] at hsm ⊢
  clear hm ha hh
  go_enter Tryd.func85, Tryd.ntmps85
  go_wp2
  go_loopw [1, 5] (fun kv i wr => ∃ (k : Nat) (z : Int), k ≤ n ∧ i = .int .i64 k ∧ kv = .int .i64 z ∧ q ≤ z ∧ z ≤ q + k * 2 ∧ Hid (z = q + (rowS f k).length) ∧ Below w.heap.size w wr) (fun _ i _ => n - (intOf i).toNat)
  case atStart => exact ⟨0, q, Nat.zero_le _, rfl, rfl, Int.le_refl _, by omega, by show _ = _; simp [rowS], Below.refl _ _⟩
  case round =>
    obtain ⟨k, z, hk, rfl, rfl, hz1, hz2, HZL, hb⟩ := hrel
    have HB : Hid (Below w.heap.size w wr) := hb
    clear hb
    by_cases hlt : (k : Int) < (n : Int)
    · obtain ⟨tb, toff, tn⟩ := t
      obtain rfl := HA.out (by have := HN.out; omega)
      have g0 := HH.out.row (show k < n by omega)
      rw [← HZL.out, ← HFF.out] at g0
      replace g0 := g0.keep HB.out
      change Has wr [(tb, toff + k * 2), (tb, toff + k * 2 + 1)] z at g0
      obtain ⟨c0, g1⟩ := g0.head
      obtain ⟨c1, g2⟩ := g1.head
      clear g2
      change wr.cell? ⟨tb, toff + k * 2, none⟩ = some (.int .i64 (z)) at c0
      change wr.cell? ⟨tb, toff + k * 2 + 1, none⟩ = some (.int .i64 (z + 1)) at c1
      have e0 : ((z : Int) != z) = false := by simp
      have e1 : ((z + 1 : Int) != z + 1) = false := by simp
      go_wp2
      go_roundw
      case rel =>
        refine ⟨k + 1, z + 2, by omega, by go_num, by go_num, by omega, by omega, ?_, HB.out⟩
        show _ = _
        have h8 : (f k).length = 2 := by rw [← HFF.out]; rfl
        have h9 := HZL.out
        rw [rowS_succ, List.length_append, h8]
        push_cast
        omega
      case measure => simp [intOf]; omega
    · go_wp2
      go_ret
      have hkn : k = n := by omega
      subst hkn
      refine ⟨?_, HB.out⟩
      rw [HSP.out]
      exact congrArg (fun x => Ending.returned (.int .i64 x)) HZL.out

set_option maxHeartbeats 2000000 in
theorem heldInsS_has (lo hi : Nat) (v : Value) (t : RowT) (q : Int) (w : World) (hm : InsTr lo hi w v t) (hh : Has w (insSp t) q) (hq : 0 ≤ q) (hq2 : q ≤ 4611686018427387904) :
    Calls Tryd.prog 66 #[v, .int .i64 q] w fun e w' => GivesHeld (insSp t) q w e w' := by
  obtain ⟨a, cap, rfl, ha⟩ := hm.is
  have HA : Hid (0 < t.n → a = some ⟨t.b, t.off, none⟩) := ha
  have hsm := hm.small
  obtain ⟨n, HN⟩ : ∃ n, Hid (t.n = n) := ⟨_, rfl⟩
  obtain ⟨f, HFF⟩ : ∃ f, Hid ((fun i => insE t.b (t.off + i * 5)) = f) := ⟨_, rfl⟩
  have HSP : Hid (insSp t = rowS f n) := by show _ = _; rw [← HFF.out, ← HN.out]; rfl
  have HLE : Hid (∀ k, (rowS f k).length ≤ k * 5) := fun k => rowS_len (fun i _ => by rw [← HFF.out]; exact Nat.le_refl _)
  have HH : Hid (Has w (rowS f n) q) := by have h := hh; rw [HSP.out] at h; exact h
  rw [HN.out] at hsm ⊢
  clear hm ha hh
  go_enter Tryd.func66, Tryd.ntmps66
  go_wp2
  go_loopw [1, 5] (fun kv i wr => ∃ (k : Nat) (z : Int), k ≤ n ∧ i = .int .i64 k ∧ kv = .int .i64 z ∧ q ≤ z ∧ z ≤ q + k * 5 ∧ Hid (z = q + (rowS f k).length) ∧ Below w.heap.size w wr) (fun _ i _ => n - (intOf i).toNat)
  case atStart => exact ⟨0, q, Nat.zero_le _, rfl, rfl, Int.le_refl _, by omega, by show _ = _; simp [rowS], Below.refl _ _⟩
  case round =>
    obtain ⟨k, z, hk, rfl, rfl, hz1, hz2, HZL, hb⟩ := hrel
    have HB : Hid (Below w.heap.size w wr) := hb
    clear hb
    by_cases hlt : (k : Int) < (n : Int)
    · obtain ⟨tb, toff, tn⟩ := t
      obtain rfl := HA.out (by have := HN.out; omega)
      have g0 := HH.out.row (show k < n by omega)
      rw [← HZL.out, ← HFF.out] at g0
      replace g0 := g0.keep HB.out
      change Has wr [(tb, toff + k * 5), (tb, toff + k * 5 + 1), (tb, toff + k * 5 + 2), (tb, toff + k * 5 + 3), (tb, toff + k * 5 + 4)] z at g0
      obtain ⟨c0, g1⟩ := g0.head
      obtain ⟨c1, g2⟩ := g1.head
      obtain ⟨c2, g3⟩ := g2.head
      obtain ⟨c3, g4⟩ := g3.head
      obtain ⟨c4, g5⟩ := g4.head
      clear g5
      change wr.cell? ⟨tb, toff + k * 5, none⟩ = some (.int .i64 (z)) at c0
      change wr.cell? ⟨tb, toff + k * 5 + 1, none⟩ = some (.int .i64 (z + 1)) at c1
      change wr.cell? ⟨tb, toff + k * 5 + 2, none⟩ = some (.int .i64 (z + 1 + 1)) at c2
      change wr.cell? ⟨tb, toff + k * 5 + 3, none⟩ = some (.int .i64 (z + 1 + 1 + 1)) at c3
      change wr.cell? ⟨tb, toff + k * 5 + 4, none⟩ = some (.int .i64 (z + 1 + 1 + 1 + 1)) at c4
      have e0 : ((z : Int) != z) = false := by simp
      have e1 : ((z + 1 : Int) != z + 1) = false := by simp
      have e2 : ((z + 1 + 1 : Int) != z + 1 + 1) = false := by simp
      have e3 : ((z + 1 + 1 + 1 : Int) != z + 1 + 1 + 1) = false := by simp
      have e4 : ((z + 1 + 1 + 1 + 1 : Int) != z + 1 + 1 + 1 + 1) = false := by simp
      go_wp2
      go_roundw
      case rel =>
        refine ⟨k + 1, z + 5, by omega, by go_num, by go_num, by omega, by omega, ?_, HB.out⟩
        show _ = _
        have h8 : (f k).length = 5 := by rw [← HFF.out]; rfl
        have h9 := HZL.out
        rw [rowS_succ, List.length_append, h8]
        push_cast
        omega
      case measure => simp [intOf]; omega
    · go_wp2
      go_ret
      have hkn : k = n := by omega
      subst hkn
      refine ⟨?_, HB.out⟩
      rw [HSP.out]
      exact congrArg (fun x => Ending.returned (.int .i64 x)) HZL.out

end Go.Proofs.YthdioeeanodjiaaDoor

namespace Go.Proofs.YthdioeeanodjiaaDoor
open Go.ChangeShapes Go.WideShapes Go.ChangeAt Go.RowKit
set_option linter.unusedVariables false

theorem armsSp_len {t : RowT} (h : t.n ≤ 1048576) : (armsSp t).length ≤ 2097152 := by
  have := rowS_len (f := fun i => armE t.b (t.off + i * 2)) (c := 2) (n := t.n) (fun i _ => Nat.le_refl _)
  unfold armsSp
  omega
theorem insSp_len {t : RowT} (h : t.n ≤ 1048576) : (insSp t).length ≤ 5242880 := by
  have := rowS_len (f := fun i => insE t.b (t.off + i * 5)) (c := 5) (n := t.n) (fun i _ => Nat.le_refl _)
  unfold insSp
  omega
theorem PhisTr.len {lo hi : Nat} {w : World} {v : Value} {t : PhisT} (h : PhisTr lo hi w v t) {k : Nat} (hk : k ≤ t.n) : (rowS (phiE t) k).length ≤ k * 2097153 := by
  refine rowS_len fun i hi => ?_
  obtain ⟨sv, _, ha⟩ := h.arms i (by omega)
  have := armsSp_len ha.small
  simp [phiE]
  omega

set_option maxHeartbeats 4000000 in
theorem markPhiS_wr (lo hi : Nat) (v : Value) (t : PhisT) (q : Int) (w : World) (hm : PhisTr lo hi w v t) (hd : (phisSp t).Nodup) (hq : 0 ≤ q) (hq2 : q ≤ 4000000000000000000) :
    Calls Tryd.prog 63 #[v, .int .i64 q] w fun e w' => GivesWrote lo hi (phisSp t) q w e w' := by
  have HM : Hid (PhisTr lo hi w v t) := hm
  have HD : Hid ((phisSp t).Nodup) := hd
  obtain ⟨a, cap, rfl, ha⟩ := hm.is
  have HA : Hid (0 < t.n → a = some ⟨t.b, t.off, none⟩) := ha
  have hsm := hm.small
  have HIN : Hid (0 < t.n → lo ≤ t.b ∧ t.b < hi) := hm.inn
  obtain ⟨n, HN⟩ : ∃ n, Hid (t.n = n) := ⟨_, rfl⟩
  obtain ⟨tb, HTB⟩ : ∃ n, Hid (t.b = n) := ⟨_, rfl⟩
  obtain ⟨toff, HTO⟩ : ∃ n, Hid (t.off = n) := ⟨_, rfl⟩
  have HSP : Hid (phisSp t = rowS (phiE t) n) := by show _ = _; rw [← HN.out]; rfl
  have HLE : Hid (∀ k, k ≤ n → (rowS (phiE t) k).length ≤ k * 2097153) := fun k hk => hm.len (by have := HN.out; omega)
  rw [HN.out] at hsm ⊢
  rw [HTB.out, HTO.out] at HA
  rw [HTB.out] at HIN
  clear hm hd ha
  go_enter Tryd.func63, Tryd.ntmps63
  go_wp2_with fail
  go_loopw [1, 5] (fun kv i wr => ∃ (k : Nat) (z : Int), k ≤ n ∧ i = .int .i64 k ∧ kv = .int .i64 z ∧ q ≤ z ∧ z ≤ q + k * 2097153 ∧ Hid (z = q + (rowS (phiE t) k).length) ∧ Wrote lo hi (rowS (phiE t) k) q w wr) (fun _ i _ => n - (intOf i).toNat)
  case atStart => exact ⟨0, q, Nat.zero_le _, rfl, rfl, Int.le_refl _, by omega, by show _ = _; simp [rowS], Wrote.refl _ _ _ _⟩
  case round =>
    obtain ⟨k, z, hk, rfl, rfl, hz1, hz2, HZL, ht⟩ := hrel
    have HT : Hid (Wrote lo hi (rowS (phiE t) k) q w wr) := ht
    clear ht
    by_cases hlt : (k : Int) < (n : Int)
    · obtain rfl := HA.out (by have := HN.out; omega)
      obtain ⟨hb1, hb2⟩ := HIN.out (by have := HN.out; omega)
      have HMT := HM.out.stay HT.out.turns.stays
      obtain ⟨z0, c0⟩ := HMT.num k (by have := HN.out; omega)
      obtain ⟨sv, c1, har⟩ := HMT.arms k (by have := HN.out; omega)
      rw [HTB.out, HTO.out] at c0 c1
      have HFZ9 : Hid (∀ j, wr.frozen? ⟨tb, j, none⟩ = false) := fun j => by have h := (HM.out.stay HT.out.turns.stays).fz (by have := HN.out; omega) j; rw [HTB.out] at h; exact h
      have f0 := HFZ9.out (toff + k * 2)
      have HND : Hid ((rowS (phiE t) k ++ (tb, toff + k * 2) :: armsSp (t.arms k)).Nodup) := by
        have h := HD.out
        rw [HSP.out] at h
        have h2 := rowS_nodup h (show k < n by omega)
        unfold phiE at h2 ⊢
        rw [HTB.out, HTO.out] at h2 ⊢
        exact h2
      have HRS : Hid (rowS (phiE t) (k + 1) = rowS (phiE t) k ++ [(tb, toff + k * 2)] ++ armsSp (t.arms k)) := by
        show _ = _
        rw [rowS_succ, List.append_assoc]
        congr 1
        rw [← HTB.out, ← HTO.out]
        rfl
      obtain ⟨h1, d1, e1⟩ := HT.out.next HND.out c0 hb1 hb2 HZL.out
      have HW1 : Hid (Wrote lo hi (rowS (phiE t) k ++ [(tb, toff + k * 2)]) q w (wr.setCell ⟨tb, toff + k * 2, none⟩ (.int .i64 z))) := h1
      have HD1 : Hid ((rowS (phiE t) k ++ [(tb, toff + k * 2)] ++ armsSp (t.arms k)).Nodup) := d1
      have HE1 : Hid (z + 1 = q + (rowS (phiE t) k ++ [(tb, toff + k * 2)]).length) := e1
      have HSV : Hid (ArmsTr lo hi (wr.setCell ⟨tb, toff + k * 2, none⟩ (.int .i64 z)) sv (t.arms k)) := har.stay ((Turns.refl lo hi wr).put c0 hb1 hb2 _).stays
      have HAL := armsSp_len har.small
      obtain ⟨sa, scap, rfl, _⟩ := har.is
      obtain ⟨sn, HSN⟩ : ∃ n, Hid ((t.arms k).n = n) := ⟨_, rfl⟩
      rw [HSN.out] at c1 HSV
      clear har h1 d1 e1 HMT
      go_wp2_with fail
      refine (markArmS_wr lo hi _ (t.arms k) (z + 1) _ HSV.out (List.nodup_append.1 HD1.out).2.1 (by omega) (by omega)).mono ?_
      obtain ⟨al, HAL2⟩ : ∃ n, Hid ((armsSp (t.arms k)).length = n) := ⟨_, rfl⟩
      rintro e w1 ⟨rfl, t1⟩
      rw [HAL2.out] at HAL ⊢
      have HW2 : Hid (Wrote lo hi (rowS (phiE t) (k + 1)) q w w1) := by
        show Wrote _ _ _ _ _ _
        rw [HRS.out]
        refine HW1.out.trans ?_ HD1.out
        rw [← HE1.out]
        exact t1
      clear t1 c0 c1 f0
      go_wp2_with fail
      go_roundw
      case rel =>
        refine ⟨k + 1, z + 1 + al, by omega, by go_num, by go_num, by omega, by omega, ?_, HW2.out⟩
        show _ = _
        rw [HRS.out, List.length_append, HAL2.out, HE1.out]
        push_cast
        omega
      case measure => simp [intOf]; omega
    · go_wp2_with fail
      go_ret
      have hkn : k = n := by omega
      subst hkn
      refine ⟨?_, ?_⟩
      · rw [HSP.out]
        exact congrArg (fun x => Ending.returned (.int .i64 x)) HZL.out
      · rw [HSP.out]
        exact HT.out

set_option maxHeartbeats 4000000 in
theorem heldPhiS_has (lo hi : Nat) (v : Value) (t : PhisT) (q : Int) (w : World) (hm : PhisTr lo hi w v t) (hh : Has w (phisSp t) q) (hq : 0 ≤ q) (hq2 : q ≤ 4000000000000000000) :
    Calls Tryd.prog 65 #[v, .int .i64 q] w fun e w' => GivesHeld (phisSp t) q w e w' := by
  have HM : Hid (PhisTr lo hi w v t) := hm
  obtain ⟨a, cap, rfl, ha⟩ := hm.is
  have HA : Hid (0 < t.n → a = some ⟨t.b, t.off, none⟩) := ha
  have hsm := hm.small
  obtain ⟨n, HN⟩ : ∃ n, Hid (t.n = n) := ⟨_, rfl⟩
  obtain ⟨tb, HTB⟩ : ∃ n, Hid (t.b = n) := ⟨_, rfl⟩
  obtain ⟨toff, HTO⟩ : ∃ n, Hid (t.off = n) := ⟨_, rfl⟩
  have HSP : Hid (phisSp t = rowS (phiE t) n) := by show _ = _; rw [← HN.out]; rfl
  have HH : Hid (Has w (rowS (phiE t) n) q) := by have h := hh; rw [HSP.out] at h; exact h
  rw [HN.out] at hsm ⊢
  rw [HTB.out, HTO.out] at HA
  clear hm ha hh
  go_enter Tryd.func65, Tryd.ntmps65
  go_wp2_with fail
  go_loopw [1, 5] (fun kv i wr => ∃ (k : Nat) (z : Int), k ≤ n ∧ i = .int .i64 k ∧ kv = .int .i64 z ∧ q ≤ z ∧ z ≤ q + k * 2097153 ∧ Hid (z = q + (rowS (phiE t) k).length) ∧ Below w.heap.size w wr) (fun _ i _ => n - (intOf i).toNat)
  case atStart => exact ⟨0, q, Nat.zero_le _, rfl, rfl, Int.le_refl _, by omega, by show _ = _; simp [rowS], Below.refl _ _⟩
  case round =>
    obtain ⟨k, z, hk, rfl, rfl, hz1, hz2, HZL, hb⟩ := hrel
    have HB : Hid (Below w.heap.size w wr) := hb
    clear hb
    by_cases hlt : (k : Int) < (n : Int)
    · obtain rfl := HA.out (by have := HN.out; omega)
      have HMT := HM.out.stay (Stays.below HB.out)
      obtain ⟨sv, c1, har⟩ := HMT.arms k (by have := HN.out; omega)
      have g0 := HH.out.row (show k < n by omega)
      rw [← HZL.out] at g0
      replace g0 := g0.keep HB.out
      unfold phiE at g0
      rw [HTB.out] at g0 c1
      rw [HTO.out] at g0 c1
      obtain ⟨c0, g1⟩ := g0.head
      change wr.cell? ⟨tb, toff + k * 2, none⟩ = some (.int .i64 z) at c0
      have HG1 : Hid (Has wr (armsSp (t.arms k)) (z + 1)) := g1
      have HSV : Hid (ArmsTr lo hi wr sv (t.arms k)) := har
      have HAL := armsSp_len har.small
      obtain ⟨sa, scap, rfl, _⟩ := har.is
      obtain ⟨sn, HSN⟩ : ∃ n, Hid ((t.arms k).n = n) := ⟨_, rfl⟩
      rw [HSN.out] at c1 HSV
      have e0 : ((z : Int) != z) = false := by simp
      have HEL : Hid ((phiE t k).length = 1 + (armsSp (t.arms k)).length) := by show _ = _; simp [phiE]; omega
      obtain ⟨al, HAL2⟩ : ∃ n, Hid ((armsSp (t.arms k)).length = n) := ⟨_, rfl⟩
      clear har g0 g1 HMT
      go_wp2_with fail
      refine (heldArmS_has lo hi _ (t.arms k) (z + 1) _ HSV.out HG1.out (by omega) (by omega)).mono ?_
      rintro e w1 ⟨rfl, b1⟩
      rw [HAL2.out] at HAL HEL ⊢
      have HB1 : Hid (Below w.heap.size w w1) := Bel.after HB.out b1
      clear b1 c0 c1
      go_wp2_with fail
      go_roundw
      case rel =>
        refine ⟨k + 1, z + 1 + al, by omega, by go_num, by go_num, by omega, by omega, ?_, HB1.out⟩
        have h8 := HEL.out
        have h9 := HZL.out
        show _ = _
        rw [rowS_succ, List.length_append, h8]
        push_cast
        omega
      case measure => simp [intOf]; omega
    · go_wp2_with fail
      go_ret
      have hkn : k = n := by omega
      subst hkn
      refine ⟨?_, HB.out⟩
      rw [HSP.out]
      exact congrArg (fun x => Ending.returned (.int .i64 x)) HZL.out
end Go.Proofs.YthdioeeanodjiaaDoor

namespace Go.Proofs.YthdioeeanodjiaaDoor
open Go.ChangeShapes Go.WideShapes Go.ChangeAt Go.RowKit
set_option linter.unusedVariables false

theorem phisSp_len {lo hi : Nat} {w : World} {v : Value} {t : PhisT} (h : PhisTr lo hi w v t) : (phisSp t).length ≤ 2199024304128 := by
  have h1 := h.len (Nat.le_refl _)
  have h2 := h.small
  unfold phisSp
  omega
theorem blockE_len (t : BlocksT) (k : Nat) : (blockE t k).length = (phisSp (t.phis k)).length + (insSp (t.list k)).length + 4 := by
  simp [blockE]
  omega

set_option maxHeartbeats 8000000 in
theorem markBlockS_wr (lo hi : Nat) (v : Value) (t : BlocksT) (q : Int) (w : World) (hm : BlocksTr lo hi w v t) (hd : (blocksSp t).Nodup) (hq : 0 ≤ q) (hq2 : q ≤ 1000000) :
    Calls Tryd.prog 38 #[v, .int .i64 q] w fun e w' => GivesWrote lo hi (blocksSp t) q w e w' := by
  have HM : Hid (BlocksTr lo hi w v t) := hm
  have HD : Hid ((blocksSp t).Nodup) := hd
  obtain ⟨a, cap, rfl, ha⟩ := hm.is
  have HA : Hid (0 < t.n → a = some ⟨t.b, t.off, none⟩) := ha
  have hsm := hm.small
  have HIN : Hid (0 < t.n → lo ≤ t.b ∧ t.b < hi) := hm.inn
  obtain ⟨n, HN⟩ : ∃ n, Hid (t.n = n) := ⟨_, rfl⟩
  obtain ⟨tb, HTB⟩ : ∃ n, Hid (t.b = n) := ⟨_, rfl⟩
  obtain ⟨toff, HTO⟩ : ∃ n, Hid (t.off = n) := ⟨_, rfl⟩
  have HSP : Hid (blocksSp t = rowS (blockE t) n) := by show _ = _; rw [← HN.out]; rfl
  rw [HN.out] at hsm ⊢
  rw [HTB.out, HTO.out] at HA
  rw [HTB.out] at HIN
  clear hm hd ha
  go_enter Tryd.func38, Tryd.ntmps38
  go_wp2_with fail
  go_loopw [1, 5] (fun kv i wr => ∃ (k : Nat) (z : Int), k ≤ n ∧ i = .int .i64 k ∧ kv = .int .i64 z ∧ q ≤ z ∧ z ≤ q + k * 2199029547012 ∧ Hid (z = q + (rowS (blockE t) k).length) ∧ Wrote lo hi (rowS (blockE t) k) q w wr) (fun _ i _ => n - (intOf i).toNat)
  case atStart => exact ⟨0, q, Nat.zero_le _, rfl, rfl, Int.le_refl _, by omega, by show _ = _; simp [rowS], Wrote.refl _ _ _ _⟩
  case round =>
    obtain ⟨k, z, hk, rfl, rfl, hz1, hz2, HZL, ht⟩ := hrel
    have HT : Hid (Wrote lo hi (rowS (blockE t) k) q w wr) := ht
    clear ht
    by_cases hlt : (k : Int) < (n : Int)
    · obtain rfl := HA.out (by have := HN.out; omega)
      obtain ⟨hb1, hb2⟩ := HIN.out (by have := HN.out; omega)
      have hkt : k < t.n := by have := HN.out; omega
      have HMT := HM.out.stay HT.out.turns.stays
      obtain ⟨pv, c0, hph⟩ := HMT.phis k hkt
      obtain ⟨lv, c1, hls⟩ := HMT.list k hkt
      rw [HTB.out] at c0 c1
      rw [HTO.out] at c0 c1
      obtain ⟨L, HL⟩ : ∃ L, Hid (rowS (blockE t) k = L) := ⟨_, rfl⟩
      obtain ⟨P, HP⟩ : ∃ L, Hid (phisSp (t.phis k) = L) := ⟨_, rfl⟩
      obtain ⟨I, HI⟩ : ∃ L, Hid (insSp (t.list k) = L) := ⟨_, rfl⟩
      have HND : Hid ((L ++ P ++ I ++ [(tb, toff + k * 6 + 2), (tb, toff + k * 6 + 3), (tb, toff + k * 6 + 4), (tb, toff + k * 6 + 5)]).Nodup) := by
        have h := HD.out
        rw [HSP.out] at h
        have h2 := rowS_nodup h (show k < n by omega)
        unfold blockE at h2
        rw [HTB.out] at h2
        rw [HTO.out] at h2
        have h3 := HL.out
        unfold blockE at h3
        rw [HTB.out] at h3
        rw [HTO.out] at h3
        rw [h3, HP.out, HI.out] at h2
        show List.Nodup _
        simpa [List.append_assoc] using h2
      have HRS : Hid (rowS (blockE t) (k + 1) = L ++ P ++ I ++ [(tb, toff + k * 6 + 2)] ++ [(tb, toff + k * 6 + 3)] ++ [(tb, toff + k * 6 + 4)] ++ [(tb, toff + k * 6 + 5)]) := by
        show _ = _
        rw [rowS_succ, HL.out, blockE, HP.out, HI.out, HTB.out, HTO.out]
        simp [List.append_assoc]
      have HN1 : Hid ((L ++ P).Nodup) := (List.nodup_append.1 (List.nodup_append.1 HND.out).1).1
      have HN2 : Hid ((L ++ P ++ I).Nodup) := (List.nodup_append.1 HND.out).1
      have hpl := phisSp_len hph
      have hil := insSp_len hls.small
      rw [HP.out] at hpl
      rw [HI.out] at hil
      rw [HL.out] at HT HZL
      have HPH : Hid (PhisTr lo hi wr pv (t.phis k)) := hph
      have HLS : Hid (InsTr lo hi wr lv (t.list k)) := hls
      obtain ⟨pa, pcap, rfl, _⟩ := hph.is
      obtain ⟨la, lcap, rfl, _⟩ := hls.is
      obtain ⟨pn, HPN⟩ : ∃ n, Hid ((t.phis k).n = n) := ⟨_, rfl⟩
      obtain ⟨ln, HLN⟩ : ∃ n, Hid ((t.list k).n = n) := ⟨_, rfl⟩
      rw [HPN.out] at c0 HPH
      rw [HLN.out] at c1 HLS
      obtain ⟨pl, HPL⟩ : ∃ n, Hid (P.length = n) := ⟨_, rfl⟩
      obtain ⟨il, HIL⟩ : ∃ n, Hid (I.length = n) := ⟨_, rfl⟩
      rw [HPL.out] at hpl
      rw [HIL.out] at hil
      clear hph hls HMT
      go_wp2_with fail
      refine (markPhiS_wr lo hi _ (t.phis k) z _ HPH.out (by rw [HP.out]; exact (List.nodup_append.1 HN1.out).2.1) (by omega) (by omega)).mono ?_
      rw [HP.out]
      rintro e w1 ⟨rfl, t1⟩
      rw [HPL.out]
      have HT1 : Hid (Wrote lo hi (L ++ P) q w w1) := HT.out.trans (by rw [← HZL.out]; exact t1) HN1.out
      have HL1 : Hid (InsTr lo hi w1 (.slice la ln lcap) (t.list k)) := HLS.out.stay t1.turns.stays
      have d1 := t1.turns.list _ _ _ _ c1
      have HZ1 : Hid (z + pl = q + (L ++ P).length) := by show _ = _; have := HZL.out; rw [List.length_append, HPL.out]; push_cast; omega
      clear t1 c0 c1
      go_wp2_with fail
      refine (markInsS_wr lo hi _ (t.list k) (z + pl) _ HL1.out (by rw [HI.out]; exact (List.nodup_append.1 HN2.out).2.1) (by omega) (by omega)).mono ?_
      rw [HI.out]
      rintro e w2 ⟨rfl, t2⟩
      rw [HIL.out]
      have HT2 : Hid (Wrote lo hi (L ++ P ++ I) q w w2) := HT1.out.trans (by rw [← HZ1.out]; exact t2) HN2.out
      have HZ2 : Hid (z + pl + il = q + (L ++ P ++ I).length) := by show _ = _; have := HZ1.out; rw [List.length_append, HIL.out]; push_cast; omega
      clear t2 d1
      obtain ⟨⟨x2, c2⟩, ⟨x3, c3⟩, ⟨x4, c4⟩, ⟨x5, c5⟩⟩ := (HM.out.stay HT2.out.turns.stays).num k hkt
      rw [HTB.out, HTO.out] at c2 c3 c4 c5
      have HFZ9 : Hid (∀ j, w2.frozen? ⟨tb, j, none⟩ = false) := fun j => by have h := (HM.out.stay HT2.out.turns.stays).fz (by have := HN.out; omega) j; rw [HTB.out] at h; exact h
      have f2 := HFZ9.out (toff + k * 6 + 2)
      have f3 := HFZ9.out (toff + k * 6 + 3)
      have f4 := HFZ9.out (toff + k * 6 + 4)
      have f5 := HFZ9.out (toff + k * 6 + 5)
      go_wp2_with fail
      go_roundw
      case rel =>
        obtain ⟨h2, d2, e2⟩ := HT2.out.next HND.out c2 hb1 hb2 HZ2.out
        obtain ⟨h3, d3, e3⟩ := h2.next d2 (cell_aside c3 (by omega)) hb1 hb2 e2
        obtain ⟨h4, d4, e4⟩ := h3.next d3 (cell_aside (cell_aside c4 (by omega)) (by omega)) hb1 hb2 e3
        obtain ⟨h5, d5, e5⟩ := h4.next d4 (cell_aside (cell_aside (cell_aside c5 (by omega)) (by omega)) (by omega)) hb1 hb2 e4
        refine ⟨k + 1, z + pl + il + 4, by omega, by go_num, by go_num, by omega, by omega, ?_, ?_⟩
        · show _ = _
          rw [HRS.out, ← e5]
          omega
        · rw [HRS.out]
          exact h5
      case measure => simp [intOf]; omega
    · go_wp2_with fail
      go_ret
      have hkn : k = n := by omega
      subst hkn
      refine ⟨?_, ?_⟩
      · rw [HSP.out]
        exact congrArg (fun x => Ending.returned (.int .i64 x)) HZL.out
      · rw [HSP.out]
        exact HT.out

set_option maxHeartbeats 8000000 in
theorem heldBlockS_has (lo hi : Nat) (v : Value) (t : BlocksT) (q : Int) (w : World) (hm : BlocksTr lo hi w v t) (hh : Has w (blocksSp t) q) (hq : 0 ≤ q) (hq2 : q ≤ 1000000) :
    Calls Tryd.prog 39 #[v, .int .i64 q] w fun e w' => GivesHeld (blocksSp t) q w e w' := by
  have HM : Hid (BlocksTr lo hi w v t) := hm
  obtain ⟨a, cap, rfl, ha⟩ := hm.is
  have HA : Hid (0 < t.n → a = some ⟨t.b, t.off, none⟩) := ha
  have hsm := hm.small
  obtain ⟨n, HN⟩ : ∃ n, Hid (t.n = n) := ⟨_, rfl⟩
  obtain ⟨tb, HTB⟩ : ∃ n, Hid (t.b = n) := ⟨_, rfl⟩
  obtain ⟨toff, HTO⟩ : ∃ n, Hid (t.off = n) := ⟨_, rfl⟩
  have HSP : Hid (blocksSp t = rowS (blockE t) n) := by show _ = _; rw [← HN.out]; rfl
  have HH : Hid (Has w (rowS (blockE t) n) q) := by have h := hh; rw [HSP.out] at h; exact h
  rw [HN.out] at hsm ⊢
  rw [HTB.out, HTO.out] at HA
  clear hm ha hh
  go_enter Tryd.func39, Tryd.ntmps39
  go_wp2_with fail
  go_loopw [1, 5] (fun kv i wr => ∃ (k : Nat) (z : Int), k ≤ n ∧ i = .int .i64 k ∧ kv = .int .i64 z ∧ q ≤ z ∧ z ≤ q + k * 2199029547012 ∧ Hid (z = q + (rowS (blockE t) k).length) ∧ Below w.heap.size w wr) (fun _ i _ => n - (intOf i).toNat)
  case atStart => exact ⟨0, q, Nat.zero_le _, rfl, rfl, Int.le_refl _, by omega, by show _ = _; simp [rowS], Below.refl _ _⟩
  case round =>
    obtain ⟨k, z, hk, rfl, rfl, hz1, hz2, HZL, hb⟩ := hrel
    have HB : Hid (Below w.heap.size w wr) := hb
    clear hb
    by_cases hlt : (k : Int) < (n : Int)
    · obtain rfl := HA.out (by have := HN.out; omega)
      have hkt : k < t.n := by have := HN.out; omega
      have HMT := HM.out.stay (Stays.below HB.out)
      obtain ⟨pv, c0, hph⟩ := HMT.phis k hkt
      obtain ⟨lv, c1, hls⟩ := HMT.list k hkt
      rw [HTB.out] at c0 c1
      rw [HTO.out] at c0 c1
      have hbl := blockE_len t k
      obtain ⟨P, HP⟩ : ∃ L, Hid (phisSp (t.phis k) = L) := ⟨_, rfl⟩
      obtain ⟨I, HI⟩ : ∃ L, Hid (insSp (t.list k) = L) := ⟨_, rfl⟩
      obtain ⟨pl, HPL⟩ : ∃ n, Hid (P.length = n) := ⟨_, rfl⟩
      obtain ⟨il, HIL⟩ : ∃ n, Hid (I.length = n) := ⟨_, rfl⟩
      have hpl := phisSp_len hph
      have hil := insSp_len hls.small
      rw [HP.out, HPL.out] at hpl
      rw [HI.out, HIL.out] at hil
      rw [HP.out, HI.out, HPL.out, HIL.out] at hbl
      have HBL : Hid ((blockE t k).length = pl + il + 4) := hbl
      have g0 := HH.out.row (show k < n by omega)
      rw [← HZL.out] at g0
      replace g0 := g0.keep HB.out
      unfold blockE at g0
      rw [HTB.out, HTO.out, HP.out, HI.out] at g0
      obtain ⟨g1, g2⟩ := Has.app.1 g0
      obtain ⟨gP, gI⟩ := Has.app.1 g1
      rw [HPL.out] at gI
      rw [List.length_append, HPL.out, HIL.out] at g2
      have HGP : Hid (Has wr P z) := gP
      have HGI : Hid (Has wr I (z + pl)) := gI
      have HG2 : Hid (Has wr [(tb, toff + k * 6 + 2), (tb, toff + k * 6 + 3), (tb, toff + k * 6 + 4), (tb, toff + k * 6 + 5)] (z + pl + il)) := by
        show Has _ _ _
        have e : z + (pl + il : Nat) = z + pl + il := by push_cast; omega
        rw [e] at g2
        exact g2
      have HPH : Hid (PhisTr lo hi wr pv (t.phis k)) := hph
      have HLS : Hid (InsTr lo hi wr lv (t.list k)) := hls
      obtain ⟨pa, pcap, rfl, _⟩ := hph.is
      obtain ⟨la, lcap, rfl, _⟩ := hls.is
      obtain ⟨pn, HPN⟩ : ∃ n, Hid ((t.phis k).n = n) := ⟨_, rfl⟩
      obtain ⟨ln, HLN⟩ : ∃ n, Hid ((t.list k).n = n) := ⟨_, rfl⟩
      rw [HPN.out] at c0 HPH
      rw [HLN.out] at c1 HLS
      clear hph hls HMT g0 g1 g2 gP gI hbl
      go_wp2_with fail
      refine (heldPhiS_has lo hi _ (t.phis k) z _ HPH.out (by rw [HP.out]; exact HGP.out) (by omega) (by omega)).mono ?_
      rw [HP.out]
      rintro e w1 ⟨rfl, b1⟩
      rw [HPL.out]
      replace c1 := Bel.keeps b1 c1
      have HLS1 : Hid (InsTr lo hi w1 (.slice la ln lcap) (t.list k)) := HLS.out.stay (Stays.below b1)
      have HGI1 : Hid (Has w1 I (z + pl)) := HGI.out.keep b1
      have HG21 : Hid (Has w1 [(tb, toff + k * 6 + 2), (tb, toff + k * 6 + 3), (tb, toff + k * 6 + 4), (tb, toff + k * 6 + 5)] (z + pl + il)) := HG2.out.keep b1
      have HB1 : Hid (Below w.heap.size w w1) := Bel.after HB.out b1
      clear b1 c0
      go_wp2_with fail
      refine (heldInsS_has lo hi _ (t.list k) (z + pl) _ HLS1.out (by rw [HI.out]; exact HGI1.out) (by omega) (by omega)).mono ?_
      rw [HI.out]
      rintro e w2 ⟨rfl, b2⟩
      rw [HIL.out]
      have HB2 : Hid (Below w.heap.size w w2) := Bel.after HB1.out b2
      have g2 := HG21.out.keep b2
      obtain ⟨c2, g3⟩ := g2.head
      obtain ⟨c3, g4⟩ := g3.head
      obtain ⟨c4, g5⟩ := g4.head
      obtain ⟨c5, _⟩ := g5.head
      change w2.cell? ⟨tb, toff + k * 6 + 2, none⟩ = some (.int .i64 (z + pl + il)) at c2
      change w2.cell? ⟨tb, toff + k * 6 + 3, none⟩ = some (.int .i64 (z + pl + il + 1)) at c3
      change w2.cell? ⟨tb, toff + k * 6 + 4, none⟩ = some (.int .i64 (z + pl + il + 1 + 1)) at c4
      change w2.cell? ⟨tb, toff + k * 6 + 5, none⟩ = some (.int .i64 (z + pl + il + 1 + 1 + 1)) at c5
      have e2 : ((z + pl + il : Int) != z + pl + il) = false := by simp
      have e3 : ((z + pl + il + 1 : Int) != z + pl + il + 1) = false := by simp
      have e4 : ((z + pl + il + 1 + 1 : Int) != z + pl + il + 1 + 1) = false := by simp
      have e5 : ((z + pl + il + 1 + 1 + 1 : Int) != z + pl + il + 1 + 1 + 1) = false := by simp
      clear b2 g2 g3 g4 g5 c1
      go_wp2_with fail
      go_roundw
      case rel =>
        refine ⟨k + 1, z + pl + il + 4, by omega, by go_num, by go_num, by omega, by omega, ?_, HB2.out⟩
        have h8 := HBL.out
        have h9 := HZL.out
        show _ = _
        rw [rowS_succ, List.length_append, h8]
        push_cast
        omega
      case measure => simp [intOf]; omega
    · go_wp2_with fail
      go_ret
      have hkn : k = n := by omega
      subst hkn
      refine ⟨?_, HB.out⟩
      rw [HSP.out]
      exact congrArg (fun x => Ending.returned (.int .i64 x)) HZL.out

/-- A program whose numbers' places are known, and no two of them one. -/
def FnTr (lo hi : Nat) (w : World) (v : Value) (t : BlocksT) (vals : Int) : Prop := ∃ bv, v = .agg #[bv, .int .i64 vals] ∧ BlocksTr lo hi w bv t
theorem FnTr.stay {lo hi : Nat} {w w' : World} {v : Value} {t : BlocksT} {vals : Int} (h : FnTr lo hi w v t vals) (s : Stays w w') : FnTr lo hi w' v t vals := by
  obtain ⟨bv, rfl, hb⟩ := h
  exact ⟨bv, rfl, hb.stay s⟩
/-- A program was marked, and the marks stand. -/
structure MarkedFn (lo hi : Nat) (t : BlocksT) (q : Int) (w w' : World) : Prop where
  marked : Marked lo hi w w'
  has : Has w' (blocksSp t) q
  stays : Stays w w'

set_option maxHeartbeats 2000000 in
theorem markFn_wr (lo hi : Nat) (v : Value) (t : BlocksT) (vals : Int) (q : Int) (w : World) (hm : FnTr lo hi w v t vals) (hd : (blocksSp t).Nodup) (hlo : lo ≤ w.heap.size) (hhi : hi ≤ w.heap.size) (hq : 0 ≤ q) (hq2 : q ≤ 1000000) :
    Calls Tryd.prog 17 #[v, .int .i64 q] w fun e w' => e = .returned (.int .i64 (q + (blocksSp t).length)) ∧ MarkedFn lo hi t q w w' := by
  obtain ⟨bv, rfl, hb⟩ := hm
  have HB : Hid (BlocksTr lo hi w bv t) := hb
  have HD : Hid ((blocksSp t).Nodup) := hd
  obtain ⟨ba, bcap, rfl, _⟩ := hb.is
  obtain ⟨n, HN⟩ : ∃ n, Hid (t.n = n) := ⟨_, rfl⟩
  rw [HN.out] at HB ⊢
  obtain ⟨ln, HLN⟩ : ∃ n, Hid ((blocksSp t).length = n) := ⟨_, rfl⟩
  rw [HLN.out]
  clear hb hd
  go_enter Tryd.func17, Tryd.ntmps17
  go_wp2_with fail
  refine (markBlockS_wr lo hi _ t q _ (HB.out.stay (Stays.below (Bel.alloc _ _))) HD.out hq hq2).mono ?_
  rintro e w1 ⟨rfl, t1⟩
  rw [HLN.out]
  have HT : Hid (Wrote lo hi (blocksSp t) q (w.alloc (.cells #[.slice ba n bcap, .int .i64 vals] 26)) w1) := t1
  clear t1
  go_wp2_with fail
  go_ret
  refine ⟨rfl, ⟨((Below.refl lo w).alloc hlo _).trans HT.out.turns.bel, fun k hk hk2 => ?_⟩, HT.out.has, ⟨fun p z h => HT.out.turns.num p z (Bel.keeps (Bel.alloc _ _) h), fun p a n c h => HT.out.turns.list p a n c (Bel.keeps (Bel.alloc _ _) h), fun b o j z _ => (HT.out.turns.fz _).trans (frozen?_alloc_cells _ _ _ _)⟩⟩
  exact (HT.out.turns.above k hk).trans (Below.heap_alloc w _ k hk2)

set_option maxHeartbeats 2000000 in
theorem heldFn_has (lo hi : Nat) (v : Value) (t : BlocksT) (vals : Int) (q : Int) (w : World) (hm : FnTr lo hi w v t vals) (hh : Has w (blocksSp t) q) (hq : 0 ≤ q) (hq2 : q ≤ 1000000) :
    Calls Tryd.prog 18 #[v, .int .i64 q] w fun e w' => GivesHeld (blocksSp t) q w e w' := by
  obtain ⟨bv, rfl, hb⟩ := hm
  have HB : Hid (BlocksTr lo hi w bv t) := hb
  have HH : Hid (Has w (blocksSp t) q) := hh
  obtain ⟨ba, bcap, rfl, _⟩ := hb.is
  obtain ⟨n, HN⟩ : ∃ n, Hid (t.n = n) := ⟨_, rfl⟩
  rw [HN.out] at HB ⊢
  obtain ⟨L, HL⟩ : ∃ L, Hid (blocksSp t = L) := ⟨_, rfl⟩
  rw [HL.out] at HH ⊢
  obtain ⟨ln, HLN⟩ : ∃ n, Hid (L.length = n) := ⟨_, rfl⟩
  clear hb hh
  go_enter Tryd.func18, Tryd.ntmps18
  go_wp2_with fail
  refine (heldBlockS_has lo hi _ t q _ (HB.out.stay (Stays.below (Bel.alloc _ _))) (by rw [HL.out]; exact HH.out.keep (Bel.alloc _ _)) hq hq2).mono ?_
  rw [HL.out]
  rintro e w1 ⟨rfl, b1⟩
  have HB1 : Hid (Below w.heap.size w w1) := Bel.after (Bel.alloc _ _) b1
  rw [HLN.out]
  clear b1
  have hln : 0 ≤ q + (ln : Int) := by omega
  have hln2 : ¬ q + (ln : Int) < 0 := by omega
  go_wp2_with fail
  go_ret
  refine ⟨?_, HB1.out⟩
  rw [HLN.out]
  rfl
end Go.Proofs.YthdioeeanodjiaaDoor
