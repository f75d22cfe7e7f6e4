/- Proved: of every drawn program Critical of the program answers as the model does; each edge of it is from a block that goes two ways to one where others come, or phis are; of what has no shape none is told. -/
import Derived.Test.YtfnilamkapabkaaRows
import Derived.Test.YtfnilamkapabkaaKIns
import Derived.Test.YtfnilamkapabkaaKSeq
import Derived.Test.YtfnilamkapabkaaKCrit
import Derived.Test.YtfnilamkapabkaaKLast
import Derived.Test.YtfnilamkapabkaaKGraph
import Derived.Test.YtfnilamkapabkaaKSh8
import Derived.Test.YtfnilamkapabkaaKDrD
import Derived.WalkKit
import Derived.ProofKit
import Derived.OpenShut
import Derived.ShutString
import Derived.ChangeOld
import Derived.Below
namespace Go.Proofs.Ytfnilamkapabkaa.fnCritical
open Go.ChangeShapes Go.WideShapes Go.ChangeAt Go.RowKit
open Go.ChangeMaps (open_string shut_string)
set_option linter.unusedVariables false

theorem own : ownKnob Try.prog.godebug = none := by kernel_rfl
theorem laidOut : laidOutB Try.prog = true := by kernel_rfl

set_option maxRecDepth 100000 in
set_option maxHeartbeats 64000000 in
set_option maxHeartbeats 4000000 in
theorem walk (w : World) (a0 : Option Addr) (len0 cap0 : Nat) (z0 : List Int) (r0 : IsRow .u8 w a0 len0 cap0 z0) :
    Calls Try.prog 3 #[.slice a0 len0 cap0] w fun e w' => e = .returned (.bool true) ∧ Below w.heap.size w w' := by
  have HR : Hid (IsRow .u8 w a0 len0 cap0 z0) := r0
  clear r0
  go_enter Try.func3, Try.ntmps3
  go_wp2_with fail
  refine (big_any a0 len0 cap0 _).mono ?_
  rintro e w1 ⟨t, rfl, rfl⟩
  cases t with
  | true =>
    go_wp2_with fail
    go_ret
    exact ⟨rfl, Below.refl _ _⟩
  | false =>
    go_wp2_with fail
    refine (DrawCritical_any a0 len0 cap0 z0 _ HR.out).mono ?_
    rintro e w2 ⟨v, F, rfl, hF, hn0, hn9, b2⟩
    obtain ⟨n, HN⟩ : ∃ n, Hid (F.blocks.length = n) := ⟨_, rfl⟩
    obtain ⟨vals, HV⟩ : ∃ x, Hid (F.values = x) := ⟨_, rfl⟩
    have F2 : Hid (FnAt w2 v F) := FnAtLo.low (Nat.zero_le _) hF
    obtain ⟨ba, bcap, rfl⟩ := F2.out.out HN.out HV.out
    have B2 : Hid (Below w1.heap.size w1 w2) := b2
    clear hF b2 hn0 hn9
    obtain ⟨L, HL⟩ : ∃ L, Hid (critOf F = L) := ⟨_, rfl⟩
    obtain ⟨ln, HLN⟩ : ∃ q, Hid (L.length = q) := ⟨_, rfl⟩
    have hl9 : ln ≤ 100 := by rw [← HLN.out, ← HL.out]; exact critOf_small F
    have hll : ((ln : Int) != (ln : Int)) = false := by simp
    go_wp2_with fail
    refine (impl_critical _ F _ (F2.out.later (Bel.alloc _ _))).mono ?_
    rw [HL.out]
    rintro e w3 ⟨ev, rfl, hev, b3⟩
    have B3 : Hid (Below w1.heap.size w1 w3) := Bel.after (Bel.after B2.out (Bel.alloc _ _)) b3
    have F3 : Hid (FnAt w3 (.agg #[.slice ba n bcap, .int .i64 vals]) F) := (F2.out.later (Bel.alloc _ _)).later b3
    have E3 : Hid (EdgesAt w3 ev L) := hev.at
    have c0 := box_cell b3 0
    have c1 := box_cell b3 1
    simp at c0 c1
    clear b3 F2 B2 hev
    obtain ⟨FB, hFB⟩ : ∃ x, w2.heap.size = x := ⟨_, rfl⟩
    rw [hFB] at c0 c1 ⊢
    clear hFB
    go_wp2_with fail
    refine (spec_critical _ F _ F3.out).mono ?_
    rw [HL.out]
    rintro e w4 ⟨sv, rfl, hsv, b4⟩
    have B4 : Hid (Below w1.heap.size w1 w4) := Bel.after B3.out b4
    have F4 : Hid (FnAt w4 (.agg #[.slice ba n bcap, .int .i64 vals]) F) := F3.out.later b4
    have E4 : Hid (EdgesAt w4 ev L) := E3.out.keep b4
    have S4 : Hid (EdgesAt w4 sv L) := hsv.at
    have C0 : Hid (w4.cell? ⟨FB, 0, none⟩ = some (.slice ba n bcap)) := Bel.keeps b4 c0
    have C1 : Hid (w4.cell? ⟨FB, 1, none⟩ = some (.int .i64 vals)) := Bel.keeps b4 c1
    obtain ⟨ea, ecap, rfl, hel, _⟩ := E4.out
    obtain ⟨ga, gcap, rfl, hgl, _⟩ := S4.out
    rw [HLN.out] at hel hgl E4 S4 ⊢
    clear b4 F3 B3 c0 c1 E3 hsv
    go_wp2_with fail
    go_loopw [6] (fun i wr => ∃ k : Nat, k ≤ ln ∧ i = .int .i64 (k : Int) ∧ Below w4.heap.size w4 wr) (fun i _ => ln - (intOf i).toNat)
    case atStart => exact ⟨0, Nat.zero_le _, rfl, Below.refl _ _⟩
    case round =>
      obtain ⟨wq, hwq⟩ : ∃ x, x = wr := ⟨_, rfl⟩
      subst hwq
      obtain ⟨k, hk, rfl, hB⟩ := hrel
      have HB : Hid (Below w4.heap.size w4 wq) := hB
      clear hB
      by_cases hlt : (k : Int) < (ln : Int)
      · obtain ⟨ed, hed⟩ : ∃ x, L[k]? = some x := ⟨_, List.getElem?_eq_getElem (by have := HLN.out; omega)⟩
        obtain ⟨hS, a, s, hea, hes, han, hsn, hs2, hsin, hcr⟩ := mem_critOf (F := F) (e := ed) (by rw [HL.out]; exact List.mem_of_getElem? hed)
        have HS : Hid (FnShape F) := hS
        have HCR : Hid (1 < (predsN F (s : Int)).length ∨ 0 < phiLen F s) := hcr
        have HIN : Hid ((s : Int) ∈ succsN F a) := hsin
        have HSL : Hid ((succsN F a).length = 2) := hs2
        have HSU : Hid (succsOf F (a : Int) = succsN F a) := by
          show _ = _
          rw [succsOf_yes hS (by omega) (by omega)]
          rfl
        have HPR : Hid (predsOf F (s : Int) = predsN F (s : Int)) := predsOf_yes hS (by omega) (by omega)
        obtain ⟨ql, HPRL⟩ : ∃ q, Hid ((predsN F (s : Int)).length = q) := ⟨_, rfl⟩
        rw [HN.out] at han hsn
        obtain ⟨eb, eoff, rfl, p0, p1⟩ := listAt_at (ListAt.keep E4.out (fun b o z hb h => h.keep (Keeps.of_below HB.out 0) hb)) hed
        obtain ⟨gb, goff, rfl, g0, g1⟩ := listAt_at (ListAt.keep S4.out (fun b o z hb h => h.keep (Keeps.of_below HB.out 0) hb)) hed
        rw [hea] at p0 g0
        rw [hes] at p1 g1
        obtain ⟨x, hx⟩ : ∃ x, F.blocks[s]? = some x := ⟨_, List.getElem?_eq_getElem (by have := HN.out; omega)⟩
        have HPL : Hid (phiLen F s = x.phis.length) := phiLen_at hx
        have hsi2 : (s : Int) < (n : Int) := by omega
        obtain ⟨b, off, rfl, hat⟩ := (F4.out.later HB.out).blockC HN.out hsn hx
        obtain ⟨pv, lv, b0, _, _, _, _, _, hps, _⟩ := hat
        obtain ⟨np, HNP⟩ : ∃ q, Hid (x.phis.length = q) := ⟨_, rfl⟩
        obtain ⟨pa, pcap, rfl, hpm, _⟩ := hps
        rw [HNP.out] at b0 hpm HPL
        have d0 := Bel.keeps HB.out C0.out
        have d1 := Bel.keeps HB.out C1.out
        clear hed hS hcr hsin hs2 hx hea hes
        go_wp2_with fail
        obtain ⟨w5, hw5⟩ : ∃ W, wq.alloc (.cells #[.int .i64 (a : Int), .int .i64 (s : Int)] 31) = W := ⟨_, rfl⟩
        have x0 : w5.cell? ⟨wq.heap.size, 0, none⟩ = some (.int .i64 (a : Int)) := by rw [← hw5]; simp [go_sem]
        have x1 : w5.cell? ⟨wq.heap.size, 1, none⟩ = some (.int .i64 (s : Int)) := by rw [← hw5]; simp [go_sem]
        have HBX : Hid (Below wq.heap.size wq w5) := by show Below _ _ _; rw [← hw5]; exact Bel.alloc _ _
        rw [hw5]
        clear hw5
        obtain ⟨XB, hXB⟩ : ∃ x, wq.heap.size = x := ⟨_, rfl⟩
        rw [hXB] at x0 x1 ⊢
        clear hXB
        replace d0 := Bel.keeps HBX.out d0
        replace d1 := Bel.keeps HBX.out d1
        replace g0 := Bel.keeps HBX.out g0
        replace g1 := Bel.keeps HBX.out g1
        replace b0 := Bel.keeps HBX.out b0
        clear p0 p1
        by_cases hq2 : (ql : Int) < 2
        · have hnp : ((np : Int) == 0) = false := by
            have h1 := HCR.out
            have h2 := HPRL.out
            have h3 := HPL.out
            have : 0 < np := by omega
            simp
            omega
          refine wp_region_held_drew (S := (fun w' => w'.cell? ⟨FB, 0, none⟩ = some (.slice (some ⟨b, off, none⟩) n bcap) ∧ w'.cell? ⟨FB, 1, none⟩ = some (.int .i64 vals) ∧ w'.cell? ⟨XB, 0, none⟩ = some (.int .i64 (a : Int)) ∧ w'.cell? ⟨XB, 1, none⟩ = some (.int .i64 (s : Int)) ∧ w'.cell? ⟨gb, goff + k * 2, none⟩ = some (.int .i64 (a : Int)) ∧ w'.cell? ⟨gb, goff + k * 2 + 1, none⟩ = some (.int .i64 (s : Int)) ∧ w'.cell? ⟨b, off + s * 6, none⟩ = some (.slice pa np pcap))) (by kernel_rfl) ⟨d0, d1, x0, x1, g0, g1, b0⟩ (fun hHeld => ?_)
          refine wpAnyH_take (i := 0) (oi := { dst := some 31, op := Go.Op.load 31 (Go.Operand.tmp 7), type := 31, pos := "laws.go:867", after := #[], guard := none }) (v := ?_) rfl (by kernel_rfl) (by kernel_rfl) (by kernel_rfl) (fun _ _ _ h => h) (Or.inl ⟨by rfl, ?_⟩) (by assumption) ?_
          rotate_left
          · intro w hSw
            (try dsimp only at hSw)
            go_simp
            (try with_reducible rfl)
          try simp only [Act.put, List.setIfInBounds_toArray, List.set_cons_zero, List.set_cons_succ]
          refine wpAnyH_take (i := 1) (oi := { dst := some 32, op := Go.Op.move (Go.Operand.tmp 5), type := 28, pos := "laws.go:867", after := #[], guard := none }) (v := ?_) rfl (by kernel_rfl) (by kernel_rfl) (by kernel_rfl) (fun _ _ _ h => h) (Or.inl ⟨by rfl, ?_⟩) (by assumption) ?_
          rotate_left
          · intro w hSw
            (try dsimp only at hSw)
            go_simp
            (try with_reducible rfl)
          try simp only [Act.put, List.setIfInBounds_toArray, List.set_cons_zero, List.set_cons_succ]
          refine wpAnyH_take (i := 2) (oi := { dst := some 33, op := Go.Op.move (Go.Operand.tmp 6), type := 3, pos := "laws.go:867", after := #[], guard := none }) (v := ?_) rfl (by kernel_rfl) (by kernel_rfl) (by kernel_rfl) (fun _ _ _ h => h) (Or.inl ⟨by rfl, ?_⟩) (by assumption) ?_
          rotate_left
          · intro w hSw
            (try dsimp only at hSw)
            go_simp
            (try with_reducible rfl)
          try simp only [Act.put, List.setIfInBounds_toArray, List.set_cons_zero, List.set_cons_succ]
          refine wpAnyH_take (i := 3) (oi := { dst := some 34, op := Go.Op.indexAddr 28 (Go.Operand.tmp 32) (Go.Operand.tmp 33), type := 0, pos := "laws.go:867", after := #[{ on := 1, ground := Go.Ground.data }, { on := 2, ground := Go.Ground.data }], guard := none }) (v := ?_) rfl (by kernel_rfl) (by kernel_rfl) (by kernel_rfl) (fun _ _ _ h => h) (Or.inl ⟨by rfl, ?_⟩) (by assumption) ?_
          rotate_left
          · intro w hSw
            (try dsimp only at hSw)
            go_simp
            (try with_reducible rfl)
          try simp only [Act.put, List.setIfInBounds_toArray, List.set_cons_zero, List.set_cons_succ]
          refine wpAnyH_take (i := 4) (oi := { dst := some 35, op := Go.Op.load 31 (Go.Operand.tmp 34), type := 31, pos := "laws.go:867", after := #[{ on := 3, ground := Go.Ground.data }], guard := none }) (v := ?_) rfl (by kernel_rfl) (by kernel_rfl) (by kernel_rfl) (fun _ _ _ h => h) (Or.inl ⟨by rfl, ?_⟩) (by assumption) ?_
          rotate_left
          · intro w hSw
            (try dsimp only at hSw)
            go_simp
            (try with_reducible rfl)
          try simp only [Act.put, List.setIfInBounds_toArray, List.set_cons_zero, List.set_cons_succ]
          refine wpAnyH_take (i := 5) (oi := { dst := some 36, op := Go.Op.binOp Go.BinOp.neq 31 (Go.Operand.tmp 31) (Go.Operand.tmp 35) 31, type := 4, pos := "laws.go:867", after := #[{ on := 0, ground := Go.Ground.data }, { on := 4, ground := Go.Ground.data }], guard := none }) (v := ?_) rfl (by kernel_rfl) (by kernel_rfl) (by kernel_rfl) (fun _ _ _ h => h) (Or.inl ⟨by rfl, ?_⟩) (by assumption) ?_
          rotate_left
          · intro w hSw
            (try dsimp only at hSw)
            go_simp
            (try with_reducible rfl)
          try simp only [Act.put, List.setIfInBounds_toArray, List.set_cons_zero, List.set_cons_succ]
          refine wpAnyH_take (i := 6) (oi := { dst := some 37, op := Go.Op.move (Go.Operand.tmp 36), type := 4, pos := "laws.go:867", after := #[{ on := 5, ground := Go.Ground.data }], guard := none }) (v := ?_) rfl (by kernel_rfl) (by kernel_rfl) (by kernel_rfl) (fun _ _ _ h => h) (Or.inl ⟨by rfl, ?_⟩) (by assumption) ?_
          rotate_left
          · intro w hSw
            (try dsimp only at hSw)
            go_simp
            (try with_reducible rfl)
          try simp only [Act.put, List.setIfInBounds_toArray, List.set_cons_zero, List.set_cons_succ]
          refine wpAnyH_take (i := 7) (oi := { dst := some 38, op := Go.Op.load 26 (Go.Operand.tmp 3), type := 26, pos := "laws.go:867", after := #[{ on := 6, ground := Go.Ground.guard }], guard := some (6, false) }) (v := ?_) rfl (by kernel_rfl) (by kernel_rfl) (by kernel_rfl) (fun _ _ _ h => h) (Or.inl ⟨by rfl, ?_⟩) (by assumption) ?_
          rotate_left
          · intro w hSw
            (try dsimp only at hSw)
            go_simp
            (try with_reducible rfl)
          try simp only [Act.put, List.setIfInBounds_toArray, List.set_cons_zero, List.set_cons_succ]
          refine wpAnyH_take (i := 8) (oi := { dst := some 39, op := Go.Op.fieldAddr 31 (Go.Operand.tmp 7) 0, type := 0, pos := "laws.go:867", after := #[{ on := 6, ground := Go.Ground.guard }], guard := some (6, false) }) (v := ?_) rfl (by kernel_rfl) (by kernel_rfl) (by kernel_rfl) (fun _ _ _ h => h) (Or.inl ⟨by rfl, ?_⟩) (by assumption) ?_
          rotate_left
          · intro w hSw
            (try dsimp only at hSw)
            go_simp
            (try with_reducible rfl)
          try simp only [Act.put, List.setIfInBounds_toArray, List.set_cons_zero, List.set_cons_succ]
          refine wpAnyH_take (i := 9) (oi := { dst := some 40, op := Go.Op.load 3 (Go.Operand.tmp 39), type := 3, pos := "laws.go:867", after := #[{ on := 8, ground := Go.Ground.data }, { on := 6, ground := Go.Ground.guard }], guard := some (6, false) }) (v := ?_) rfl (by kernel_rfl) (by kernel_rfl) (by kernel_rfl) (fun _ _ _ h => h) (Or.inl ⟨by rfl, ?_⟩) (by assumption) ?_
          rotate_left
          · intro w hSw
            (try dsimp only at hSw)
            go_simp
            (try with_reducible rfl)
          try simp only [Act.put, List.setIfInBounds_toArray, List.set_cons_zero, List.set_cons_succ]
          refine ckAnyH_oneG (i := 10) (o := { dst := some 41, op := Go.Op.call { callee := Go.Callee.value (Go.Operand.func 8), args := #[Go.Operand.tmp 38, Go.Operand.tmp 40], argTypes := #[26, 3] }, type := 32, pos := "laws.go:867", after := #[{ on := 7, ground := Go.Ground.data }, { on := 9, ground := Go.Ground.data }, { on := 6, ground := Go.Ground.chain }, { on := 6, ground := Go.Ground.guard }], guard := some (6, false) }) rfl (by rfl) (by kernel_rfl) (fun K9 hK9 => ?_)
          refine wp_call_of (f := 8) (args := #[.agg #[.slice (some ⟨b, off, none⟩) n bcap, .int .i64 vals], .int .i64 (a : Int)]) (by go_simp) (impl_succs _ F (a : Int) _ (F4.out.later (Bel.after HB.out HBX.out.drew))) ?_
          rw [HSU.out]
          rintro e w6 ⟨sv, rfl, hq, b6⟩
          obtain ⟨sa, scap, rfl, hsl, _⟩ := hq.at
          rw [HSL.out] at hsl ⊢
          have B6 : Hid (Below w5.heap.size w5 w6) := Bel.after ((Below.refl _ _).drew) b6
          refine ⟨_, rfl, ?_⟩
          refine hK9 _ _ ⟨⟨Bel.keeps B6.out d0, Bel.keeps B6.out d1, Bel.keeps B6.out x0, Bel.keeps B6.out x1, Bel.keeps B6.out g0, Bel.keeps B6.out g1, Bel.keeps B6.out b0⟩, ?_⟩
          try simp only [Act.put, List.setIfInBounds_toArray, List.set_cons_zero, List.set_cons_succ]
          have hH6 : (fun w' => w'.cell? ⟨FB, 0, none⟩ = some (.slice (some ⟨b, off, none⟩) n bcap) ∧ w'.cell? ⟨FB, 1, none⟩ = some (.int .i64 vals) ∧ w'.cell? ⟨XB, 0, none⟩ = some (.int .i64 (a : Int)) ∧ w'.cell? ⟨XB, 1, none⟩ = some (.int .i64 (s : Int)) ∧ w'.cell? ⟨gb, goff + k * 2, none⟩ = some (.int .i64 (a : Int)) ∧ w'.cell? ⟨gb, goff + k * 2 + 1, none⟩ = some (.int .i64 (s : Int)) ∧ w'.cell? ⟨b, off + s * 6, none⟩ = some (.slice pa np pcap)) w6 := ⟨Bel.keeps B6.out d0, Bel.keeps B6.out d1, Bel.keeps B6.out x0, Bel.keeps B6.out x1, Bel.keeps B6.out g0, Bel.keeps B6.out g1, Bel.keeps B6.out b0⟩
          clear hK9 hq b6 hHeld
          refine wpAnyH_take (i := 11) (oi := { dst := some 42, op := Go.Op.call { callee := Go.Callee.builtin Go.Builtin.len, args := #[Go.Operand.tmp 41], argTypes := #[32] }, type := 3, pos := "laws.go:867", after := #[{ on := 10, ground := Go.Ground.data }, { on := 6, ground := Go.Ground.guard }], guard := some (6, false) }) (v := ?_) rfl (by kernel_rfl) (by kernel_rfl) (by kernel_rfl) (fun _ _ _ h => h) (Or.inl ⟨by rfl, ?_⟩) (by assumption) ?_
          rotate_left
          · intro w hSw
            (try dsimp only at hSw)
            go_simp
            (try with_reducible rfl)
          try simp only [Act.put, List.setIfInBounds_toArray, List.set_cons_zero, List.set_cons_succ]
          refine wpAnyH_take (i := 12) (oi := { dst := some 43, op := Go.Op.binOp Go.BinOp.neq 3 (Go.Operand.tmp 42) (Go.Operand.const (Go.Value.int Go.IntKind.i64 2)) 3, type := 4, pos := "laws.go:867", after := #[{ on := 11, ground := Go.Ground.data }, { on := 6, ground := Go.Ground.guard }], guard := some (6, false) }) (v := ?_) rfl (by kernel_rfl) (by kernel_rfl) (by kernel_rfl) (fun _ _ _ h => h) (Or.inl ⟨by rfl, ?_⟩) (by assumption) ?_
          rotate_left
          · intro w hSw
            (try dsimp only at hSw)
            go_simp
            (try with_reducible rfl)
          try simp only [Act.put, List.setIfInBounds_toArray, List.set_cons_zero, List.set_cons_succ]
          refine wpAnyH_take (i := 13) (oi := { dst := some 44, op := Go.Op.pick (Go.Operand.tmp 37) (Go.Operand.const (Go.Value.bool true)) (Go.Operand.tmp 43), type := 4, pos := "laws.go:867", after := #[{ on := 6, ground := Go.Ground.data }, { on := 12, ground := Go.Ground.data }], guard := none }) (v := ?_) rfl (by kernel_rfl) (by kernel_rfl) (by kernel_rfl) (fun _ _ _ h => h) (Or.inl ⟨by rfl, ?_⟩) (by assumption) ?_
          rotate_left
          · intro w hSw
            (try dsimp only at hSw)
            go_simp
            (try with_reducible rfl)
          try simp only [Act.put, List.setIfInBounds_toArray, List.set_cons_zero, List.set_cons_succ]
          refine wpAnyH_take (i := 14) (oi := { dst := some 45, op := Go.Op.move (Go.Operand.tmp 44), type := 4, pos := "laws.go:867", after := #[{ on := 13, ground := Go.Ground.data }, { on := 10, ground := Go.Ground.chain }], guard := none }) (v := ?_) rfl (by kernel_rfl) (by kernel_rfl) (by kernel_rfl) (fun _ _ _ h => h) (Or.inl ⟨by rfl, ?_⟩) (by assumption) ?_
          rotate_left
          · intro w hSw
            (try dsimp only at hSw)
            go_simp
            (try with_reducible rfl)
          try simp only [Act.put, List.setIfInBounds_toArray, List.set_cons_zero, List.set_cons_succ]
          refine wpAnyH_take (i := 15) (oi := { dst := some 46, op := Go.Op.load 26 (Go.Operand.tmp 3), type := 26, pos := "laws.go:867", after := #[{ on := 14, ground := Go.Ground.guard }], guard := some (14, false) }) (v := ?_) rfl (by kernel_rfl) (by kernel_rfl) (by kernel_rfl) (fun _ _ _ h => h) (Or.inl ⟨by rfl, ?_⟩) (by assumption) ?_
          rotate_left
          · intro w hSw
            (try dsimp only at hSw)
            go_simp
            (try with_reducible rfl)
          try simp only [Act.put, List.setIfInBounds_toArray, List.set_cons_zero, List.set_cons_succ]
          refine wpAnyH_take (i := 16) (oi := { dst := some 47, op := Go.Op.fieldAddr 31 (Go.Operand.tmp 7) 0, type := 0, pos := "laws.go:867", after := #[{ on := 14, ground := Go.Ground.guard }], guard := some (14, false) }) (v := ?_) rfl (by kernel_rfl) (by kernel_rfl) (by kernel_rfl) (fun _ _ _ h => h) (Or.inl ⟨by rfl, ?_⟩) (by assumption) ?_
          rotate_left
          · intro w hSw
            (try dsimp only at hSw)
            go_simp
            (try with_reducible rfl)
          try simp only [Act.put, List.setIfInBounds_toArray, List.set_cons_zero, List.set_cons_succ]
          refine wpAnyH_take (i := 17) (oi := { dst := some 48, op := Go.Op.load 3 (Go.Operand.tmp 47), type := 3, pos := "laws.go:867", after := #[{ on := 16, ground := Go.Ground.data }, { on := 14, ground := Go.Ground.guard }], guard := some (14, false) }) (v := ?_) rfl (by kernel_rfl) (by kernel_rfl) (by kernel_rfl) (fun _ _ _ h => h) (Or.inl ⟨by rfl, ?_⟩) (by assumption) ?_
          rotate_left
          · intro w hSw
            (try dsimp only at hSw)
            go_simp
            (try with_reducible rfl)
          try simp only [Act.put, List.setIfInBounds_toArray, List.set_cons_zero, List.set_cons_succ]
          refine wpAnyH_take (i := 19) (oi := { dst := some 50, op := Go.Op.fieldAddr 31 (Go.Operand.tmp 7) 1, type := 0, pos := "laws.go:867", after := #[{ on := 14, ground := Go.Ground.guard }], guard := some (14, false) }) (v := ?_) rfl (by kernel_rfl) (by kernel_rfl) (by kernel_rfl) (fun _ _ _ h => h) (Or.inl ⟨by rfl, ?_⟩) (by assumption) ?_
          rotate_left
          · intro w hSw
            (try dsimp only at hSw)
            go_simp
            (try with_reducible rfl)
          try simp only [Act.put, List.setIfInBounds_toArray, List.set_cons_zero, List.set_cons_succ]
          refine wpAnyH_take (i := 20) (oi := { dst := some 51, op := Go.Op.load 3 (Go.Operand.tmp 50), type := 3, pos := "laws.go:867", after := #[{ on := 19, ground := Go.Ground.data }, { on := 14, ground := Go.Ground.guard }], guard := some (14, false) }) (v := ?_) rfl (by kernel_rfl) (by kernel_rfl) (by kernel_rfl) (fun _ _ _ h => h) (Or.inl ⟨by rfl, ?_⟩) (by assumption) ?_
          rotate_left
          · intro w hSw
            (try dsimp only at hSw)
            go_simp
            (try with_reducible rfl)
          try simp only [Act.put, List.setIfInBounds_toArray, List.set_cons_zero, List.set_cons_succ]
          refine ckAnyH_oneG (i := 18) (o := { dst := some 49, op := Go.Op.call { callee := Go.Callee.value (Go.Operand.func 8), args := #[Go.Operand.tmp 46, Go.Operand.tmp 48], argTypes := #[26, 3] }, type := 32, pos := "laws.go:867", after := #[{ on := 15, ground := Go.Ground.data }, { on := 17, ground := Go.Ground.data }, { on := 14, ground := Go.Ground.chain }, { on := 14, ground := Go.Ground.guard }], guard := some (14, false) }) rfl (by rfl) (by kernel_rfl) (fun K9 hK9 => ?_)
          refine wp_call_of (f := 8) (args := #[.agg #[.slice (some ⟨b, off, none⟩) n bcap, .int .i64 vals], .int .i64 (a : Int)]) (by go_simp) (impl_succs _ F (a : Int) _ (F4.out.later (Bel.after (Bel.after HB.out HBX.out) B6.out))) ?_
          rw [HSU.out]
          rintro e w7 ⟨sv, rfl, hq, b7⟩
          have HQ7 : Hid (IntsAt w7 sv (succsN F a)) := hq.at
          have B7 : Hid (Below w5.heap.size w5 w7) := Bel.after B6.out b7
          refine ⟨_, rfl, ?_⟩
          refine hK9 _ _ ⟨⟨Bel.keeps B7.out d0, Bel.keeps B7.out d1, Bel.keeps B7.out x0, Bel.keeps B7.out x1, Bel.keeps B7.out g0, Bel.keeps B7.out g1, Bel.keeps B7.out b0⟩, ?_⟩
          try simp only [Act.put, List.setIfInBounds_toArray, List.set_cons_zero, List.set_cons_succ]
          clear hK9 hq b7 hH6
          refine ckAnyH_oneG (i := 21) (o := { dst := some 52, op := Go.Op.call { callee := Go.Callee.value (Go.Operand.func 9), args := #[Go.Operand.tmp 49, Go.Operand.tmp 51], argTypes := #[32, 3] }, type := 4, pos := "laws.go:867", after := #[{ on := 18, ground := Go.Ground.data }, { on := 20, ground := Go.Ground.data }, { on := 18, ground := Go.Ground.chain }, { on := 14, ground := Go.Ground.guard }], guard := some (14, false) }) rfl (by rfl) (by kernel_rfl) (fun K9 hK9 => ?_)
          refine wp_call_of (f := 9) (args := #[sv, .int .i64 (s : Int)]) (by go_simp) (within_any sv (succsN F a) (s : Int) _ HQ7.out) ?_
          rw [decide_eq_true HIN.out]
          rintro e w8 ⟨rfl, h8⟩
          rw [h8]
          clear h8
          refine ⟨_, rfl, ?_⟩
          refine hK9 _ _ ⟨⟨Bel.keeps B7.out d0, Bel.keeps B7.out d1, Bel.keeps B7.out x0, Bel.keeps B7.out x1, Bel.keeps B7.out g0, Bel.keeps B7.out g1, Bel.keeps B7.out b0⟩, ?_⟩
          try simp only [Act.put, List.setIfInBounds_toArray, List.set_cons_zero, List.set_cons_succ]
          have hH7 : (fun w' => w'.cell? ⟨FB, 0, none⟩ = some (.slice (some ⟨b, off, none⟩) n bcap) ∧ w'.cell? ⟨FB, 1, none⟩ = some (.int .i64 vals) ∧ w'.cell? ⟨XB, 0, none⟩ = some (.int .i64 (a : Int)) ∧ w'.cell? ⟨XB, 1, none⟩ = some (.int .i64 (s : Int)) ∧ w'.cell? ⟨gb, goff + k * 2, none⟩ = some (.int .i64 (a : Int)) ∧ w'.cell? ⟨gb, goff + k * 2 + 1, none⟩ = some (.int .i64 (s : Int)) ∧ w'.cell? ⟨b, off + s * 6, none⟩ = some (.slice pa np pcap)) w7 := ⟨Bel.keeps B7.out d0, Bel.keeps B7.out d1, Bel.keeps B7.out x0, Bel.keeps B7.out x1, Bel.keeps B7.out g0, Bel.keeps B7.out g1, Bel.keeps B7.out b0⟩
          clear hK9
          refine wpAnyH_take (i := 22) (oi := { dst := some 53, op := Go.Op.unOp Go.UnOp.not 4 (Go.Operand.tmp 52), type := 4, pos := "laws.go:867", after := #[{ on := 21, ground := Go.Ground.data }, { on := 14, ground := Go.Ground.guard }], guard := some (14, false) }) (v := ?_) rfl (by kernel_rfl) (by kernel_rfl) (by kernel_rfl) (fun _ _ _ h => h) (Or.inl ⟨by rfl, ?_⟩) (by assumption) ?_
          rotate_left
          · intro w hSw
            (try dsimp only at hSw)
            go_simp
            (try with_reducible rfl)
          try simp only [Act.put, List.setIfInBounds_toArray, List.set_cons_zero, List.set_cons_succ]
          refine wpAnyH_take (i := 23) (oi := { dst := some 54, op := Go.Op.pick (Go.Operand.tmp 45) (Go.Operand.const (Go.Value.bool true)) (Go.Operand.tmp 53), type := 4, pos := "laws.go:867", after := #[{ on := 14, ground := Go.Ground.data }, { on := 22, ground := Go.Ground.data }], guard := none }) (v := ?_) rfl (by kernel_rfl) (by kernel_rfl) (by kernel_rfl) (fun _ _ _ h => h) (Or.inl ⟨by rfl, ?_⟩) (by assumption) ?_
          rotate_left
          · intro w hSw
            (try dsimp only at hSw)
            go_simp
            (try with_reducible rfl)
          try simp only [Act.put, List.setIfInBounds_toArray, List.set_cons_zero, List.set_cons_succ]
          refine wpAnyH_take (i := 24) (oi := { dst := some 55, op := Go.Op.move (Go.Operand.tmp 54), type := 4, pos := "laws.go:867", after := #[{ on := 23, ground := Go.Ground.data }, { on := 21, ground := Go.Ground.chain }], guard := none }) (v := ?_) rfl (by kernel_rfl) (by kernel_rfl) (by kernel_rfl) (fun _ _ _ h => h) (Or.inl ⟨by rfl, ?_⟩) (by assumption) ?_
          rotate_left
          · intro w hSw
            (try dsimp only at hSw)
            go_simp
            (try with_reducible rfl)
          try simp only [Act.put, List.setIfInBounds_toArray, List.set_cons_zero, List.set_cons_succ]
          refine wpAnyH_take (i := 25) (oi := { dst := some 56, op := Go.Op.load 26 (Go.Operand.tmp 3), type := 26, pos := "laws.go:867", after := #[{ on := 24, ground := Go.Ground.guard }], guard := some (24, false) }) (v := ?_) rfl (by kernel_rfl) (by kernel_rfl) (by kernel_rfl) (fun _ _ _ h => h) (Or.inl ⟨by rfl, ?_⟩) (by assumption) ?_
          rotate_left
          · intro w hSw
            (try dsimp only at hSw)
            go_simp
            (try with_reducible rfl)
          try simp only [Act.put, List.setIfInBounds_toArray, List.set_cons_zero, List.set_cons_succ]
          refine wpAnyH_take (i := 26) (oi := { dst := some 57, op := Go.Op.fieldAddr 31 (Go.Operand.tmp 7) 1, type := 0, pos := "laws.go:867", after := #[{ on := 24, ground := Go.Ground.guard }], guard := some (24, false) }) (v := ?_) rfl (by kernel_rfl) (by kernel_rfl) (by kernel_rfl) (fun _ _ _ h => h) (Or.inl ⟨by rfl, ?_⟩) (by assumption) ?_
          rotate_left
          · intro w hSw
            (try dsimp only at hSw)
            go_simp
            (try with_reducible rfl)
          try simp only [Act.put, List.setIfInBounds_toArray, List.set_cons_zero, List.set_cons_succ]
          refine wpAnyH_take (i := 27) (oi := { dst := some 58, op := Go.Op.load 3 (Go.Operand.tmp 57), type := 3, pos := "laws.go:867", after := #[{ on := 26, ground := Go.Ground.data }, { on := 24, ground := Go.Ground.guard }], guard := some (24, false) }) (v := ?_) rfl (by kernel_rfl) (by kernel_rfl) (by kernel_rfl) (fun _ _ _ h => h) (Or.inl ⟨by rfl, ?_⟩) (by assumption) ?_
          rotate_left
          · intro w hSw
            (try dsimp only at hSw)
            go_simp
            (try with_reducible rfl)
          try simp only [Act.put, List.setIfInBounds_toArray, List.set_cons_zero, List.set_cons_succ]
          refine ckAnyH_oneG (i := 28) (o := { dst := some 59, op := Go.Op.call { callee := Go.Callee.value (Go.Operand.func 10), args := #[Go.Operand.tmp 56, Go.Operand.tmp 58], argTypes := #[26, 3] }, type := 32, pos := "laws.go:867", after := #[{ on := 25, ground := Go.Ground.data }, { on := 27, ground := Go.Ground.data }, { on := 24, ground := Go.Ground.chain }, { on := 24, ground := Go.Ground.guard }], guard := some (24, false) }) rfl (by rfl) (by kernel_rfl) (fun K9 hK9 => ?_)
          refine wp_call_of (f := 10) (args := #[.agg #[.slice (some ⟨b, off, none⟩) n bcap, .int .i64 vals], .int .i64 (s : Int)]) (by go_simp) (impl_preds _ F (s : Int) _ (F4.out.later (Bel.after (Bel.after HB.out HBX.out) B7.out))) ?_
          rw [HPR.out]
          rintro e w9 ⟨pv, rfl, hq, b9⟩
          obtain ⟨qa, qcap, rfl, hql, _⟩ := hq.at
          rw [HPRL.out] at hql ⊢
          have B9 : Hid (Below w5.heap.size w5 w9) := Bel.after B7.out b9
          refine ⟨_, rfl, ?_⟩
          refine hK9 _ _ ⟨⟨Bel.keeps B9.out d0, Bel.keeps B9.out d1, Bel.keeps B9.out x0, Bel.keeps B9.out x1, Bel.keeps B9.out g0, Bel.keeps B9.out g1, Bel.keeps B9.out b0⟩, ?_⟩
          try simp only [Act.put, List.setIfInBounds_toArray, List.set_cons_zero, List.set_cons_succ]
          have hH9 : (fun w' => w'.cell? ⟨FB, 0, none⟩ = some (.slice (some ⟨b, off, none⟩) n bcap) ∧ w'.cell? ⟨FB, 1, none⟩ = some (.int .i64 vals) ∧ w'.cell? ⟨XB, 0, none⟩ = some (.int .i64 (a : Int)) ∧ w'.cell? ⟨XB, 1, none⟩ = some (.int .i64 (s : Int)) ∧ w'.cell? ⟨gb, goff + k * 2, none⟩ = some (.int .i64 (a : Int)) ∧ w'.cell? ⟨gb, goff + k * 2 + 1, none⟩ = some (.int .i64 (s : Int)) ∧ w'.cell? ⟨b, off + s * 6, none⟩ = some (.slice pa np pcap)) w9 := ⟨Bel.keeps B9.out d0, Bel.keeps B9.out d1, Bel.keeps B9.out x0, Bel.keeps B9.out x1, Bel.keeps B9.out g0, Bel.keeps B9.out g1, Bel.keeps B9.out b0⟩
          clear hK9 hq b9 hH7
          refine wpAnyH_take (i := 29) (oi := { dst := some 60, op := Go.Op.call { callee := Go.Callee.builtin Go.Builtin.len, args := #[Go.Operand.tmp 59], argTypes := #[32] }, type := 3, pos := "laws.go:867", after := #[{ on := 28, ground := Go.Ground.data }, { on := 24, ground := Go.Ground.guard }], guard := some (24, false) }) (v := ?_) rfl (by kernel_rfl) (by kernel_rfl) (by kernel_rfl) (fun _ _ _ h => h) (Or.inl ⟨by rfl, ?_⟩) (by assumption) ?_
          rotate_left
          · intro w hSw
            (try dsimp only at hSw)
            go_simp
            (try with_reducible rfl)
          try simp only [Act.put, List.setIfInBounds_toArray, List.set_cons_zero, List.set_cons_succ]
          refine wpAnyH_take (i := 30) (oi := { dst := some 61, op := Go.Op.binOp Go.BinOp.lss 3 (Go.Operand.tmp 60) (Go.Operand.const (Go.Value.int Go.IntKind.i64 2)) 3, type := 4, pos := "laws.go:867", after := #[{ on := 29, ground := Go.Ground.data }, { on := 24, ground := Go.Ground.guard }], guard := some (24, false) }) (v := ?_) rfl (by kernel_rfl) (by kernel_rfl) (by kernel_rfl) (fun _ _ _ h => h) (Or.inl ⟨by rfl, ?_⟩) (by assumption) ?_
          rotate_left
          · intro w hSw
            (try dsimp only at hSw)
            go_simp
            (try with_reducible rfl)
          try simp only [Act.put, List.setIfInBounds_toArray, List.set_cons_zero, List.set_cons_succ]
          refine wpAnyH_take (i := 31) (oi := { dst := some 62, op := Go.Op.move (Go.Operand.tmp 61), type := 4, pos := "laws.go:867", after := #[{ on := 30, ground := Go.Ground.data }, { on := 28, ground := Go.Ground.chain }, { on := 24, ground := Go.Ground.guard }], guard := some (24, false) }) (v := ?_) rfl (by kernel_rfl) (by kernel_rfl) (by kernel_rfl) (fun _ _ _ h => h) (Or.inl ⟨by rfl, ?_⟩) (by assumption) ?_
          rotate_left
          · intro w hSw
            (try dsimp only at hSw)
            go_simp
            (try with_reducible rfl)
          try simp only [Act.put, List.setIfInBounds_toArray, List.set_cons_zero, List.set_cons_succ]
          refine wpAnyH_take (i := 32) (oi := { dst := some 63, op := Go.Op.fieldAddr 26 (Go.Operand.tmp 3) 0, type := 0, pos := "laws.go:867", after := #[{ on := 31, ground := Go.Ground.guard }], guard := some (31, true) }) (v := ?_) rfl (by kernel_rfl) (by kernel_rfl) (by kernel_rfl) (fun _ _ _ h => h) (Or.inl ⟨by rfl, ?_⟩) (by assumption) ?_
          rotate_left
          · intro w hSw
            (try dsimp only at hSw)
            go_simp
            (try with_reducible rfl)
          try simp only [Act.put, List.setIfInBounds_toArray, List.set_cons_zero, List.set_cons_succ]
          refine wpAnyH_take (i := 33) (oi := { dst := some 64, op := Go.Op.load 24 (Go.Operand.tmp 63), type := 24, pos := "laws.go:867", after := #[{ on := 32, ground := Go.Ground.data }, { on := 31, ground := Go.Ground.guard }], guard := some (31, true) }) (v := ?_) rfl (by kernel_rfl) (by kernel_rfl) (by kernel_rfl) (fun _ _ _ h => h) (Or.inl ⟨by rfl, ?_⟩) (by assumption) ?_
          rotate_left
          · intro w hSw
            (try dsimp only at hSw)
            go_simp
            (try with_reducible rfl)
          try simp only [Act.put, List.setIfInBounds_toArray, List.set_cons_zero, List.set_cons_succ]
          refine wpAnyH_take (i := 34) (oi := { dst := some 65, op := Go.Op.fieldAddr 31 (Go.Operand.tmp 7) 1, type := 0, pos := "laws.go:867", after := #[{ on := 31, ground := Go.Ground.guard }], guard := some (31, true) }) (v := ?_) rfl (by kernel_rfl) (by kernel_rfl) (by kernel_rfl) (fun _ _ _ h => h) (Or.inl ⟨by rfl, ?_⟩) (by assumption) ?_
          rotate_left
          · intro w hSw
            (try dsimp only at hSw)
            go_simp
            (try with_reducible rfl)
          try simp only [Act.put, List.setIfInBounds_toArray, List.set_cons_zero, List.set_cons_succ]
          refine wpAnyH_take (i := 35) (oi := { dst := some 66, op := Go.Op.load 3 (Go.Operand.tmp 65), type := 3, pos := "laws.go:867", after := #[{ on := 34, ground := Go.Ground.data }, { on := 31, ground := Go.Ground.guard }], guard := some (31, true) }) (v := ?_) rfl (by kernel_rfl) (by kernel_rfl) (by kernel_rfl) (fun _ _ _ h => h) (Or.inl ⟨by rfl, ?_⟩) (by assumption) ?_
          rotate_left
          · intro w hSw
            (try dsimp only at hSw)
            go_simp
            (try with_reducible rfl)
          try simp only [Act.put, List.setIfInBounds_toArray, List.set_cons_zero, List.set_cons_succ]
          refine wpAnyH_take (i := 36) (oi := { dst := some 67, op := Go.Op.indexAddr 24 (Go.Operand.tmp 64) (Go.Operand.tmp 66), type := 0, pos := "laws.go:867", after := #[{ on := 33, ground := Go.Ground.data }, { on := 35, ground := Go.Ground.data }, { on := 31, ground := Go.Ground.guard }], guard := some (31, true) }) (v := ?_) rfl (by kernel_rfl) (by kernel_rfl) (by kernel_rfl) (fun _ _ _ h => h) (Or.inl ⟨by rfl, ?_⟩) (by assumption) ?_
          rotate_left
          · intro w hSw
            (try dsimp only at hSw)
            go_simp
            (try with_reducible rfl)
          try simp only [Act.put, List.setIfInBounds_toArray, List.set_cons_zero, List.set_cons_succ]
          refine wpAnyH_take (i := 37) (oi := { dst := some 68, op := Go.Op.fieldAddr 40 (Go.Operand.tmp 67) 0, type := 0, pos := "laws.go:867", after := #[{ on := 36, ground := Go.Ground.data }, { on := 31, ground := Go.Ground.guard }], guard := some (31, true) }) (v := ?_) rfl (by kernel_rfl) (by kernel_rfl) (by kernel_rfl) (fun _ _ _ h => h) (Or.inl ⟨by rfl, ?_⟩) (by assumption) ?_
          rotate_left
          · intro w hSw
            (try dsimp only at hSw)
            go_simp
            (try with_reducible rfl)
          try simp only [Act.put, List.setIfInBounds_toArray, List.set_cons_zero, List.set_cons_succ]
          refine wpAnyH_take (i := 38) (oi := { dst := some 69, op := Go.Op.load 35 (Go.Operand.tmp 68), type := 35, pos := "laws.go:867", after := #[{ on := 37, ground := Go.Ground.data }, { on := 31, ground := Go.Ground.guard }], guard := some (31, true) }) (v := ?_) rfl (by kernel_rfl) (by kernel_rfl) (by kernel_rfl) (fun _ _ _ h => h) (Or.inl ⟨by rfl, ?_⟩) (by assumption) ?_
          rotate_left
          · intro w hSw
            (try dsimp only at hSw)
            go_simp
            (try with_reducible rfl)
          try simp only [Act.put, List.setIfInBounds_toArray, List.set_cons_zero, List.set_cons_succ]
          refine wpAnyH_take (i := 39) (oi := { dst := some 70, op := Go.Op.call { callee := Go.Callee.builtin Go.Builtin.len, args := #[Go.Operand.tmp 69], argTypes := #[35] }, type := 3, pos := "laws.go:867", after := #[{ on := 38, ground := Go.Ground.data }, { on := 31, ground := Go.Ground.guard }], guard := some (31, true) }) (v := ?_) rfl (by kernel_rfl) (by kernel_rfl) (by kernel_rfl) (fun _ _ _ h => h) (Or.inl ⟨by rfl, ?_⟩) (by assumption) ?_
          rotate_left
          · intro w hSw
            (try dsimp only at hSw)
            go_simp
            (try with_reducible rfl)
          try simp only [Act.put, List.setIfInBounds_toArray, List.set_cons_zero, List.set_cons_succ]
          refine wpAnyH_take (i := 40) (oi := { dst := some 71, op := Go.Op.binOp Go.BinOp.eql 3 (Go.Operand.tmp 70) (Go.Operand.const (Go.Value.int Go.IntKind.i64 0)) 3, type := 4, pos := "laws.go:867", after := #[{ on := 39, ground := Go.Ground.data }, { on := 31, ground := Go.Ground.guard }], guard := some (31, true) }) (v := ?_) rfl (by kernel_rfl) (by kernel_rfl) (by kernel_rfl) (fun _ _ _ h => h) (Or.inl ⟨by rfl, ?_⟩) (by assumption) ?_
          rotate_left
          · intro w hSw
            (try dsimp only at hSw)
            go_simp
            (try with_reducible rfl)
          try simp only [Act.put, List.setIfInBounds_toArray, List.set_cons_zero, List.set_cons_succ]
          refine wpAnyH_take (i := 41) (oi := { dst := some 72, op := Go.Op.pick (Go.Operand.tmp 62) (Go.Operand.tmp 71) (Go.Operand.const (Go.Value.bool false)), type := 4, pos := "laws.go:867", after := #[{ on := 31, ground := Go.Ground.data }, { on := 40, ground := Go.Ground.data }, { on := 24, ground := Go.Ground.guard }], guard := some (24, false) }) (v := ?_) rfl (by kernel_rfl) (by kernel_rfl) (by kernel_rfl) (fun _ _ _ h => h) (Or.inl ⟨by rfl, ?_⟩) (by assumption) ?_
          rotate_left
          · intro w hSw
            (try dsimp only at hSw)
            go_simp
            (try with_reducible rfl)
          try simp only [Act.put, List.setIfInBounds_toArray, List.set_cons_zero, List.set_cons_succ]
          refine wpAnyH_take (i := 42) (oi := { dst := some 73, op := Go.Op.pick (Go.Operand.tmp 55) (Go.Operand.const (Go.Value.bool true)) (Go.Operand.tmp 72), type := 4, pos := "laws.go:867", after := #[{ on := 24, ground := Go.Ground.data }, { on := 41, ground := Go.Ground.data }], guard := none }) (v := ?_) rfl (by kernel_rfl) (by kernel_rfl) (by kernel_rfl) (fun _ _ _ h => h) (Or.inl ⟨by rfl, ?_⟩) (by assumption) ?_
          rotate_left
          · intro w hSw
            (try dsimp only at hSw)
            go_simp
            (try with_reducible rfl)
          try simp only [Act.put, List.setIfInBounds_toArray, List.set_cons_zero, List.set_cons_succ]
          refine wpAnyH_done (by kernel_rfl) ?_ _
          clear hH9
          simp only [Exit.then]
          go_at_K
          go_wp2_with fail
          go_roundw
          case rel => exact ⟨k + 1, by omega, by go_num, Bel.after (Bel.after HB.out HBX.out) B9.out⟩
          case measure => simp [intOf]; omega
        · have hq3 : ¬ (ql : Int) < 2 := hq2
          refine wp_region_held_drew (S := (fun w' => w'.cell? ⟨FB, 0, none⟩ = some (.slice (some ⟨b, off, none⟩) n bcap) ∧ w'.cell? ⟨FB, 1, none⟩ = some (.int .i64 vals) ∧ w'.cell? ⟨XB, 0, none⟩ = some (.int .i64 (a : Int)) ∧ w'.cell? ⟨XB, 1, none⟩ = some (.int .i64 (s : Int)) ∧ w'.cell? ⟨gb, goff + k * 2, none⟩ = some (.int .i64 (a : Int)) ∧ w'.cell? ⟨gb, goff + k * 2 + 1, none⟩ = some (.int .i64 (s : Int)) ∧ w'.cell? ⟨b, off + s * 6, none⟩ = some (.slice pa np pcap))) (by kernel_rfl) ⟨d0, d1, x0, x1, g0, g1, b0⟩ (fun hHeld => ?_)
          refine wpAnyH_take (i := 0) (oi := { dst := some 31, op := Go.Op.load 31 (Go.Operand.tmp 7), type := 31, pos := "laws.go:867", after := #[], guard := none }) (v := ?_) rfl (by kernel_rfl) (by kernel_rfl) (by kernel_rfl) (fun _ _ _ h => h) (Or.inl ⟨by rfl, ?_⟩) (by assumption) ?_
          rotate_left
          · intro w hSw
            (try dsimp only at hSw)
            go_simp
            (try with_reducible rfl)
          try simp only [Act.put, List.setIfInBounds_toArray, List.set_cons_zero, List.set_cons_succ]
          refine wpAnyH_take (i := 1) (oi := { dst := some 32, op := Go.Op.move (Go.Operand.tmp 5), type := 28, pos := "laws.go:867", after := #[], guard := none }) (v := ?_) rfl (by kernel_rfl) (by kernel_rfl) (by kernel_rfl) (fun _ _ _ h => h) (Or.inl ⟨by rfl, ?_⟩) (by assumption) ?_
          rotate_left
          · intro w hSw
            (try dsimp only at hSw)
            go_simp
            (try with_reducible rfl)
          try simp only [Act.put, List.setIfInBounds_toArray, List.set_cons_zero, List.set_cons_succ]
          refine wpAnyH_take (i := 2) (oi := { dst := some 33, op := Go.Op.move (Go.Operand.tmp 6), type := 3, pos := "laws.go:867", after := #[], guard := none }) (v := ?_) rfl (by kernel_rfl) (by kernel_rfl) (by kernel_rfl) (fun _ _ _ h => h) (Or.inl ⟨by rfl, ?_⟩) (by assumption) ?_
          rotate_left
          · intro w hSw
            (try dsimp only at hSw)
            go_simp
            (try with_reducible rfl)
          try simp only [Act.put, List.setIfInBounds_toArray, List.set_cons_zero, List.set_cons_succ]
          refine wpAnyH_take (i := 3) (oi := { dst := some 34, op := Go.Op.indexAddr 28 (Go.Operand.tmp 32) (Go.Operand.tmp 33), type := 0, pos := "laws.go:867", after := #[{ on := 1, ground := Go.Ground.data }, { on := 2, ground := Go.Ground.data }], guard := none }) (v := ?_) rfl (by kernel_rfl) (by kernel_rfl) (by kernel_rfl) (fun _ _ _ h => h) (Or.inl ⟨by rfl, ?_⟩) (by assumption) ?_
          rotate_left
          · intro w hSw
            (try dsimp only at hSw)
            go_simp
            (try with_reducible rfl)
          try simp only [Act.put, List.setIfInBounds_toArray, List.set_cons_zero, List.set_cons_succ]
          refine wpAnyH_take (i := 4) (oi := { dst := some 35, op := Go.Op.load 31 (Go.Operand.tmp 34), type := 31, pos := "laws.go:867", after := #[{ on := 3, ground := Go.Ground.data }], guard := none }) (v := ?_) rfl (by kernel_rfl) (by kernel_rfl) (by kernel_rfl) (fun _ _ _ h => h) (Or.inl ⟨by rfl, ?_⟩) (by assumption) ?_
          rotate_left
          · intro w hSw
            (try dsimp only at hSw)
            go_simp
            (try with_reducible rfl)
          try simp only [Act.put, List.setIfInBounds_toArray, List.set_cons_zero, List.set_cons_succ]
          refine wpAnyH_take (i := 5) (oi := { dst := some 36, op := Go.Op.binOp Go.BinOp.neq 31 (Go.Operand.tmp 31) (Go.Operand.tmp 35) 31, type := 4, pos := "laws.go:867", after := #[{ on := 0, ground := Go.Ground.data }, { on := 4, ground := Go.Ground.data }], guard := none }) (v := ?_) rfl (by kernel_rfl) (by kernel_rfl) (by kernel_rfl) (fun _ _ _ h => h) (Or.inl ⟨by rfl, ?_⟩) (by assumption) ?_
          rotate_left
          · intro w hSw
            (try dsimp only at hSw)
            go_simp
            (try with_reducible rfl)
          try simp only [Act.put, List.setIfInBounds_toArray, List.set_cons_zero, List.set_cons_succ]
          refine wpAnyH_take (i := 6) (oi := { dst := some 37, op := Go.Op.move (Go.Operand.tmp 36), type := 4, pos := "laws.go:867", after := #[{ on := 5, ground := Go.Ground.data }], guard := none }) (v := ?_) rfl (by kernel_rfl) (by kernel_rfl) (by kernel_rfl) (fun _ _ _ h => h) (Or.inl ⟨by rfl, ?_⟩) (by assumption) ?_
          rotate_left
          · intro w hSw
            (try dsimp only at hSw)
            go_simp
            (try with_reducible rfl)
          try simp only [Act.put, List.setIfInBounds_toArray, List.set_cons_zero, List.set_cons_succ]
          refine wpAnyH_take (i := 7) (oi := { dst := some 38, op := Go.Op.load 26 (Go.Operand.tmp 3), type := 26, pos := "laws.go:867", after := #[{ on := 6, ground := Go.Ground.guard }], guard := some (6, false) }) (v := ?_) rfl (by kernel_rfl) (by kernel_rfl) (by kernel_rfl) (fun _ _ _ h => h) (Or.inl ⟨by rfl, ?_⟩) (by assumption) ?_
          rotate_left
          · intro w hSw
            (try dsimp only at hSw)
            go_simp
            (try with_reducible rfl)
          try simp only [Act.put, List.setIfInBounds_toArray, List.set_cons_zero, List.set_cons_succ]
          refine wpAnyH_take (i := 8) (oi := { dst := some 39, op := Go.Op.fieldAddr 31 (Go.Operand.tmp 7) 0, type := 0, pos := "laws.go:867", after := #[{ on := 6, ground := Go.Ground.guard }], guard := some (6, false) }) (v := ?_) rfl (by kernel_rfl) (by kernel_rfl) (by kernel_rfl) (fun _ _ _ h => h) (Or.inl ⟨by rfl, ?_⟩) (by assumption) ?_
          rotate_left
          · intro w hSw
            (try dsimp only at hSw)
            go_simp
            (try with_reducible rfl)
          try simp only [Act.put, List.setIfInBounds_toArray, List.set_cons_zero, List.set_cons_succ]
          refine wpAnyH_take (i := 9) (oi := { dst := some 40, op := Go.Op.load 3 (Go.Operand.tmp 39), type := 3, pos := "laws.go:867", after := #[{ on := 8, ground := Go.Ground.data }, { on := 6, ground := Go.Ground.guard }], guard := some (6, false) }) (v := ?_) rfl (by kernel_rfl) (by kernel_rfl) (by kernel_rfl) (fun _ _ _ h => h) (Or.inl ⟨by rfl, ?_⟩) (by assumption) ?_
          rotate_left
          · intro w hSw
            (try dsimp only at hSw)
            go_simp
            (try with_reducible rfl)
          try simp only [Act.put, List.setIfInBounds_toArray, List.set_cons_zero, List.set_cons_succ]
          refine ckAnyH_oneG (i := 10) (o := { dst := some 41, op := Go.Op.call { callee := Go.Callee.value (Go.Operand.func 8), args := #[Go.Operand.tmp 38, Go.Operand.tmp 40], argTypes := #[26, 3] }, type := 32, pos := "laws.go:867", after := #[{ on := 7, ground := Go.Ground.data }, { on := 9, ground := Go.Ground.data }, { on := 6, ground := Go.Ground.chain }, { on := 6, ground := Go.Ground.guard }], guard := some (6, false) }) rfl (by rfl) (by kernel_rfl) (fun K9 hK9 => ?_)
          refine wp_call_of (f := 8) (args := #[.agg #[.slice (some ⟨b, off, none⟩) n bcap, .int .i64 vals], .int .i64 (a : Int)]) (by go_simp) (impl_succs _ F (a : Int) _ (F4.out.later (Bel.after HB.out HBX.out.drew))) ?_
          rw [HSU.out]
          rintro e w6 ⟨sv, rfl, hq, b6⟩
          obtain ⟨sa, scap, rfl, hsl, _⟩ := hq.at
          rw [HSL.out] at hsl ⊢
          have B6 : Hid (Below w5.heap.size w5 w6) := Bel.after ((Below.refl _ _).drew) b6
          refine ⟨_, rfl, ?_⟩
          refine hK9 _ _ ⟨⟨Bel.keeps B6.out d0, Bel.keeps B6.out d1, Bel.keeps B6.out x0, Bel.keeps B6.out x1, Bel.keeps B6.out g0, Bel.keeps B6.out g1, Bel.keeps B6.out b0⟩, ?_⟩
          try simp only [Act.put, List.setIfInBounds_toArray, List.set_cons_zero, List.set_cons_succ]
          have hH6 : (fun w' => w'.cell? ⟨FB, 0, none⟩ = some (.slice (some ⟨b, off, none⟩) n bcap) ∧ w'.cell? ⟨FB, 1, none⟩ = some (.int .i64 vals) ∧ w'.cell? ⟨XB, 0, none⟩ = some (.int .i64 (a : Int)) ∧ w'.cell? ⟨XB, 1, none⟩ = some (.int .i64 (s : Int)) ∧ w'.cell? ⟨gb, goff + k * 2, none⟩ = some (.int .i64 (a : Int)) ∧ w'.cell? ⟨gb, goff + k * 2 + 1, none⟩ = some (.int .i64 (s : Int)) ∧ w'.cell? ⟨b, off + s * 6, none⟩ = some (.slice pa np pcap)) w6 := ⟨Bel.keeps B6.out d0, Bel.keeps B6.out d1, Bel.keeps B6.out x0, Bel.keeps B6.out x1, Bel.keeps B6.out g0, Bel.keeps B6.out g1, Bel.keeps B6.out b0⟩
          clear hK9 hq b6 hHeld
          refine wpAnyH_take (i := 11) (oi := { dst := some 42, op := Go.Op.call { callee := Go.Callee.builtin Go.Builtin.len, args := #[Go.Operand.tmp 41], argTypes := #[32] }, type := 3, pos := "laws.go:867", after := #[{ on := 10, ground := Go.Ground.data }, { on := 6, ground := Go.Ground.guard }], guard := some (6, false) }) (v := ?_) rfl (by kernel_rfl) (by kernel_rfl) (by kernel_rfl) (fun _ _ _ h => h) (Or.inl ⟨by rfl, ?_⟩) (by assumption) ?_
          rotate_left
          · intro w hSw
            (try dsimp only at hSw)
            go_simp
            (try with_reducible rfl)
          try simp only [Act.put, List.setIfInBounds_toArray, List.set_cons_zero, List.set_cons_succ]
          refine wpAnyH_take (i := 12) (oi := { dst := some 43, op := Go.Op.binOp Go.BinOp.neq 3 (Go.Operand.tmp 42) (Go.Operand.const (Go.Value.int Go.IntKind.i64 2)) 3, type := 4, pos := "laws.go:867", after := #[{ on := 11, ground := Go.Ground.data }, { on := 6, ground := Go.Ground.guard }], guard := some (6, false) }) (v := ?_) rfl (by kernel_rfl) (by kernel_rfl) (by kernel_rfl) (fun _ _ _ h => h) (Or.inl ⟨by rfl, ?_⟩) (by assumption) ?_
          rotate_left
          · intro w hSw
            (try dsimp only at hSw)
            go_simp
            (try with_reducible rfl)
          try simp only [Act.put, List.setIfInBounds_toArray, List.set_cons_zero, List.set_cons_succ]
          refine wpAnyH_take (i := 13) (oi := { dst := some 44, op := Go.Op.pick (Go.Operand.tmp 37) (Go.Operand.const (Go.Value.bool true)) (Go.Operand.tmp 43), type := 4, pos := "laws.go:867", after := #[{ on := 6, ground := Go.Ground.data }, { on := 12, ground := Go.Ground.data }], guard := none }) (v := ?_) rfl (by kernel_rfl) (by kernel_rfl) (by kernel_rfl) (fun _ _ _ h => h) (Or.inl ⟨by rfl, ?_⟩) (by assumption) ?_
          rotate_left
          · intro w hSw
            (try dsimp only at hSw)
            go_simp
            (try with_reducible rfl)
          try simp only [Act.put, List.setIfInBounds_toArray, List.set_cons_zero, List.set_cons_succ]
          refine wpAnyH_take (i := 14) (oi := { dst := some 45, op := Go.Op.move (Go.Operand.tmp 44), type := 4, pos := "laws.go:867", after := #[{ on := 13, ground := Go.Ground.data }, { on := 10, ground := Go.Ground.chain }], guard := none }) (v := ?_) rfl (by kernel_rfl) (by kernel_rfl) (by kernel_rfl) (fun _ _ _ h => h) (Or.inl ⟨by rfl, ?_⟩) (by assumption) ?_
          rotate_left
          · intro w hSw
            (try dsimp only at hSw)
            go_simp
            (try with_reducible rfl)
          try simp only [Act.put, List.setIfInBounds_toArray, List.set_cons_zero, List.set_cons_succ]
          refine wpAnyH_take (i := 15) (oi := { dst := some 46, op := Go.Op.load 26 (Go.Operand.tmp 3), type := 26, pos := "laws.go:867", after := #[{ on := 14, ground := Go.Ground.guard }], guard := some (14, false) }) (v := ?_) rfl (by kernel_rfl) (by kernel_rfl) (by kernel_rfl) (fun _ _ _ h => h) (Or.inl ⟨by rfl, ?_⟩) (by assumption) ?_
          rotate_left
          · intro w hSw
            (try dsimp only at hSw)
            go_simp
            (try with_reducible rfl)
          try simp only [Act.put, List.setIfInBounds_toArray, List.set_cons_zero, List.set_cons_succ]
          refine wpAnyH_take (i := 16) (oi := { dst := some 47, op := Go.Op.fieldAddr 31 (Go.Operand.tmp 7) 0, type := 0, pos := "laws.go:867", after := #[{ on := 14, ground := Go.Ground.guard }], guard := some (14, false) }) (v := ?_) rfl (by kernel_rfl) (by kernel_rfl) (by kernel_rfl) (fun _ _ _ h => h) (Or.inl ⟨by rfl, ?_⟩) (by assumption) ?_
          rotate_left
          · intro w hSw
            (try dsimp only at hSw)
            go_simp
            (try with_reducible rfl)
          try simp only [Act.put, List.setIfInBounds_toArray, List.set_cons_zero, List.set_cons_succ]
          refine wpAnyH_take (i := 17) (oi := { dst := some 48, op := Go.Op.load 3 (Go.Operand.tmp 47), type := 3, pos := "laws.go:867", after := #[{ on := 16, ground := Go.Ground.data }, { on := 14, ground := Go.Ground.guard }], guard := some (14, false) }) (v := ?_) rfl (by kernel_rfl) (by kernel_rfl) (by kernel_rfl) (fun _ _ _ h => h) (Or.inl ⟨by rfl, ?_⟩) (by assumption) ?_
          rotate_left
          · intro w hSw
            (try dsimp only at hSw)
            go_simp
            (try with_reducible rfl)
          try simp only [Act.put, List.setIfInBounds_toArray, List.set_cons_zero, List.set_cons_succ]
          refine wpAnyH_take (i := 19) (oi := { dst := some 50, op := Go.Op.fieldAddr 31 (Go.Operand.tmp 7) 1, type := 0, pos := "laws.go:867", after := #[{ on := 14, ground := Go.Ground.guard }], guard := some (14, false) }) (v := ?_) rfl (by kernel_rfl) (by kernel_rfl) (by kernel_rfl) (fun _ _ _ h => h) (Or.inl ⟨by rfl, ?_⟩) (by assumption) ?_
          rotate_left
          · intro w hSw
            (try dsimp only at hSw)
            go_simp
            (try with_reducible rfl)
          try simp only [Act.put, List.setIfInBounds_toArray, List.set_cons_zero, List.set_cons_succ]
          refine wpAnyH_take (i := 20) (oi := { dst := some 51, op := Go.Op.load 3 (Go.Operand.tmp 50), type := 3, pos := "laws.go:867", after := #[{ on := 19, ground := Go.Ground.data }, { on := 14, ground := Go.Ground.guard }], guard := some (14, false) }) (v := ?_) rfl (by kernel_rfl) (by kernel_rfl) (by kernel_rfl) (fun _ _ _ h => h) (Or.inl ⟨by rfl, ?_⟩) (by assumption) ?_
          rotate_left
          · intro w hSw
            (try dsimp only at hSw)
            go_simp
            (try with_reducible rfl)
          try simp only [Act.put, List.setIfInBounds_toArray, List.set_cons_zero, List.set_cons_succ]
          refine ckAnyH_oneG (i := 18) (o := { dst := some 49, op := Go.Op.call { callee := Go.Callee.value (Go.Operand.func 8), args := #[Go.Operand.tmp 46, Go.Operand.tmp 48], argTypes := #[26, 3] }, type := 32, pos := "laws.go:867", after := #[{ on := 15, ground := Go.Ground.data }, { on := 17, ground := Go.Ground.data }, { on := 14, ground := Go.Ground.chain }, { on := 14, ground := Go.Ground.guard }], guard := some (14, false) }) rfl (by rfl) (by kernel_rfl) (fun K9 hK9 => ?_)
          refine wp_call_of (f := 8) (args := #[.agg #[.slice (some ⟨b, off, none⟩) n bcap, .int .i64 vals], .int .i64 (a : Int)]) (by go_simp) (impl_succs _ F (a : Int) _ (F4.out.later (Bel.after (Bel.after HB.out HBX.out) B6.out))) ?_
          rw [HSU.out]
          rintro e w7 ⟨sv, rfl, hq, b7⟩
          have HQ7 : Hid (IntsAt w7 sv (succsN F a)) := hq.at
          have B7 : Hid (Below w5.heap.size w5 w7) := Bel.after B6.out b7
          refine ⟨_, rfl, ?_⟩
          refine hK9 _ _ ⟨⟨Bel.keeps B7.out d0, Bel.keeps B7.out d1, Bel.keeps B7.out x0, Bel.keeps B7.out x1, Bel.keeps B7.out g0, Bel.keeps B7.out g1, Bel.keeps B7.out b0⟩, ?_⟩
          try simp only [Act.put, List.setIfInBounds_toArray, List.set_cons_zero, List.set_cons_succ]
          clear hK9 hq b7 hH6
          refine ckAnyH_oneG (i := 21) (o := { dst := some 52, op := Go.Op.call { callee := Go.Callee.value (Go.Operand.func 9), args := #[Go.Operand.tmp 49, Go.Operand.tmp 51], argTypes := #[32, 3] }, type := 4, pos := "laws.go:867", after := #[{ on := 18, ground := Go.Ground.data }, { on := 20, ground := Go.Ground.data }, { on := 18, ground := Go.Ground.chain }, { on := 14, ground := Go.Ground.guard }], guard := some (14, false) }) rfl (by rfl) (by kernel_rfl) (fun K9 hK9 => ?_)
          refine wp_call_of (f := 9) (args := #[sv, .int .i64 (s : Int)]) (by go_simp) (within_any sv (succsN F a) (s : Int) _ HQ7.out) ?_
          rw [decide_eq_true HIN.out]
          rintro e w8 ⟨rfl, h8⟩
          rw [h8]
          clear h8
          refine ⟨_, rfl, ?_⟩
          refine hK9 _ _ ⟨⟨Bel.keeps B7.out d0, Bel.keeps B7.out d1, Bel.keeps B7.out x0, Bel.keeps B7.out x1, Bel.keeps B7.out g0, Bel.keeps B7.out g1, Bel.keeps B7.out b0⟩, ?_⟩
          try simp only [Act.put, List.setIfInBounds_toArray, List.set_cons_zero, List.set_cons_succ]
          have hH7 : (fun w' => w'.cell? ⟨FB, 0, none⟩ = some (.slice (some ⟨b, off, none⟩) n bcap) ∧ w'.cell? ⟨FB, 1, none⟩ = some (.int .i64 vals) ∧ w'.cell? ⟨XB, 0, none⟩ = some (.int .i64 (a : Int)) ∧ w'.cell? ⟨XB, 1, none⟩ = some (.int .i64 (s : Int)) ∧ w'.cell? ⟨gb, goff + k * 2, none⟩ = some (.int .i64 (a : Int)) ∧ w'.cell? ⟨gb, goff + k * 2 + 1, none⟩ = some (.int .i64 (s : Int)) ∧ w'.cell? ⟨b, off + s * 6, none⟩ = some (.slice pa np pcap)) w7 := ⟨Bel.keeps B7.out d0, Bel.keeps B7.out d1, Bel.keeps B7.out x0, Bel.keeps B7.out x1, Bel.keeps B7.out g0, Bel.keeps B7.out g1, Bel.keeps B7.out b0⟩
          clear hK9
          refine wpAnyH_take (i := 22) (oi := { dst := some 53, op := Go.Op.unOp Go.UnOp.not 4 (Go.Operand.tmp 52), type := 4, pos := "laws.go:867", after := #[{ on := 21, ground := Go.Ground.data }, { on := 14, ground := Go.Ground.guard }], guard := some (14, false) }) (v := ?_) rfl (by kernel_rfl) (by kernel_rfl) (by kernel_rfl) (fun _ _ _ h => h) (Or.inl ⟨by rfl, ?_⟩) (by assumption) ?_
          rotate_left
          · intro w hSw
            (try dsimp only at hSw)
            go_simp
            (try with_reducible rfl)
          try simp only [Act.put, List.setIfInBounds_toArray, List.set_cons_zero, List.set_cons_succ]
          refine wpAnyH_take (i := 23) (oi := { dst := some 54, op := Go.Op.pick (Go.Operand.tmp 45) (Go.Operand.const (Go.Value.bool true)) (Go.Operand.tmp 53), type := 4, pos := "laws.go:867", after := #[{ on := 14, ground := Go.Ground.data }, { on := 22, ground := Go.Ground.data }], guard := none }) (v := ?_) rfl (by kernel_rfl) (by kernel_rfl) (by kernel_rfl) (fun _ _ _ h => h) (Or.inl ⟨by rfl, ?_⟩) (by assumption) ?_
          rotate_left
          · intro w hSw
            (try dsimp only at hSw)
            go_simp
            (try with_reducible rfl)
          try simp only [Act.put, List.setIfInBounds_toArray, List.set_cons_zero, List.set_cons_succ]
          refine wpAnyH_take (i := 24) (oi := { dst := some 55, op := Go.Op.move (Go.Operand.tmp 54), type := 4, pos := "laws.go:867", after := #[{ on := 23, ground := Go.Ground.data }, { on := 21, ground := Go.Ground.chain }], guard := none }) (v := ?_) rfl (by kernel_rfl) (by kernel_rfl) (by kernel_rfl) (fun _ _ _ h => h) (Or.inl ⟨by rfl, ?_⟩) (by assumption) ?_
          rotate_left
          · intro w hSw
            (try dsimp only at hSw)
            go_simp
            (try with_reducible rfl)
          try simp only [Act.put, List.setIfInBounds_toArray, List.set_cons_zero, List.set_cons_succ]
          refine wpAnyH_take (i := 25) (oi := { dst := some 56, op := Go.Op.load 26 (Go.Operand.tmp 3), type := 26, pos := "laws.go:867", after := #[{ on := 24, ground := Go.Ground.guard }], guard := some (24, false) }) (v := ?_) rfl (by kernel_rfl) (by kernel_rfl) (by kernel_rfl) (fun _ _ _ h => h) (Or.inl ⟨by rfl, ?_⟩) (by assumption) ?_
          rotate_left
          · intro w hSw
            (try dsimp only at hSw)
            go_simp
            (try with_reducible rfl)
          try simp only [Act.put, List.setIfInBounds_toArray, List.set_cons_zero, List.set_cons_succ]
          refine wpAnyH_take (i := 26) (oi := { dst := some 57, op := Go.Op.fieldAddr 31 (Go.Operand.tmp 7) 1, type := 0, pos := "laws.go:867", after := #[{ on := 24, ground := Go.Ground.guard }], guard := some (24, false) }) (v := ?_) rfl (by kernel_rfl) (by kernel_rfl) (by kernel_rfl) (fun _ _ _ h => h) (Or.inl ⟨by rfl, ?_⟩) (by assumption) ?_
          rotate_left
          · intro w hSw
            (try dsimp only at hSw)
            go_simp
            (try with_reducible rfl)
          try simp only [Act.put, List.setIfInBounds_toArray, List.set_cons_zero, List.set_cons_succ]
          refine wpAnyH_take (i := 27) (oi := { dst := some 58, op := Go.Op.load 3 (Go.Operand.tmp 57), type := 3, pos := "laws.go:867", after := #[{ on := 26, ground := Go.Ground.data }, { on := 24, ground := Go.Ground.guard }], guard := some (24, false) }) (v := ?_) rfl (by kernel_rfl) (by kernel_rfl) (by kernel_rfl) (fun _ _ _ h => h) (Or.inl ⟨by rfl, ?_⟩) (by assumption) ?_
          rotate_left
          · intro w hSw
            (try dsimp only at hSw)
            go_simp
            (try with_reducible rfl)
          try simp only [Act.put, List.setIfInBounds_toArray, List.set_cons_zero, List.set_cons_succ]
          refine ckAnyH_oneG (i := 28) (o := { dst := some 59, op := Go.Op.call { callee := Go.Callee.value (Go.Operand.func 10), args := #[Go.Operand.tmp 56, Go.Operand.tmp 58], argTypes := #[26, 3] }, type := 32, pos := "laws.go:867", after := #[{ on := 25, ground := Go.Ground.data }, { on := 27, ground := Go.Ground.data }, { on := 24, ground := Go.Ground.chain }, { on := 24, ground := Go.Ground.guard }], guard := some (24, false) }) rfl (by rfl) (by kernel_rfl) (fun K9 hK9 => ?_)
          refine wp_call_of (f := 10) (args := #[.agg #[.slice (some ⟨b, off, none⟩) n bcap, .int .i64 vals], .int .i64 (s : Int)]) (by go_simp) (impl_preds _ F (s : Int) _ (F4.out.later (Bel.after (Bel.after HB.out HBX.out) B7.out))) ?_
          rw [HPR.out]
          rintro e w9 ⟨pv, rfl, hq, b9⟩
          obtain ⟨qa, qcap, rfl, hql, _⟩ := hq.at
          rw [HPRL.out] at hql ⊢
          have B9 : Hid (Below w5.heap.size w5 w9) := Bel.after B7.out b9
          refine ⟨_, rfl, ?_⟩
          refine hK9 _ _ ⟨⟨Bel.keeps B9.out d0, Bel.keeps B9.out d1, Bel.keeps B9.out x0, Bel.keeps B9.out x1, Bel.keeps B9.out g0, Bel.keeps B9.out g1, Bel.keeps B9.out b0⟩, ?_⟩
          try simp only [Act.put, List.setIfInBounds_toArray, List.set_cons_zero, List.set_cons_succ]
          have hH9 : (fun w' => w'.cell? ⟨FB, 0, none⟩ = some (.slice (some ⟨b, off, none⟩) n bcap) ∧ w'.cell? ⟨FB, 1, none⟩ = some (.int .i64 vals) ∧ w'.cell? ⟨XB, 0, none⟩ = some (.int .i64 (a : Int)) ∧ w'.cell? ⟨XB, 1, none⟩ = some (.int .i64 (s : Int)) ∧ w'.cell? ⟨gb, goff + k * 2, none⟩ = some (.int .i64 (a : Int)) ∧ w'.cell? ⟨gb, goff + k * 2 + 1, none⟩ = some (.int .i64 (s : Int)) ∧ w'.cell? ⟨b, off + s * 6, none⟩ = some (.slice pa np pcap)) w9 := ⟨Bel.keeps B9.out d0, Bel.keeps B9.out d1, Bel.keeps B9.out x0, Bel.keeps B9.out x1, Bel.keeps B9.out g0, Bel.keeps B9.out g1, Bel.keeps B9.out b0⟩
          clear hK9 hq b9 hH7
          refine wpAnyH_take (i := 29) (oi := { dst := some 60, op := Go.Op.call { callee := Go.Callee.builtin Go.Builtin.len, args := #[Go.Operand.tmp 59], argTypes := #[32] }, type := 3, pos := "laws.go:867", after := #[{ on := 28, ground := Go.Ground.data }, { on := 24, ground := Go.Ground.guard }], guard := some (24, false) }) (v := ?_) rfl (by kernel_rfl) (by kernel_rfl) (by kernel_rfl) (fun _ _ _ h => h) (Or.inl ⟨by rfl, ?_⟩) (by assumption) ?_
          rotate_left
          · intro w hSw
            (try dsimp only at hSw)
            go_simp
            (try with_reducible rfl)
          try simp only [Act.put, List.setIfInBounds_toArray, List.set_cons_zero, List.set_cons_succ]
          refine wpAnyH_take (i := 30) (oi := { dst := some 61, op := Go.Op.binOp Go.BinOp.lss 3 (Go.Operand.tmp 60) (Go.Operand.const (Go.Value.int Go.IntKind.i64 2)) 3, type := 4, pos := "laws.go:867", after := #[{ on := 29, ground := Go.Ground.data }, { on := 24, ground := Go.Ground.guard }], guard := some (24, false) }) (v := ?_) rfl (by kernel_rfl) (by kernel_rfl) (by kernel_rfl) (fun _ _ _ h => h) (Or.inl ⟨by rfl, ?_⟩) (by assumption) ?_
          rotate_left
          · intro w hSw
            (try dsimp only at hSw)
            go_simp
            (try with_reducible rfl)
          try simp only [Act.put, List.setIfInBounds_toArray, List.set_cons_zero, List.set_cons_succ]
          refine wpAnyH_take (i := 31) (oi := { dst := some 62, op := Go.Op.move (Go.Operand.tmp 61), type := 4, pos := "laws.go:867", after := #[{ on := 30, ground := Go.Ground.data }, { on := 28, ground := Go.Ground.chain }, { on := 24, ground := Go.Ground.guard }], guard := some (24, false) }) (v := ?_) rfl (by kernel_rfl) (by kernel_rfl) (by kernel_rfl) (fun _ _ _ h => h) (Or.inl ⟨by rfl, ?_⟩) (by assumption) ?_
          rotate_left
          · intro w hSw
            (try dsimp only at hSw)
            go_simp
            (try with_reducible rfl)
          try simp only [Act.put, List.setIfInBounds_toArray, List.set_cons_zero, List.set_cons_succ]
          refine wpAnyH_take (i := 32) (oi := { dst := some 63, op := Go.Op.fieldAddr 26 (Go.Operand.tmp 3) 0, type := 0, pos := "laws.go:867", after := #[{ on := 31, ground := Go.Ground.guard }], guard := some (31, true) }) (v := undef) rfl (by kernel_rfl) (by kernel_rfl) (by kernel_rfl) (fun _ _ _ h => h) (Or.inr ⟨by rfl, rfl⟩) (by assumption) ?_
          try simp only [Act.put, List.setIfInBounds_toArray, List.set_cons_zero, List.set_cons_succ]
          refine wpAnyH_take (i := 33) (oi := { dst := some 64, op := Go.Op.load 24 (Go.Operand.tmp 63), type := 24, pos := "laws.go:867", after := #[{ on := 32, ground := Go.Ground.data }, { on := 31, ground := Go.Ground.guard }], guard := some (31, true) }) (v := undef) rfl (by kernel_rfl) (by kernel_rfl) (by kernel_rfl) (fun _ _ _ h => h) (Or.inr ⟨by rfl, rfl⟩) (by assumption) ?_
          try simp only [Act.put, List.setIfInBounds_toArray, List.set_cons_zero, List.set_cons_succ]
          refine wpAnyH_take (i := 34) (oi := { dst := some 65, op := Go.Op.fieldAddr 31 (Go.Operand.tmp 7) 1, type := 0, pos := "laws.go:867", after := #[{ on := 31, ground := Go.Ground.guard }], guard := some (31, true) }) (v := undef) rfl (by kernel_rfl) (by kernel_rfl) (by kernel_rfl) (fun _ _ _ h => h) (Or.inr ⟨by rfl, rfl⟩) (by assumption) ?_
          try simp only [Act.put, List.setIfInBounds_toArray, List.set_cons_zero, List.set_cons_succ]
          refine wpAnyH_take (i := 35) (oi := { dst := some 66, op := Go.Op.load 3 (Go.Operand.tmp 65), type := 3, pos := "laws.go:867", after := #[{ on := 34, ground := Go.Ground.data }, { on := 31, ground := Go.Ground.guard }], guard := some (31, true) }) (v := undef) rfl (by kernel_rfl) (by kernel_rfl) (by kernel_rfl) (fun _ _ _ h => h) (Or.inr ⟨by rfl, rfl⟩) (by assumption) ?_
          try simp only [Act.put, List.setIfInBounds_toArray, List.set_cons_zero, List.set_cons_succ]
          refine wpAnyH_take (i := 36) (oi := { dst := some 67, op := Go.Op.indexAddr 24 (Go.Operand.tmp 64) (Go.Operand.tmp 66), type := 0, pos := "laws.go:867", after := #[{ on := 33, ground := Go.Ground.data }, { on := 35, ground := Go.Ground.data }, { on := 31, ground := Go.Ground.guard }], guard := some (31, true) }) (v := undef) rfl (by kernel_rfl) (by kernel_rfl) (by kernel_rfl) (fun _ _ _ h => h) (Or.inr ⟨by rfl, rfl⟩) (by assumption) ?_
          try simp only [Act.put, List.setIfInBounds_toArray, List.set_cons_zero, List.set_cons_succ]
          refine wpAnyH_take (i := 37) (oi := { dst := some 68, op := Go.Op.fieldAddr 40 (Go.Operand.tmp 67) 0, type := 0, pos := "laws.go:867", after := #[{ on := 36, ground := Go.Ground.data }, { on := 31, ground := Go.Ground.guard }], guard := some (31, true) }) (v := undef) rfl (by kernel_rfl) (by kernel_rfl) (by kernel_rfl) (fun _ _ _ h => h) (Or.inr ⟨by rfl, rfl⟩) (by assumption) ?_
          try simp only [Act.put, List.setIfInBounds_toArray, List.set_cons_zero, List.set_cons_succ]
          refine wpAnyH_take (i := 38) (oi := { dst := some 69, op := Go.Op.load 35 (Go.Operand.tmp 68), type := 35, pos := "laws.go:867", after := #[{ on := 37, ground := Go.Ground.data }, { on := 31, ground := Go.Ground.guard }], guard := some (31, true) }) (v := undef) rfl (by kernel_rfl) (by kernel_rfl) (by kernel_rfl) (fun _ _ _ h => h) (Or.inr ⟨by rfl, rfl⟩) (by assumption) ?_
          try simp only [Act.put, List.setIfInBounds_toArray, List.set_cons_zero, List.set_cons_succ]
          refine wpAnyH_take (i := 39) (oi := { dst := some 70, op := Go.Op.call { callee := Go.Callee.builtin Go.Builtin.len, args := #[Go.Operand.tmp 69], argTypes := #[35] }, type := 3, pos := "laws.go:867", after := #[{ on := 38, ground := Go.Ground.data }, { on := 31, ground := Go.Ground.guard }], guard := some (31, true) }) (v := undef) rfl (by kernel_rfl) (by kernel_rfl) (by kernel_rfl) (fun _ _ _ h => h) (Or.inr ⟨by rfl, rfl⟩) (by assumption) ?_
          try simp only [Act.put, List.setIfInBounds_toArray, List.set_cons_zero, List.set_cons_succ]
          refine wpAnyH_take (i := 40) (oi := { dst := some 71, op := Go.Op.binOp Go.BinOp.eql 3 (Go.Operand.tmp 70) (Go.Operand.const (Go.Value.int Go.IntKind.i64 0)) 3, type := 4, pos := "laws.go:867", after := #[{ on := 39, ground := Go.Ground.data }, { on := 31, ground := Go.Ground.guard }], guard := some (31, true) }) (v := undef) rfl (by kernel_rfl) (by kernel_rfl) (by kernel_rfl) (fun _ _ _ h => h) (Or.inr ⟨by rfl, rfl⟩) (by assumption) ?_
          try simp only [Act.put, List.setIfInBounds_toArray, List.set_cons_zero, List.set_cons_succ]
          refine wpAnyH_take (i := 41) (oi := { dst := some 72, op := Go.Op.pick (Go.Operand.tmp 62) (Go.Operand.tmp 71) (Go.Operand.const (Go.Value.bool false)), type := 4, pos := "laws.go:867", after := #[{ on := 31, ground := Go.Ground.data }, { on := 40, ground := Go.Ground.data }, { on := 24, ground := Go.Ground.guard }], guard := some (24, false) }) (v := ?_) rfl (by kernel_rfl) (by kernel_rfl) (by kernel_rfl) (fun _ _ _ h => h) (Or.inl ⟨by rfl, ?_⟩) (by assumption) ?_
          rotate_left
          · intro w hSw
            (try dsimp only at hSw)
            go_simp
            (try with_reducible rfl)
          try simp only [Act.put, List.setIfInBounds_toArray, List.set_cons_zero, List.set_cons_succ]
          refine wpAnyH_take (i := 42) (oi := { dst := some 73, op := Go.Op.pick (Go.Operand.tmp 55) (Go.Operand.const (Go.Value.bool true)) (Go.Operand.tmp 72), type := 4, pos := "laws.go:867", after := #[{ on := 24, ground := Go.Ground.data }, { on := 41, ground := Go.Ground.data }], guard := none }) (v := ?_) rfl (by kernel_rfl) (by kernel_rfl) (by kernel_rfl) (fun _ _ _ h => h) (Or.inl ⟨by rfl, ?_⟩) (by assumption) ?_
          rotate_left
          · intro w hSw
            (try dsimp only at hSw)
            go_simp
            (try with_reducible rfl)
          try simp only [Act.put, List.setIfInBounds_toArray, List.set_cons_zero, List.set_cons_succ]
          refine wpAnyH_done (by kernel_rfl) ?_ _
          clear hH9
          simp only [Exit.then]
          go_at_K
          go_wp2_with fail
          go_roundw
          case rel => exact ⟨k + 1, by omega, by go_num, Bel.after (Bel.after HB.out HBX.out) B9.out⟩
          case measure => simp [intOf]; omega
      · have d0 := Bel.keeps HB.out C0.out
        have d1 := Bel.keeps HB.out C1.out
        go_wp2_with fail
        refine (spec_shapeOk _ F _ (F4.out.later HB.out)).mono ?_
        rintro e w5 ⟨t, rfl, ht, b5⟩
        have HT : Hid (t = true ↔ FnShape F) := ht
        have B5 : Hid (Below w1.heap.size w1 w5) := Bel.after (Bel.after B4.out HB.out) b5
        clear ht b5 d0 d1
        cases t with
        | true =>
          go_wp2_with fail
          go_ret
          exact ⟨rfl, B5.out⟩
        | false =>
          have hl0 : ln = 0 := by
            rw [← HLN.out, ← HL.out, critOf_no (fun h => by have := HT.out.2 h; cases this)]
            rfl
          subst hl0
          go_wp2_with fail
          go_ret
          exact ⟨rfl, B5.out⟩

set_option maxRecDepth 100000 in
theorem lifted (os : Os) (started : os.Started) (H : Type) (enc : TypeId × Value → H) :
    ReturnsInHanded {} Try.checked os 3 .any (Rows.fnCriticalSpec.pre6 enc Try.prog Try.f3 Rows.fnCriticalRow.domain false) (Rows.fnCriticalSpec.post enc Try.prog Try.f3 false true false false) := by
  refine returnsInHanded_of_change (C := Try.checked) own started (by kernel_rfl) Try.func3
    (ChangeSpec.witness6 (enc := enc) (C := Try.checked) false ⟨#[], #[.slice none 0 0], []⟩ 8 (by kernel_rfl) (by kernel_rfl) (by kernel_rfl) (by kernel_rfl)) ?_
  intro W base args ds gs before hval0 hW hcnd _
  have hval : ∀ (j : Nat) t v, Try.f3.params[j]? = some t → args[j]? = some v → Value.okWide Try.prog W .any base t v := hval0
  have hW' := hW
  obtain ⟨p, q, hA0, hV, rfl, hfz, hnd⟩ := hW
  have hA : DataW.TrodAll enc Try.prog W 0 (fun _ => true) true Try.f3.params.toList args.toList ds p := hA0
  rw [Try.params3] at hA hval
  obtain ⟨v0, vs0, d0, ds0, p0, q0, hargs, rfl, rfl, h0, r0x⟩ := trodAll_cons hA
  obtain ⟨rfl, rfl, rfl⟩ := trodAll_nil r0x
  obtain rfl : args = #[v0] := by cases args; simp_all
  obtain ⟨rfl, rfl⟩ := trodVars_none hV
  have k0 := h0
  have lt0 : ∀ x ∈ p0, x.block < W.heap.size := by obtain ⟨m, hm⟩ := k0; exact DataW.trod_lt m _ _ _ hm
  obtain ⟨a0, len0, cap0, rfl⟩ := okWide_slice Try.underlying22 (hval 0 22 v0 rfl rfl)
  obtain ⟨z0, r0⟩ : ∃ zs, IsRow .u8 W a0 len0 cap0 zs := by
    obtain ⟨fuel, hf⟩ := h0
    rcases open_ints Try.underlying22 Try.underlying5 (by kernel_rfl) hf with ⟨hcs, _⟩ | ⟨x, l, c, zs, hcs, _, hl, hm, hz, _, hcell, hwz⟩
    · simp [Value.cells] at hcs
      obtain ⟨rfl, rfl, rfl⟩ := hcs
      exact ⟨[], .inl ⟨rfl, rfl, rfl, rfl⟩⟩
    · simp [Value.cells] at hcs
      obtain ⟨rfl, rfl, rfl⟩ := hcs
      exact ⟨zs, .inr ⟨_, rfl, hl, hm, by simpa using hz, hcell, hwz⟩⟩
  clear hA0 hval0
  refine (walk W a0 len0 cap0 z0 r0).mono fun e W' ⟨he, bel⟩ => ?_
  subst he
  exact ⟨_, rfl, _, _, _, [], _, [], hW', trodAll_mk1 (shut_bool Try.underlying4 _), (trodAll_cons_mk (Below.trod laidOut (by kernel_rfl) (of_decide_eq_true (by kernel_rfl)) k0 bel lt0) trodAll_mk0), rfl, bel.frame _, fun h => by cases h⟩

theorem over : Rows.fnCriticalRow.holds Try.pinned (OpenSpec.ofChange Rows.fnCriticalSpec) :=
  OpenClaim.holds_of_wide 3 Try.f3 rfl rfl rfl rfl rfl rfl rfl ⟨rfl, rfl, rfl, rfl, rfl⟩ rfl rfl rfl rfl rfl (by kernel_rfl) Try.func3 (by kernel_rfl)
    (of_decide_eq_true (by kernel_rfl)) (by unfold Func.isWrapper; first | (rw [if_pos (by decide +kernel)]; kernel_rfl) | (rw [if_neg (by decide +kernel)]; exact ⟨rfl, rfl⟩))
    (fun os started H enc _ => lifted os started H enc)

/-- The statement. -/
theorem proved : Rows.FnCriticalSaid := over
#print axioms proved
end Go.Proofs.Ytfnilamkapabkaa.fnCritical
