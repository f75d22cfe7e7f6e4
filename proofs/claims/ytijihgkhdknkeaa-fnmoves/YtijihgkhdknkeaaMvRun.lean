/- MovesDo and MovesEach, of both sides. -/
import Derived.Test.YtijihgkhdknkeaaMvOk
import Derived.Test.YtijihgkhdknkeaaCks
namespace Go.Proofs.Ytijihgkhdknkeaa
open Go.ChangeShapes Go.WideShapes Go.ChangeAt Go.RowKit
set_option linter.unusedVariables false

section
variable {P : Program} {ops : Array Oper} {Q : Exit → Act → World → Prop} {md : Region.Mode} {S : World → Prop} {m : Nat}
theorem cmAnyM_oneK {i : Nat} {o : Oper} {fuel : Nat} {li : Array Bool} {a : Act} {w : World} (ho : ops[i]? = some o) (hg : o.guard = none) (hr : Region.ready md ops li = [i])
    (h : ∀ K : Act → World → Prop, (∀ a' w', ((i ≠ m → S w') ∧ wpAnyM P md ops Q m S fuel (li.setIfInBounds i true) a' w') → K a' w') → o.wp P a w K Q) : wpAnyM P md ops Q m S (fuel + 1) li a w :=
  wpAnyM_one ho hg hr (h _ (fun _ _ h => h))
end
/-- An append whose outcome is known. -/
theorem wpList_append_eq {P : Program} (w : World) {ops : Array Oper} {rest : List Oper} {o : Oper} {a : Act} {Q : Exit → Act → World → Prop} (hgd : o.guard = none) (s x : Operand) (t t2 : TypeId)
    (ho : o.op = .call { callee := .builtin .append, args := #[s, x], argTypes := #[t, t2] }) (va vb v' : Value) (w' : World) (hs : a.eval s = va) (hx : a.eval x = vb)
    (hrun : (Builtin.append_ #[t, t2] o.type #[va, vb]).run P w = .ok v' w') (hK : wpList P ops Q rest (a.put o.dst v') w') : wpList P ops Q (o :: rest) a w := by
  refine wpList_plain hgd fun K' hK' => ?_
  unfold Oper.wp
  simp [execOp, ho, resolve, invoke, builtin, hs, hx, hrun, Result.andThen]
  exact hK' _ _ hK

/-- A list of numbers is copied: append([]int{}, l...). -/
theorem copied {w : World} {va : Option Addr} {n vcap : Nat} {vals : List Int} (h : IntsAt w (.slice va n vcap) vals) (hn : vals.length = n) (hs : n ≤ 2000000) :
    ∃ v1 w1, (∀ ty, (Builtin.append_ #[25, 25] ty #[.slice (some ⟨w.heap.size, 0, none⟩) 0 0, .slice va n vcap]).run Try.prog (w.alloc (.cells #[] 3)) = .ok v1 w1) ∧ OwnInts w1 w.heap.size v1 vals ∧ Below w.heap.size w w1 ∧ ∃ g gcap, v1 = .slice (some ⟨g, 0, none⟩) n gcap := by
  obtain ⟨v1, w1, hrun, ho1, hb1, hnn⟩ := add_ints w.heap.size w.heap.size _ vals (w.alloc (.cells #[] 3)) (World.alloc_heap_new w _) (Nat.le_refl _) (h.keep (Bel.alloc _ _)) (by omega) 25
  refine ⟨v1, w1, fun ty => hrun, ho1, (Bel.alloc w _).trans hb1, ?_⟩
  rcases ho1.2 with ⟨h0, _⟩ | ⟨g, cap, cur, h0, _⟩
  · exact absurd h0 hnn
  · exact ⟨g, cap, by rw [h0, hn]⟩

set_option maxHeartbeats 4000000 in
theorem impl_movesDo (v : Value) (l : List ArmD) (vv : Value) (vals : List Int) (w : World) (ha : MovesAt w v l) (hv : IntsAt w vv vals) (hn : vals.length ≤ 1048577) :
    Calls Try.prog 16 #[v, vv] w fun e w' => GivesOwn w (movesDo l vals) e w' := by
  have HA : Hid (MovesAt w v l) := ha
  have HV : Hid (IntsAt w vv vals) := hv
  obtain ⟨a, cap, rfl, hm, hc⟩ := ha
  obtain ⟨va, vcap, rfl, hvm, hvc⟩ := hv
  obtain ⟨m, HM⟩ : ∃ m, Hid (l.length = m) := ⟨_, rfl⟩
  obtain ⟨n, HN⟩ : ∃ m, Hid (vals.length = m) := ⟨_, rfl⟩
  rw [HM.out] at hm hc HA ⊢
  rw [HN.out] at hvm hvc HV hn ⊢
  have HC : Hid (0 < m → ∃ b off, a = some ⟨b, off, none⟩ ∧ 0 ≤ b ∧ ∀ i x, l[i]? = some x → ArmAt w b (off + i * 2) x) := hc
  have HVC : Hid (0 < n → ∃ b off, va = some ⟨b, off, none⟩ ∧ ∀ i, i < n → w.cell? ⟨b, off + i, none⟩ = some (.int .i64 (vals.getD i 0))) := hvc
  clear hc hvc
  obtain ⟨R, HR⟩ : ∃ R, Hid (movesOk l (n : Int) = R) := ⟨_, rfl⟩
  obtain ⟨L, HL⟩ : ∃ L, Hid (movesDo l vals = L) := ⟨_, rfl⟩
  rw [HL.out]
  have hap : ∃ v1 w1, (∀ ty, (Builtin.append_ #[25, 25] ty #[.slice (some ⟨w.heap.size, 0, none⟩) 0 0, .slice va n vcap]).run Try.prog (w.alloc (.cells #[] 3)) = .ok v1 w1) ∧ OwnInts w1 w.heap.size v1 vals ∧ Below w.heap.size w w1 ∧ ∃ g gcap, v1 = .slice (some ⟨g, 0, none⟩) n gcap := copied HV.out HN.out (by omega)
  obtain ⟨v1, w1, hrun, ho1, hb1, g, gcap, rfl⟩ := hap
  have HRUN : Hid (∀ ty, (Builtin.append_ #[25, 25] ty #[.slice (some ⟨w.heap.size, 0, none⟩) 0 0, .slice va n vcap]).run Try.prog (w.alloc (.cells #[] 3)) = .ok (.slice (some ⟨g, 0, none⟩) n gcap) w1) := hrun
  have HO1 : Hid (OwnInts w1 w.heap.size (.slice (some ⟨g, 0, none⟩) n gcap) vals) := ho1
  have HB1 : Hid (Below w.heap.size w w1) := hb1
  clear ho1 hb1 hrun
  go_enter Try.func16, Try.ntmps16
  go_wp2_with (at_builtin; refine wpList_append_eq _ rfl _ _ 25 25 rfl _ _ _ _ rfl rfl (HRUN.out _) ?_)
  refine (impl_movesOk _ l (n : Int) _ (HA.out.keep HB1.out)).mono ?_
  rw [HR.out]
  rintro e w2 ⟨rfl, b2⟩
  have HO2 : Hid (OwnInts w2 w.heap.size (.slice (some ⟨g, 0, none⟩) n gcap) vals) := HO1.out.keep b2
  have HB2 : Hid (Below w.heap.size w w2) := Bel.after HB1.out b2
  clear b2
  cases R with
  | false =>
    obtain rfl : vals = L := by rw [← HL.out]; unfold movesDo; rw [HN.out, HR.out]; rfl
    go_wp2_with fail
    go_ret
    exact ⟨_, rfl, HO2.out, HB2.out⟩
  | true =>
    have HE : Hid (mvDo l vals = L) := by show _ = _; rw [← HL.out]; unfold movesDo; rw [HN.out, HR.out]; rfl
    have HIN : Hid (∀ x ∈ l, mvIn x n = true) := (movesOk_fine HR.out).1
    go_wp2_with fail
    go_loopw [19] (fun i wr => ∃ k : Nat, k ≤ m ∧ i = .int .i64 k ∧ OwnInts wr w.heap.size (.slice (some ⟨g, 0, none⟩) n gcap) (mvDo (l.take k) vals) ∧ Below w.heap.size w wr) (fun i _ => m - (intOf i).toNat)
    case atStart => exact ⟨0, Nat.zero_le _, rfl, HO2.out, HB2.out⟩
    case round =>
      obtain ⟨k, hk, rfl, ho, hB⟩ := hrel
      have HO : Hid (OwnInts wr w.heap.size (.slice (some ⟨g, 0, none⟩) n gcap) (mvDo (l.take k) vals)) := ho
      have HB : Hid (Below w.heap.size w wr) := hB
      by_cases hlt : (k : Int) < (m : Int)
      · obtain ⟨b, off, rfl, _, hc1⟩ := HC.out (by omega)
        have hkl : k < l.length := by have := HM.out; omega
        obtain ⟨x, HX⟩ : ∃ x, Hid (l[k]? = some x) := ⟨l[k], List.getElem?_eq_getElem hkl⟩
        obtain ⟨c0, c1⟩ := (hc1 k x HX.out).keep (Keeps.of_below HB.out 0) (Nat.zero_le _)
        have hsz := HB.out.size
        clear hc1 hkl
        obtain ⟨d, s⟩ := x
        dsimp only at c0 c1
        obtain ⟨i1, i2, i3, i4⟩ := mvIn_iff.1 (HIN.out _ (List.mem_of_getElem? HX.out))
        dsimp only at i1 i2 i3 i4
        obtain ⟨dn, rfl⟩ := Int.eq_ofNat_of_zero_le i1
        obtain ⟨sn, rfl⟩ := Int.eq_ofNat_of_zero_le i3
        obtain ⟨vb, voff, rfl, hv1⟩ := HVC.out (by omega)
        have q0 := Bel.keeps hB (hv1 sn (by omega))
        have q1 := ho.cellAt (i := dn) (by omega)
        have fz := frozen_of_cells ho.heapOf dn
        obtain ⟨hgl, hgl2⟩ : w.heap.size ≤ g ∧ g < wr.heap.size := ho.lt g rfl
        have hvb : vb < wr.heap.size := World.block_lt_of_cell? wr _ q0
        clear ho hB hv1
        obtain ⟨y, HY⟩ : ∃ y, Hid (vals.getD ((sn : Int).toNat) 0 = y) := ⟨_, rfl⟩
        have hy : vals.getD sn 0 = y := by have := HY.out; simpa using this
        rw [hy] at q0
        clear hy
        go_wp2_with fail
        obtain ⟨w3, hw3⟩ : ∃ W, wr.alloc (.cells #[.int .i64 (dn : Int), .int .i64 (sn : Int)] 44) = W := ⟨_, rfl⟩
        have x0 : w3.cell? ⟨wr.heap.size, 0, none⟩ = some (.int .i64 (dn : Int)) := by rw [← hw3]; simp [go_sem]
        have x1 : w3.cell? ⟨wr.heap.size, 1, none⟩ = some (.int .i64 (sn : Int)) := by rw [← hw3]; simp [go_sem]
        have B3 : Below wr.heap.size wr w3 := by rw [← hw3]; exact Bel.alloc _ _
        rw [hw3]
        clear hw3
        have p0 := Bel.keeps B3 q0
        have HO3 : Hid (OwnInts w3 w.heap.size (.slice (some ⟨g, 0, none⟩) n gcap) (mvDo (l.take k) vals)) := HO.out.keep B3
        have HB3 : Hid (Below w.heap.size w w3) := Bel.after HB.out B3
        have p1 := Bel.keeps B3 q1
        have pz := frozen_of_cells HO3.out.heapOf dn
        clear q0 q1 fz B3 c0 c1
        generalize wr.heap.size = X at *
        refine wp_noThrow (region_M 9 (fun w' => w'.cell? ⟨X, 0, none⟩ = some (.int .i64 (dn : Int)) ∧ w'.cell? ⟨X, 1, none⟩ = some (.int .i64 (sn : Int)) ∧ w'.cell? ⟨vb, voff + sn, none⟩ = some (.int .i64 y)) (by kernel_rfl) ?_)
        have hHeld : w3.drew.cell? ⟨X, 0, none⟩ = some (.int .i64 (dn : Int)) ∧ w3.drew.cell? ⟨X, 1, none⟩ = some (.int .i64 (sn : Int)) ∧ w3.drew.cell? ⟨vb, voff + sn, none⟩ = some (.int .i64 y) := ⟨x0, x1, p0⟩
        refine wpAnyM_take (i := 0) (oi := { dst := some 23, op := Go.Op.move (Go.Operand.tmp 5), type := 25, pos := "l09_move.go:33", after := #[], guard := none }) (v := ?_) rfl (by kernel_rfl) (by kernel_rfl) (by kernel_rfl) (by kernel_rfl) (fun _ _ _ h => h) (Or.inl ⟨by rfl, ?_⟩) (by assumption) ?_
        rotate_left
        · intro w hSw
          (try dsimp only at hSw)
          go_simp
          (try with_reducible rfl)
        try simp only [Act.put, List.setIfInBounds_toArray, List.set_cons_zero, List.set_cons_succ]
        refine wpAnyM_take (i := 1) (oi := { dst := some 24, op := Go.Op.fieldAddr 44 (Go.Operand.tmp 7) 0, type := 0, pos := "l09_move.go:33", after := #[], guard := none }) (v := ?_) rfl (by kernel_rfl) (by kernel_rfl) (by kernel_rfl) (by kernel_rfl) (fun _ _ _ h => h) (Or.inl ⟨by rfl, ?_⟩) (by assumption) ?_
        rotate_left
        · intro w hSw
          (try dsimp only at hSw)
          go_simp
          (try with_reducible rfl)
        try simp only [Act.put, List.setIfInBounds_toArray, List.set_cons_zero, List.set_cons_succ]
        refine wpAnyM_take (i := 2) (oi := { dst := some 25, op := Go.Op.load 3 (Go.Operand.tmp 24), type := 3, pos := "l09_move.go:33", after := #[{ on := 1, ground := Go.Ground.data }], guard := none }) (v := ?_) rfl (by kernel_rfl) (by kernel_rfl) (by kernel_rfl) (by kernel_rfl) (fun _ _ _ h => h) (Or.inl ⟨by rfl, ?_⟩) (by assumption) ?_
        rotate_left
        · intro w hSw
          (try dsimp only at hSw)
          go_simp
          (try with_reducible rfl)
        try simp only [Act.put, List.setIfInBounds_toArray, List.set_cons_zero, List.set_cons_succ]
        refine wpAnyM_take (i := 3) (oi := { dst := some 26, op := Go.Op.move (Go.Operand.tmp 1), type := 25, pos := "l09_move.go:33", after := #[], guard := none }) (v := ?_) rfl (by kernel_rfl) (by kernel_rfl) (by kernel_rfl) (by kernel_rfl) (fun _ _ _ h => h) (Or.inl ⟨by rfl, ?_⟩) (by assumption) ?_
        rotate_left
        · intro w hSw
          (try dsimp only at hSw)
          go_simp
          (try with_reducible rfl)
        try simp only [Act.put, List.setIfInBounds_toArray, List.set_cons_zero, List.set_cons_succ]
        refine wpAnyM_take (i := 4) (oi := { dst := some 27, op := Go.Op.fieldAddr 44 (Go.Operand.tmp 7) 1, type := 0, pos := "l09_move.go:33", after := #[], guard := none }) (v := ?_) rfl (by kernel_rfl) (by kernel_rfl) (by kernel_rfl) (by kernel_rfl) (fun _ _ _ h => h) (Or.inl ⟨by rfl, ?_⟩) (by assumption) ?_
        rotate_left
        · intro w hSw
          (try dsimp only at hSw)
          go_simp
          (try with_reducible rfl)
        try simp only [Act.put, List.setIfInBounds_toArray, List.set_cons_zero, List.set_cons_succ]
        refine wpAnyM_take (i := 5) (oi := { dst := some 28, op := Go.Op.load 3 (Go.Operand.tmp 27), type := 3, pos := "l09_move.go:33", after := #[{ on := 4, ground := Go.Ground.data }], guard := none }) (v := ?_) rfl (by kernel_rfl) (by kernel_rfl) (by kernel_rfl) (by kernel_rfl) (fun _ _ _ h => h) (Or.inl ⟨by rfl, ?_⟩) (by assumption) ?_
        rotate_left
        · intro w hSw
          (try dsimp only at hSw)
          go_simp
          (try with_reducible rfl)
        try simp only [Act.put, List.setIfInBounds_toArray, List.set_cons_zero, List.set_cons_succ]
        refine wpAnyM_take (i := 6) (oi := { dst := some 29, op := Go.Op.indexAddr 25 (Go.Operand.tmp 26) (Go.Operand.tmp 28), type := 0, pos := "l09_move.go:33", after := #[{ on := 3, ground := Go.Ground.data }, { on := 5, ground := Go.Ground.data }], guard := none }) (v := ?_) rfl (by kernel_rfl) (by kernel_rfl) (by kernel_rfl) (by kernel_rfl) (fun _ _ _ h => h) (Or.inl ⟨by rfl, ?_⟩) (by assumption) ?_
        rotate_left
        · intro w hSw
          (try dsimp only at hSw)
          go_simp
          (try with_reducible rfl)
        try simp only [Act.put, List.setIfInBounds_toArray, List.set_cons_zero, List.set_cons_succ]
        refine wpAnyM_take (i := 7) (oi := { dst := some 30, op := Go.Op.load 3 (Go.Operand.tmp 29), type := 3, pos := "l09_move.go:33", after := #[{ on := 6, ground := Go.Ground.data }], guard := none }) (v := ?_) rfl (by kernel_rfl) (by kernel_rfl) (by kernel_rfl) (by kernel_rfl) (fun _ _ _ h => h) (Or.inl ⟨by rfl, ?_⟩) (by assumption) ?_
        rotate_left
        · intro w hSw
          (try dsimp only at hSw)
          go_simp
          (try with_reducible rfl)
        try simp only [Act.put, List.setIfInBounds_toArray, List.set_cons_zero, List.set_cons_succ]
        refine wpAnyM_take (i := 8) (oi := { dst := some 31, op := Go.Op.indexAddr 25 (Go.Operand.tmp 23) (Go.Operand.tmp 25), type := 0, pos := "l09_move.go:33", after := #[{ on := 0, ground := Go.Ground.data }, { on := 2, ground := Go.Ground.data }, { on := 0, ground := Go.Ground.phase }, { on := 1, ground := Go.Ground.phase }, { on := 2, ground := Go.Ground.phase }, { on := 3, ground := Go.Ground.phase }, { on := 4, ground := Go.Ground.phase }, { on := 5, ground := Go.Ground.phase }, { on := 6, ground := Go.Ground.phase }, { on := 7, ground := Go.Ground.phase }], guard := none }) (v := ?_) rfl (by kernel_rfl) (by kernel_rfl) (by kernel_rfl) (by kernel_rfl) (fun _ _ _ h => h) (Or.inl ⟨by rfl, ?_⟩) (by assumption) ?_
        rotate_left
        · intro w hSw
          (try dsimp only at hSw)
          go_simp
          (try with_reducible rfl)
        try simp only [Act.put, List.setIfInBounds_toArray, List.set_cons_zero, List.set_cons_succ]
        refine cmAnyM_oneK (i := 9) (o := { dst := none, op := Go.Op.store 3 (Go.Operand.tmp 31) (Go.Operand.tmp 30), type := 0, pos := "l09_move.go:33", after := #[{ on := 8, ground := Go.Ground.data }, { on := 7, ground := Go.Ground.data }, { on := 0, ground := Go.Ground.phase }, { on := 1, ground := Go.Ground.phase }, { on := 2, ground := Go.Ground.phase }, { on := 3, ground := Go.Ground.phase }, { on := 4, ground := Go.Ground.phase }, { on := 5, ground := Go.Ground.phase }, { on := 6, ground := Go.Ground.phase }, { on := 7, ground := Go.Ground.phase }], guard := none }) rfl rfl (by kernel_rfl) (fun K9 hK9 => ?_)
        have pz' : w3.drew.frozen? ⟨g, dn, none⟩ = false := pz
        have p1' : w3.drew.cell? ⟨g, dn, none⟩ = some (.int .i64 ((mvDo (l.take k) vals).getD dn 0)) := p1
        go_simp
        refine hK9 _ _ ⟨fun h => absurd rfl h, wpAnyM_done (by kernel_rfl) ?_ _⟩
        clear hK9
        simp only [noThrow, Exit.inBlock, Exit.then]
        go_at_K
        go_wp2
        go_roundw
        case rel =>
          refine ⟨k + 1, by omega, by go_num, ?_, HB3.out.drew.setCell (p := ⟨g, dn, none⟩) hgl _⟩
          rw [mvDo_next HX.out, HY.out]
          exact OwnInts.setAt (w := w3.drew) HO3.out (by omega) y
        case measure => simp [intOf]; omega
      · have hkm : k = m := by omega
        subst hkm
        clear ho hB
        go_wp2
        go_ret
        refine ⟨_, rfl, ?_, HB.out⟩
        have h9 := HO.out
        rw [List.take_of_length_le (by have := HM.out; omega), HE.out] at h9
        exact h9

set_option maxHeartbeats 4000000 in
theorem spec_movesDo (v : Value) (l : List ArmD) (vv : Value) (vals : List Int) (w : World) (ha : MovesAt w v l) (hv : IntsAt w vv vals) (hn : vals.length ≤ 1048577) :
    Calls Try.prog 17 #[v, vv] w fun e w' => GivesOwn w (movesDo l vals) e w' := by
  have HA : Hid (MovesAt w v l) := ha
  have HV : Hid (IntsAt w vv vals) := hv
  obtain ⟨a, cap, rfl, hm, hc⟩ := ha
  obtain ⟨va, vcap, rfl, hvm, hvc⟩ := hv
  obtain ⟨m, HM⟩ : ∃ m, Hid (l.length = m) := ⟨_, rfl⟩
  obtain ⟨n, HN⟩ : ∃ m, Hid (vals.length = m) := ⟨_, rfl⟩
  rw [HM.out] at hm hc HA ⊢
  rw [HN.out] at hvm hvc HV hn ⊢
  have HC : Hid (0 < m → ∃ b off, a = some ⟨b, off, none⟩ ∧ 0 ≤ b ∧ ∀ i x, l[i]? = some x → ArmAt w b (off + i * 2) x) := hc
  have HVC : Hid (0 < n → ∃ b off, va = some ⟨b, off, none⟩ ∧ ∀ i, i < n → w.cell? ⟨b, off + i, none⟩ = some (.int .i64 (vals.getD i 0))) := hvc
  clear hc hvc
  obtain ⟨R, HR⟩ : ∃ R, Hid (movesOk l (n : Int) = R) := ⟨_, rfl⟩
  obtain ⟨L, HL⟩ : ∃ L, Hid (movesDo l vals = L) := ⟨_, rfl⟩
  rw [HL.out]
  have hap : ∃ v1 w1, (∀ ty, (Builtin.append_ #[25, 25] ty #[.slice (some ⟨w.heap.size, 0, none⟩) 0 0, .slice va n vcap]).run Try.prog (w.alloc (.cells #[] 3)) = .ok v1 w1) ∧ OwnInts w1 w.heap.size v1 vals ∧ Below w.heap.size w w1 ∧ ∃ g gcap, v1 = .slice (some ⟨g, 0, none⟩) n gcap := copied HV.out HN.out (by omega)
  obtain ⟨v1, w1, hrun, ho1, hb1, g, gcap, rfl⟩ := hap
  have HRUN : Hid (∀ ty, (Builtin.append_ #[25, 25] ty #[.slice (some ⟨w.heap.size, 0, none⟩) 0 0, .slice va n vcap]).run Try.prog (w.alloc (.cells #[] 3)) = .ok (.slice (some ⟨g, 0, none⟩) n gcap) w1) := hrun
  have HO1 : Hid (OwnInts w1 w.heap.size (.slice (some ⟨g, 0, none⟩) n gcap) vals) := ho1
  have HB1 : Hid (Below w.heap.size w w1) := hb1
  clear ho1 hb1 hrun
  go_enter Try.func17, Try.ntmps17
  go_wp2_with (at_builtin; refine wpList_append_eq _ rfl _ _ 25 25 rfl _ _ _ _ rfl rfl (HRUN.out _) ?_)
  refine (spec_movesOk _ l (n : Int) _ (HA.out.keep HB1.out)).mono ?_
  rw [HR.out]
  rintro e w2 ⟨rfl, b2⟩
  have HO2 : Hid (OwnInts w2 w.heap.size (.slice (some ⟨g, 0, none⟩) n gcap) vals) := HO1.out.keep b2
  have HB2 : Hid (Below w.heap.size w w2) := Bel.after HB1.out b2
  clear b2
  cases R with
  | false =>
    obtain rfl : vals = L := by rw [← HL.out]; unfold movesDo; rw [HN.out, HR.out]; rfl
    go_wp2_with fail
    go_ret
    exact ⟨_, rfl, HO2.out, HB2.out⟩
  | true =>
    have HE : Hid (mvDo l vals = L) := by show _ = _; rw [← HL.out]; unfold movesDo; rw [HN.out, HR.out]; rfl
    have HIN : Hid (∀ x ∈ l, mvIn x n = true) := (movesOk_fine HR.out).1
    go_wp2_with fail
    go_loopw [6] (fun i wr => ∃ k : Nat, k ≤ m ∧ i = .int .i64 k ∧ OwnInts wr w.heap.size (.slice (some ⟨g, 0, none⟩) n gcap) (mvDo (l.take k) vals) ∧ Below w.heap.size w wr) (fun i _ => m - (intOf i).toNat)
    case atStart => exact ⟨0, Nat.zero_le _, rfl, HO2.out, HB2.out⟩
    case round =>
      obtain ⟨k, hk, rfl, ho, hB⟩ := hrel
      have HO : Hid (OwnInts wr w.heap.size (.slice (some ⟨g, 0, none⟩) n gcap) (mvDo (l.take k) vals)) := ho
      have HB : Hid (Below w.heap.size w wr) := hB
      by_cases hlt : (k : Int) < (m : Int)
      · obtain ⟨b, off, rfl, _, hc1⟩ := HC.out (by omega)
        have hkl : k < l.length := by have := HM.out; omega
        obtain ⟨x, HX⟩ : ∃ x, Hid (l[k]? = some x) := ⟨l[k], List.getElem?_eq_getElem hkl⟩
        obtain ⟨c0, c1⟩ := (hc1 k x HX.out).keep (Keeps.of_below HB.out 0) (Nat.zero_le _)
        have hsz := HB.out.size
        clear hc1 hkl
        obtain ⟨d, s⟩ := x
        dsimp only at c0 c1
        obtain ⟨i1, i2, i3, i4⟩ := mvIn_iff.1 (HIN.out _ (List.mem_of_getElem? HX.out))
        dsimp only at i1 i2 i3 i4
        obtain ⟨dn, rfl⟩ := Int.eq_ofNat_of_zero_le i1
        obtain ⟨sn, rfl⟩ := Int.eq_ofNat_of_zero_le i3
        obtain ⟨vb, voff, rfl, hv1⟩ := HVC.out (by omega)
        have q0 := Bel.keeps hB (hv1 sn (by omega))
        have q1 := ho.cellAt (i := dn) (by omega)
        have fz := frozen_of_cells ho.heapOf dn
        obtain ⟨hgl, hgl2⟩ : w.heap.size ≤ g ∧ g < wr.heap.size := ho.lt g rfl
        clear ho hB hv1
        obtain ⟨y, HY⟩ : ∃ y, Hid (vals.getD ((sn : Int).toNat) 0 = y) := ⟨_, rfl⟩
        have hy : vals.getD sn 0 = y := by have := HY.out; simpa using this
        rw [hy] at q0
        clear hy
        go_wp2_with fail
        refine wp_noThrow (region_M 15 (fun w' => w'.cell? ⟨b, off + k * 2, none⟩ = some (.int .i64 (dn : Int)) ∧ w'.cell? ⟨b, off + k * 2 + 1, none⟩ = some (.int .i64 (sn : Int)) ∧ w'.cell? ⟨vb, voff + sn, none⟩ = some (.int .i64 y)) (by kernel_rfl) ?_)
        have hHeld : wr.drew.cell? ⟨b, off + k * 2, none⟩ = some (.int .i64 (dn : Int)) ∧ wr.drew.cell? ⟨b, off + k * 2 + 1, none⟩ = some (.int .i64 (sn : Int)) ∧ wr.drew.cell? ⟨vb, voff + sn, none⟩ = some (.int .i64 y) := ⟨c0, c1, q0⟩
        refine wpAnyM_take (i := 0) (oi := { dst := some 22, op := Go.Op.move (Go.Operand.tmp 5), type := 25, pos := "l09_move.go:25", after := #[], guard := none }) (v := ?_) rfl (by kernel_rfl) (by kernel_rfl) (by kernel_rfl) (by kernel_rfl) (fun _ _ _ h => h) (Or.inl ⟨by rfl, ?_⟩) (by assumption) ?_
        rotate_left
        · intro w hSw
          (try dsimp only at hSw)
          go_simp
          (try with_reducible rfl)
        try simp only [Act.put, List.setIfInBounds_toArray, List.set_cons_zero, List.set_cons_succ]
        refine wpAnyM_take (i := 1) (oi := { dst := some 23, op := Go.Op.move (Go.Operand.tmp 0), type := 24, pos := "l09_move.go:25", after := #[], guard := none }) (v := ?_) rfl (by kernel_rfl) (by kernel_rfl) (by kernel_rfl) (by kernel_rfl) (fun _ _ _ h => h) (Or.inl ⟨by rfl, ?_⟩) (by assumption) ?_
        rotate_left
        · intro w hSw
          (try dsimp only at hSw)
          go_simp
          (try with_reducible rfl)
        try simp only [Act.put, List.setIfInBounds_toArray, List.set_cons_zero, List.set_cons_succ]
        refine wpAnyM_take (i := 2) (oi := { dst := some 24, op := Go.Op.move (Go.Operand.tmp 6), type := 3, pos := "l09_move.go:25", after := #[], guard := none }) (v := ?_) rfl (by kernel_rfl) (by kernel_rfl) (by kernel_rfl) (by kernel_rfl) (fun _ _ _ h => h) (Or.inl ⟨by rfl, ?_⟩) (by assumption) ?_
        rotate_left
        · intro w hSw
          (try dsimp only at hSw)
          go_simp
          (try with_reducible rfl)
        try simp only [Act.put, List.setIfInBounds_toArray, List.set_cons_zero, List.set_cons_succ]
        refine wpAnyM_take (i := 3) (oi := { dst := some 25, op := Go.Op.indexAddr 24 (Go.Operand.tmp 23) (Go.Operand.tmp 24), type := 0, pos := "l09_move.go:25", after := #[{ on := 1, ground := Go.Ground.data }, { on := 2, ground := Go.Ground.data }], guard := none }) (v := ?_) rfl (by kernel_rfl) (by kernel_rfl) (by kernel_rfl) (by kernel_rfl) (fun _ _ _ h => h) (Or.inl ⟨by rfl, ?_⟩) (by assumption) ?_
        rotate_left
        · intro w hSw
          (try dsimp only at hSw)
          go_simp
          (try with_reducible rfl)
        try simp only [Act.put, List.setIfInBounds_toArray, List.set_cons_zero, List.set_cons_succ]
        refine wpAnyM_take (i := 4) (oi := { dst := some 26, op := Go.Op.fieldAddr 44 (Go.Operand.tmp 25) 0, type := 0, pos := "l09_move.go:25", after := #[{ on := 3, ground := Go.Ground.data }], guard := none }) (v := ?_) rfl (by kernel_rfl) (by kernel_rfl) (by kernel_rfl) (by kernel_rfl) (fun _ _ _ h => h) (Or.inl ⟨by rfl, ?_⟩) (by assumption) ?_
        rotate_left
        · intro w hSw
          (try dsimp only at hSw)
          go_simp
          (try with_reducible rfl)
        try simp only [Act.put, List.setIfInBounds_toArray, List.set_cons_zero, List.set_cons_succ]
        refine wpAnyM_take (i := 5) (oi := { dst := some 27, op := Go.Op.load 3 (Go.Operand.tmp 26), type := 3, pos := "l09_move.go:25", after := #[{ on := 4, ground := Go.Ground.data }], guard := none }) (v := ?_) rfl (by kernel_rfl) (by kernel_rfl) (by kernel_rfl) (by kernel_rfl) (fun _ _ _ h => h) (Or.inl ⟨by rfl, ?_⟩) (by assumption) ?_
        rotate_left
        · intro w hSw
          (try dsimp only at hSw)
          go_simp
          (try with_reducible rfl)
        try simp only [Act.put, List.setIfInBounds_toArray, List.set_cons_zero, List.set_cons_succ]
        refine wpAnyM_take (i := 6) (oi := { dst := some 28, op := Go.Op.move (Go.Operand.tmp 1), type := 25, pos := "l09_move.go:25", after := #[], guard := none }) (v := ?_) rfl (by kernel_rfl) (by kernel_rfl) (by kernel_rfl) (by kernel_rfl) (fun _ _ _ h => h) (Or.inl ⟨by rfl, ?_⟩) (by assumption) ?_
        rotate_left
        · intro w hSw
          (try dsimp only at hSw)
          go_simp
          (try with_reducible rfl)
        try simp only [Act.put, List.setIfInBounds_toArray, List.set_cons_zero, List.set_cons_succ]
        refine wpAnyM_take (i := 7) (oi := { dst := some 29, op := Go.Op.move (Go.Operand.tmp 0), type := 24, pos := "l09_move.go:25", after := #[], guard := none }) (v := ?_) rfl (by kernel_rfl) (by kernel_rfl) (by kernel_rfl) (by kernel_rfl) (fun _ _ _ h => h) (Or.inl ⟨by rfl, ?_⟩) (by assumption) ?_
        rotate_left
        · intro w hSw
          (try dsimp only at hSw)
          go_simp
          (try with_reducible rfl)
        try simp only [Act.put, List.setIfInBounds_toArray, List.set_cons_zero, List.set_cons_succ]
        refine wpAnyM_take (i := 8) (oi := { dst := some 30, op := Go.Op.move (Go.Operand.tmp 6), type := 3, pos := "l09_move.go:25", after := #[], guard := none }) (v := ?_) rfl (by kernel_rfl) (by kernel_rfl) (by kernel_rfl) (by kernel_rfl) (fun _ _ _ h => h) (Or.inl ⟨by rfl, ?_⟩) (by assumption) ?_
        rotate_left
        · intro w hSw
          (try dsimp only at hSw)
          go_simp
          (try with_reducible rfl)
        try simp only [Act.put, List.setIfInBounds_toArray, List.set_cons_zero, List.set_cons_succ]
        refine wpAnyM_take (i := 9) (oi := { dst := some 31, op := Go.Op.indexAddr 24 (Go.Operand.tmp 29) (Go.Operand.tmp 30), type := 0, pos := "l09_move.go:25", after := #[{ on := 7, ground := Go.Ground.data }, { on := 8, ground := Go.Ground.data }], guard := none }) (v := ?_) rfl (by kernel_rfl) (by kernel_rfl) (by kernel_rfl) (by kernel_rfl) (fun _ _ _ h => h) (Or.inl ⟨by rfl, ?_⟩) (by assumption) ?_
        rotate_left
        · intro w hSw
          (try dsimp only at hSw)
          go_simp
          (try with_reducible rfl)
        try simp only [Act.put, List.setIfInBounds_toArray, List.set_cons_zero, List.set_cons_succ]
        refine wpAnyM_take (i := 10) (oi := { dst := some 32, op := Go.Op.fieldAddr 44 (Go.Operand.tmp 31) 1, type := 0, pos := "l09_move.go:25", after := #[{ on := 9, ground := Go.Ground.data }], guard := none }) (v := ?_) rfl (by kernel_rfl) (by kernel_rfl) (by kernel_rfl) (by kernel_rfl) (fun _ _ _ h => h) (Or.inl ⟨by rfl, ?_⟩) (by assumption) ?_
        rotate_left
        · intro w hSw
          (try dsimp only at hSw)
          go_simp
          (try with_reducible rfl)
        try simp only [Act.put, List.setIfInBounds_toArray, List.set_cons_zero, List.set_cons_succ]
        refine wpAnyM_take (i := 11) (oi := { dst := some 33, op := Go.Op.load 3 (Go.Operand.tmp 32), type := 3, pos := "l09_move.go:25", after := #[{ on := 10, ground := Go.Ground.data }], guard := none }) (v := ?_) rfl (by kernel_rfl) (by kernel_rfl) (by kernel_rfl) (by kernel_rfl) (fun _ _ _ h => h) (Or.inl ⟨by rfl, ?_⟩) (by assumption) ?_
        rotate_left
        · intro w hSw
          (try dsimp only at hSw)
          go_simp
          (try with_reducible rfl)
        try simp only [Act.put, List.setIfInBounds_toArray, List.set_cons_zero, List.set_cons_succ]
        refine wpAnyM_take (i := 12) (oi := { dst := some 34, op := Go.Op.indexAddr 25 (Go.Operand.tmp 28) (Go.Operand.tmp 33), type := 0, pos := "l09_move.go:25", after := #[{ on := 6, ground := Go.Ground.data }, { on := 11, ground := Go.Ground.data }], guard := none }) (v := ?_) rfl (by kernel_rfl) (by kernel_rfl) (by kernel_rfl) (by kernel_rfl) (fun _ _ _ h => h) (Or.inl ⟨by rfl, ?_⟩) (by assumption) ?_
        rotate_left
        · intro w hSw
          (try dsimp only at hSw)
          go_simp
          (try with_reducible rfl)
        try simp only [Act.put, List.setIfInBounds_toArray, List.set_cons_zero, List.set_cons_succ]
        refine wpAnyM_take (i := 13) (oi := { dst := some 35, op := Go.Op.load 3 (Go.Operand.tmp 34), type := 3, pos := "l09_move.go:25", after := #[{ on := 12, ground := Go.Ground.data }], guard := none }) (v := ?_) rfl (by kernel_rfl) (by kernel_rfl) (by kernel_rfl) (by kernel_rfl) (fun _ _ _ h => h) (Or.inl ⟨by rfl, ?_⟩) (by assumption) ?_
        rotate_left
        · intro w hSw
          (try dsimp only at hSw)
          go_simp
          (try with_reducible rfl)
        try simp only [Act.put, List.setIfInBounds_toArray, List.set_cons_zero, List.set_cons_succ]
        refine wpAnyM_take (i := 14) (oi := { dst := some 36, op := Go.Op.indexAddr 25 (Go.Operand.tmp 22) (Go.Operand.tmp 27), type := 0, pos := "l09_move.go:25", after := #[{ on := 0, ground := Go.Ground.data }, { on := 5, ground := Go.Ground.data }, { on := 0, ground := Go.Ground.phase }, { on := 1, ground := Go.Ground.phase }, { on := 2, ground := Go.Ground.phase }, { on := 3, ground := Go.Ground.phase }, { on := 4, ground := Go.Ground.phase }, { on := 5, ground := Go.Ground.phase }, { on := 6, ground := Go.Ground.phase }, { on := 7, ground := Go.Ground.phase }, { on := 8, ground := Go.Ground.phase }, { on := 9, ground := Go.Ground.phase }, { on := 10, ground := Go.Ground.phase }, { on := 11, ground := Go.Ground.phase }, { on := 12, ground := Go.Ground.phase }, { on := 13, ground := Go.Ground.phase }], guard := none }) (v := ?_) rfl (by kernel_rfl) (by kernel_rfl) (by kernel_rfl) (by kernel_rfl) (fun _ _ _ h => h) (Or.inl ⟨by rfl, ?_⟩) (by assumption) ?_
        rotate_left
        · intro w hSw
          (try dsimp only at hSw)
          go_simp
          (try with_reducible rfl)
        try simp only [Act.put, List.setIfInBounds_toArray, List.set_cons_zero, List.set_cons_succ]
        refine cmAnyM_oneK (i := 15) (o := { dst := none, op := Go.Op.store 3 (Go.Operand.tmp 36) (Go.Operand.tmp 35), type := 0, pos := "l09_move.go:25", after := #[{ on := 14, ground := Go.Ground.data }, { on := 13, ground := Go.Ground.data }, { on := 0, ground := Go.Ground.phase }, { on := 1, ground := Go.Ground.phase }, { on := 2, ground := Go.Ground.phase }, { on := 3, ground := Go.Ground.phase }, { on := 4, ground := Go.Ground.phase }, { on := 5, ground := Go.Ground.phase }, { on := 6, ground := Go.Ground.phase }, { on := 7, ground := Go.Ground.phase }, { on := 8, ground := Go.Ground.phase }, { on := 9, ground := Go.Ground.phase }, { on := 10, ground := Go.Ground.phase }, { on := 11, ground := Go.Ground.phase }, { on := 12, ground := Go.Ground.phase }, { on := 13, ground := Go.Ground.phase }], guard := none }) rfl rfl (by kernel_rfl) (fun K9 hK9 => ?_)
        have pz' : wr.drew.frozen? ⟨g, dn, none⟩ = false := fz
        have p1' : wr.drew.cell? ⟨g, dn, none⟩ = some (.int .i64 ((mvDo (l.take k) vals).getD dn 0)) := q1
        go_simp
        refine hK9 _ _ ⟨fun h => absurd rfl h, wpAnyM_done (by kernel_rfl) ?_ _⟩
        clear hK9
        simp only [noThrow, Exit.inBlock, Exit.then]
        go_at_K
        go_wp2
        go_roundw
        case rel =>
          refine ⟨k + 1, by omega, by go_num, ?_, HB.out.drew.setCell (p := ⟨g, dn, none⟩) hgl _⟩
          rw [mvDo_next HX.out, HY.out]
          exact OwnInts.setAt (w := wr.drew) HO.out (by omega) y
        case measure => simp [intOf]; omega
      · have hkm : k = m := by omega
        subst hkm
        clear ho hB
        go_wp2
        go_ret
        refine ⟨_, rfl, ?_, HB.out⟩
        have h9 := HO.out
        rw [List.take_of_length_le (by have := HM.out; omega), HE.out] at h9
        exact h9

set_option maxHeartbeats 4000000 in
theorem impl_movesEach (v : Value) (l : List ArmD) (vv : Value) (vals : List Int) (w : World) (ha : MovesAt w v l) (hv : IntsAt w vv vals) (hn : vals.length ≤ 1048577) :
    Calls Try.prog 18 #[v, vv] w fun e w' => GivesOwn w (mvEach l vals) e w' := by
  have HA : Hid (MovesAt w v l) := ha
  have HV : Hid (IntsAt w vv vals) := hv
  obtain ⟨a, cap, rfl, hm, hc⟩ := ha
  obtain ⟨va, vcap, rfl, hvm, hvc⟩ := hv
  obtain ⟨m, HM⟩ : ∃ m, Hid (l.length = m) := ⟨_, rfl⟩
  obtain ⟨n, HN⟩ : ∃ m, Hid (vals.length = m) := ⟨_, rfl⟩
  rw [HM.out] at hm hc HA ⊢
  rw [HN.out] at hvm hvc HV hn ⊢
  have HC : Hid (0 < m → ∃ b off, a = some ⟨b, off, none⟩ ∧ 0 ≤ b ∧ ∀ i x, l[i]? = some x → ArmAt w b (off + i * 2) x) := hc
  have HVC : Hid (0 < n → ∃ b off, va = some ⟨b, off, none⟩ ∧ ∀ i, i < n → w.cell? ⟨b, off + i, none⟩ = some (.int .i64 (vals.getD i 0))) := hvc
  clear hc hvc
  obtain ⟨L, HL⟩ : ∃ L, Hid (mvEach l vals = L) := ⟨_, rfl⟩
  rw [HL.out]
  have hap : ∃ v1 w1, (∀ ty, (Builtin.append_ #[25, 25] ty #[.slice (some ⟨w.heap.size, 0, none⟩) 0 0, .slice va n vcap]).run Try.prog (w.alloc (.cells #[] 3)) = .ok v1 w1) ∧ OwnInts w1 w.heap.size v1 vals ∧ Below w.heap.size w w1 ∧ ∃ g gcap, v1 = .slice (some ⟨g, 0, none⟩) n gcap := copied HV.out HN.out (by omega)
  obtain ⟨v1, w1, hrun, ho1, hb1, g, gcap, rfl⟩ := hap
  have HRUN : Hid (∀ ty, (Builtin.append_ #[25, 25] ty #[.slice (some ⟨w.heap.size, 0, none⟩) 0 0, .slice va n vcap]).run Try.prog (w.alloc (.cells #[] 3)) = .ok (.slice (some ⟨g, 0, none⟩) n gcap) w1) := hrun
  have HO1 : Hid (OwnInts w1 w.heap.size (.slice (some ⟨g, 0, none⟩) n gcap) vals) := ho1
  have HB1 : Hid (Below w.heap.size w w1) := hb1
  clear ho1 hb1 hrun
  go_enter Try.func18, Try.ntmps18
  go_wp2_with (at_builtin; refine wpList_append_eq _ rfl _ _ 25 25 rfl _ _ _ _ rfl rfl (HRUN.out _) ?_)
  go_loopw [13] (fun i wr => ∃ k : Nat, k ≤ m ∧ i = .int .i64 k ∧ OwnInts wr w.heap.size (.slice (some ⟨g, 0, none⟩) n gcap) (mvEach (l.take k) vals) ∧ Below w.heap.size w wr) (fun i _ => m - (intOf i).toNat)
  case atStart => exact ⟨0, Nat.zero_le _, rfl, HO1.out, HB1.out⟩
  case round =>
    obtain ⟨k, hk, rfl, ho, hB⟩ := hrel
    have HO : Hid (OwnInts wr w.heap.size (.slice (some ⟨g, 0, none⟩) n gcap) (mvEach (l.take k) vals)) := ho
    have HB : Hid (Below w.heap.size w wr) := hB
    by_cases hlt : (k : Int) < (m : Int)
    · obtain ⟨b, off, rfl, _, hc1⟩ := HC.out (by omega)
      have hkl : k < l.length := by have := HM.out; omega
      obtain ⟨x, HX⟩ : ∃ x, Hid (l[k]? = some x) := ⟨l[k], List.getElem?_eq_getElem hkl⟩
      obtain ⟨c0, c1⟩ := (hc1 k x HX.out).keep (Keeps.of_below HB.out 0) (Nat.zero_le _)
      have hsz := HB.out.size
      clear hc1 hkl
      obtain ⟨d, s⟩ := x
      dsimp only at c0 c1
      obtain ⟨bI, HI⟩ : ∃ q, Hid (mvIn ⟨d, s⟩ (n : Int) = q) := ⟨_, rfl⟩
      have hlo := ho.len
      have HLN : Hid ((mvEach (l.take k) vals).length = n) := hlo.symm
      obtain ⟨hgl, hgl2⟩ : w.heap.size ≤ g ∧ g < wr.heap.size := ho.lt g rfl
      clear ho hB hlo
      go_wp2_with fail
      refine (moveWithin_any d s (n : Int) _).mono ?_
      rw [HI.out]
      rintro e w3 ⟨rfl, b3⟩
      have x0 : w3.cell? ⟨wr.heap.size, 0, none⟩ = some (.int .i64 d) := Bel.keeps b3 (by simp [go_sem])
      have x1 : w3.cell? ⟨wr.heap.size, 1, none⟩ = some (.int .i64 s) := Bel.keeps b3 (by simp [go_sem])
      have HO3 : Hid (OwnInts w3 w.heap.size (.slice (some ⟨g, 0, none⟩) n gcap) (mvEach (l.take k) vals)) := (HO.out.keep (Bel.alloc _ _)).keep b3
      have HB3 : Hid (Below w.heap.size w w3) := Bel.after (HB.out.alloc hsz _) b3
      clear b3 c0 c1
      cases bI with
      | false =>
        go_wp2
        go_roundw
        case rel =>
          refine ⟨k + 1, by omega, by go_num, ?_, HB3.out⟩
          rw [mvEach_next HX.out, mvStep_out (by rw [HLN.out]; exact HI.out)]
          exact HO3.out
        case measure => simp [intOf]; omega
      | true =>
        obtain ⟨i1, i2, i3, i4⟩ := mvIn_iff.1 HI.out
        dsimp only at i1 i2 i3 i4
        obtain ⟨dn, rfl⟩ := Int.eq_ofNat_of_zero_le i1
        obtain ⟨sn, rfl⟩ := Int.eq_ofNat_of_zero_le i3
        have p0 := HO3.out.cellAt (i := sn) (by omega)
        have p1 := HO3.out.cellAt (i := dn) (by omega)
        have pz := frozen_of_cells HO3.out.heapOf dn
        obtain ⟨y, HY⟩ : ∃ y, Hid ((mvEach (l.take k) vals).getD ((sn : Int).toNat) 0 = y) := ⟨_, rfl⟩
        have hy : (mvEach (l.take k) vals).getD sn 0 = y := by have := HY.out; simpa using this
        rw [hy] at p0
        clear hy
        generalize wr.heap.size = X at *
        go_wp2_with fail
        refine wp_noThrow (region_M 9 (fun w' => w'.cell? ⟨X, 0, none⟩ = some (.int .i64 (dn : Int)) ∧ w'.cell? ⟨X, 1, none⟩ = some (.int .i64 (sn : Int)) ∧ w'.cell? ⟨g, sn, none⟩ = some (.int .i64 y)) (by kernel_rfl) ?_)
        have hHeld : w3.drew.cell? ⟨X, 0, none⟩ = some (.int .i64 (dn : Int)) ∧ w3.drew.cell? ⟨X, 1, none⟩ = some (.int .i64 (sn : Int)) ∧ w3.drew.cell? ⟨g, sn, none⟩ = some (.int .i64 y) := ⟨x0, x1, p0⟩
        refine wpAnyM_take (i := 0) (oi := { dst := some 21, op := Go.Op.move (Go.Operand.tmp 5), type := 25, pos := "l09_move.go:42", after := #[], guard := none }) (v := ?_) rfl (by kernel_rfl) (by kernel_rfl) (by kernel_rfl) (by kernel_rfl) (fun _ _ _ h => h) (Or.inl ⟨by rfl, ?_⟩) (by assumption) ?_
        rotate_left
        · intro w hSw
          (try dsimp only at hSw)
          go_simp
          (try with_reducible rfl)
        try simp only [Act.put, List.setIfInBounds_toArray, List.set_cons_zero, List.set_cons_succ]
        refine wpAnyM_take (i := 1) (oi := { dst := some 22, op := Go.Op.fieldAddr 44 (Go.Operand.tmp 7) 0, type := 0, pos := "l09_move.go:42", after := #[], guard := none }) (v := ?_) rfl (by kernel_rfl) (by kernel_rfl) (by kernel_rfl) (by kernel_rfl) (fun _ _ _ h => h) (Or.inl ⟨by rfl, ?_⟩) (by assumption) ?_
        rotate_left
        · intro w hSw
          (try dsimp only at hSw)
          go_simp
          (try with_reducible rfl)
        try simp only [Act.put, List.setIfInBounds_toArray, List.set_cons_zero, List.set_cons_succ]
        refine wpAnyM_take (i := 2) (oi := { dst := some 23, op := Go.Op.load 3 (Go.Operand.tmp 22), type := 3, pos := "l09_move.go:42", after := #[{ on := 1, ground := Go.Ground.data }], guard := none }) (v := ?_) rfl (by kernel_rfl) (by kernel_rfl) (by kernel_rfl) (by kernel_rfl) (fun _ _ _ h => h) (Or.inl ⟨by rfl, ?_⟩) (by assumption) ?_
        rotate_left
        · intro w hSw
          (try dsimp only at hSw)
          go_simp
          (try with_reducible rfl)
        try simp only [Act.put, List.setIfInBounds_toArray, List.set_cons_zero, List.set_cons_succ]
        refine wpAnyM_take (i := 3) (oi := { dst := some 24, op := Go.Op.move (Go.Operand.tmp 5), type := 25, pos := "l09_move.go:42", after := #[], guard := none }) (v := ?_) rfl (by kernel_rfl) (by kernel_rfl) (by kernel_rfl) (by kernel_rfl) (fun _ _ _ h => h) (Or.inl ⟨by rfl, ?_⟩) (by assumption) ?_
        rotate_left
        · intro w hSw
          (try dsimp only at hSw)
          go_simp
          (try with_reducible rfl)
        try simp only [Act.put, List.setIfInBounds_toArray, List.set_cons_zero, List.set_cons_succ]
        refine wpAnyM_take (i := 4) (oi := { dst := some 25, op := Go.Op.fieldAddr 44 (Go.Operand.tmp 7) 1, type := 0, pos := "l09_move.go:42", after := #[], guard := none }) (v := ?_) rfl (by kernel_rfl) (by kernel_rfl) (by kernel_rfl) (by kernel_rfl) (fun _ _ _ h => h) (Or.inl ⟨by rfl, ?_⟩) (by assumption) ?_
        rotate_left
        · intro w hSw
          (try dsimp only at hSw)
          go_simp
          (try with_reducible rfl)
        try simp only [Act.put, List.setIfInBounds_toArray, List.set_cons_zero, List.set_cons_succ]
        refine wpAnyM_take (i := 5) (oi := { dst := some 26, op := Go.Op.load 3 (Go.Operand.tmp 25), type := 3, pos := "l09_move.go:42", after := #[{ on := 4, ground := Go.Ground.data }], guard := none }) (v := ?_) rfl (by kernel_rfl) (by kernel_rfl) (by kernel_rfl) (by kernel_rfl) (fun _ _ _ h => h) (Or.inl ⟨by rfl, ?_⟩) (by assumption) ?_
        rotate_left
        · intro w hSw
          (try dsimp only at hSw)
          go_simp
          (try with_reducible rfl)
        try simp only [Act.put, List.setIfInBounds_toArray, List.set_cons_zero, List.set_cons_succ]
        refine wpAnyM_take (i := 6) (oi := { dst := some 27, op := Go.Op.indexAddr 25 (Go.Operand.tmp 24) (Go.Operand.tmp 26), type := 0, pos := "l09_move.go:42", after := #[{ on := 3, ground := Go.Ground.data }, { on := 5, ground := Go.Ground.data }], guard := none }) (v := ?_) rfl (by kernel_rfl) (by kernel_rfl) (by kernel_rfl) (by kernel_rfl) (fun _ _ _ h => h) (Or.inl ⟨by rfl, ?_⟩) (by assumption) ?_
        rotate_left
        · intro w hSw
          (try dsimp only at hSw)
          go_simp
          (try with_reducible rfl)
        try simp only [Act.put, List.setIfInBounds_toArray, List.set_cons_zero, List.set_cons_succ]
        refine wpAnyM_take (i := 7) (oi := { dst := some 28, op := Go.Op.load 3 (Go.Operand.tmp 27), type := 3, pos := "l09_move.go:42", after := #[{ on := 6, ground := Go.Ground.data }], guard := none }) (v := ?_) rfl (by kernel_rfl) (by kernel_rfl) (by kernel_rfl) (by kernel_rfl) (fun _ _ _ h => h) (Or.inl ⟨by rfl, ?_⟩) (by assumption) ?_
        rotate_left
        · intro w hSw
          (try dsimp only at hSw)
          go_simp
          (try with_reducible rfl)
        try simp only [Act.put, List.setIfInBounds_toArray, List.set_cons_zero, List.set_cons_succ]
        refine wpAnyM_take (i := 8) (oi := { dst := some 29, op := Go.Op.indexAddr 25 (Go.Operand.tmp 21) (Go.Operand.tmp 23), type := 0, pos := "l09_move.go:42", after := #[{ on := 0, ground := Go.Ground.data }, { on := 2, ground := Go.Ground.data }, { on := 0, ground := Go.Ground.phase }, { on := 1, ground := Go.Ground.phase }, { on := 2, ground := Go.Ground.phase }, { on := 3, ground := Go.Ground.phase }, { on := 4, ground := Go.Ground.phase }, { on := 5, ground := Go.Ground.phase }, { on := 6, ground := Go.Ground.phase }, { on := 7, ground := Go.Ground.phase }], guard := none }) (v := ?_) rfl (by kernel_rfl) (by kernel_rfl) (by kernel_rfl) (by kernel_rfl) (fun _ _ _ h => h) (Or.inl ⟨by rfl, ?_⟩) (by assumption) ?_
        rotate_left
        · intro w hSw
          (try dsimp only at hSw)
          go_simp
          (try with_reducible rfl)
        try simp only [Act.put, List.setIfInBounds_toArray, List.set_cons_zero, List.set_cons_succ]
        refine cmAnyM_oneK (i := 9) (o := { dst := none, op := Go.Op.store 3 (Go.Operand.tmp 29) (Go.Operand.tmp 28), type := 0, pos := "l09_move.go:42", after := #[{ on := 8, ground := Go.Ground.data }, { on := 7, ground := Go.Ground.data }, { on := 0, ground := Go.Ground.phase }, { on := 1, ground := Go.Ground.phase }, { on := 2, ground := Go.Ground.phase }, { on := 3, ground := Go.Ground.phase }, { on := 4, ground := Go.Ground.phase }, { on := 5, ground := Go.Ground.phase }, { on := 6, ground := Go.Ground.phase }, { on := 7, ground := Go.Ground.phase }], guard := none }) rfl rfl (by kernel_rfl) (fun K9 hK9 => ?_)
        have pz' : w3.drew.frozen? ⟨g, dn, none⟩ = false := pz
        have p1' : w3.drew.cell? ⟨g, dn, none⟩ = some (.int .i64 ((mvEach (l.take k) vals).getD dn 0)) := p1
        go_simp
        refine hK9 _ _ ⟨fun h => absurd rfl h, wpAnyM_done (by kernel_rfl) ?_ _⟩
        clear hK9
        simp only [noThrow, Exit.inBlock, Exit.then]
        go_at_K
        go_wp2
        go_roundw
        case rel =>
          refine ⟨k + 1, by omega, by go_num, ?_, HB3.out.drew.setCell (p := ⟨g, dn, none⟩) hgl _⟩
          rw [mvEach_next HX.out, mvStep_in (by rw [HLN.out]; exact HI.out), HY.out]
          exact OwnInts.setAt (w := w3.drew) HO3.out (by omega) y
        case measure => simp [intOf]; omega
    · have hkm : k = m := by omega
      subst hkm
      clear ho hB
      go_wp2
      go_ret
      refine ⟨_, rfl, ?_, HB.out⟩
      have h9 := HO.out
      rw [List.take_of_length_le (by have := HM.out; omega), HL.out] at h9
      exact h9

/-- A bool is told, and it says p. -/
def BoolIff (p : Prop) (w : World) (e : Ending) (w' : World) : Prop := (∃ b : Bool, e = .returned (.bool b) ∧ (b = true ↔ p)) ∧ w' = w
theorem l1In_any (x lo hi : Int) (w : World) :
    Calls Try.prog 39 #[.int .i64 x, .int .i64 lo, .int .i64 hi] w fun e w' => BoolIff (lo ≤ x ∧ x ≤ hi) w e w' := by
  by_cases h1 : x ≥ lo
  · by_cases h2 : x ≤ hi
    · go_enter Try.func39, Try.ntmps39
      go_wp2
      go_ret
      refine ⟨⟨true, rfl, ?_⟩, rfl⟩
      simp
      omega
    · go_enter Try.func39, Try.ntmps39
      go_wp2
      go_ret
      refine ⟨⟨false, rfl, ?_⟩, rfl⟩
      simp
      omega
  · go_enter Try.func39, Try.ntmps39
    go_wp2
    go_ret
    refine ⟨⟨false, rfl, ?_⟩, rfl⟩
    simp
    omega

set_option maxHeartbeats 4000000 in
theorem spec_movesEach (v : Value) (l : List ArmD) (vv : Value) (vals : List Int) (w : World) (ha : MovesAt w v l) (hv : IntsAt w vv vals) (hn : vals.length ≤ 1048577) :
    Calls Try.prog 20 #[v, vv] w fun e w' => GivesOwn w (mvEach l vals) e w' := by
  have HA : Hid (MovesAt w v l) := ha
  have HV : Hid (IntsAt w vv vals) := hv
  obtain ⟨a, cap, rfl, hm, hc⟩ := ha
  obtain ⟨va, vcap, rfl, hvm, hvc⟩ := hv
  obtain ⟨m, HM⟩ : ∃ m, Hid (l.length = m) := ⟨_, rfl⟩
  obtain ⟨n, HN⟩ : ∃ m, Hid (vals.length = m) := ⟨_, rfl⟩
  rw [HM.out] at hm hc HA ⊢
  rw [HN.out] at hvm hvc HV hn ⊢
  have HC : Hid (0 < m → ∃ b off, a = some ⟨b, off, none⟩ ∧ 0 ≤ b ∧ ∀ i x, l[i]? = some x → ArmAt w b (off + i * 2) x) := hc
  have HVC : Hid (0 < n → ∃ b off, va = some ⟨b, off, none⟩ ∧ ∀ i, i < n → w.cell? ⟨b, off + i, none⟩ = some (.int .i64 (vals.getD i 0))) := hvc
  clear hc hvc
  obtain ⟨L, HL⟩ : ∃ L, Hid (mvEach l vals = L) := ⟨_, rfl⟩
  rw [HL.out]
  have hap : ∃ v1 w1, (∀ ty, (Builtin.append_ #[25, 25] ty #[.slice (some ⟨w.heap.size, 0, none⟩) 0 0, .slice va n vcap]).run Try.prog (w.alloc (.cells #[] 3)) = .ok v1 w1) ∧ OwnInts w1 w.heap.size v1 vals ∧ Below w.heap.size w w1 ∧ ∃ g gcap, v1 = .slice (some ⟨g, 0, none⟩) n gcap := copied HV.out HN.out (by omega)
  obtain ⟨v1, w1, hrun, ho1, hb1, g, gcap, rfl⟩ := hap
  have HRUN : Hid (∀ ty, (Builtin.append_ #[25, 25] ty #[.slice (some ⟨w.heap.size, 0, none⟩) 0 0, .slice va n vcap]).run Try.prog (w.alloc (.cells #[] 3)) = .ok (.slice (some ⟨g, 0, none⟩) n gcap) w1) := hrun
  have HO1 : Hid (OwnInts w1 w.heap.size (.slice (some ⟨g, 0, none⟩) n gcap) vals) := ho1
  have HB1 : Hid (Below w.heap.size w w1) := hb1
  clear ho1 hb1 hrun
  go_enter Try.func20, Try.ntmps20
  go_wp2_with (at_builtin; refine wpList_append_eq _ rfl _ _ 25 25 rfl _ _ _ _ rfl rfl (HRUN.out _) ?_)
  go_loopw [6] (fun i wr => ∃ k : Nat, k ≤ m ∧ i = .int .i64 k ∧ OwnInts wr w.heap.size (.slice (some ⟨g, 0, none⟩) n gcap) (mvEach (l.take k) vals) ∧ Below w.heap.size w wr) (fun i _ => m - (intOf i).toNat)
  case atStart => exact ⟨0, Nat.zero_le _, rfl, HO1.out, HB1.out⟩
  case round =>
    obtain ⟨k, hk, rfl, ho, hB⟩ := hrel
    have HO : Hid (OwnInts wr w.heap.size (.slice (some ⟨g, 0, none⟩) n gcap) (mvEach (l.take k) vals)) := ho
    have HB : Hid (Below w.heap.size w wr) := hB
    by_cases hlt : (k : Int) < (m : Int)
    · obtain ⟨b, off, rfl, _, hc1⟩ := HC.out (by omega)
      have hkl : k < l.length := by have := HM.out; omega
      obtain ⟨x, HX⟩ : ∃ x, Hid (l[k]? = some x) := ⟨l[k], List.getElem?_eq_getElem hkl⟩
      obtain ⟨c0, c1⟩ := (hc1 k x HX.out).keep (Keeps.of_below HB.out 0) (Nat.zero_le _)
      have hsz := HB.out.size
      clear hc1 hkl
      obtain ⟨d, s⟩ := x
      dsimp only at c0 c1
      obtain ⟨bI, HI⟩ : ∃ q, Hid (mvIn ⟨d, s⟩ (n : Int) = q) := ⟨_, rfl⟩
      have hlo := ho.len
      have HLN : Hid ((mvEach (l.take k) vals).length = n) := hlo.symm
      obtain ⟨hgl, hgl2⟩ : w.heap.size ≤ g ∧ g < wr.heap.size := ho.lt g rfl
      clear ho hB hlo
      cases bI with
      | false =>
        have hno : ¬ (0 ≤ d ∧ d ≤ (n : Int) - 1) ∨ ¬ (0 ≤ s ∧ s ≤ (n : Int) - 1) := by have := HI.out; simp [mvIn] at this; omega
        go_wp2_with fail
        refine (l1In_any d 0 ((n : Int) - 1) _).mono ?_
        rintro e w3 ⟨⟨q, rfl, hq⟩, rfl⟩
        have HQ : Hid (q = true ↔ 0 ≤ d ∧ d ≤ (n : Int) - 1) := hq
        clear hq
        cases q with
        | false =>
          go_wp2
          go_roundw
          case rel =>
            refine ⟨k + 1, by omega, by go_num, ?_, HB.out⟩
            rw [mvEach_next HX.out, mvStep_out (by rw [HLN.out]; exact HI.out)]
            exact HO.out
          case measure => simp [intOf]; omega
        | true =>
          have HD : Hid (0 ≤ d ∧ d ≤ (n : Int) - 1) := HQ.out.1 rfl
          clear HQ
          go_wp2_with fail
          refine (l1In_any s 0 ((n : Int) - 1) _).mono ?_
          rintro e w4 ⟨⟨q, rfl, hq⟩, rfl⟩
          obtain rfl : q = false := by
            cases q with
            | false => rfl
            | true =>
              have h1 := HD.out
              have h2 := hq.1 rfl
              omega
          go_wp2
          go_roundw
          case rel =>
            refine ⟨k + 1, by omega, by go_num, ?_, HB.out⟩
            rw [mvEach_next HX.out, mvStep_out (by rw [HLN.out]; exact HI.out)]
            exact HO.out
          case measure => simp [intOf]; omega
      | true =>
        obtain ⟨i1, i2, i3, i4⟩ := mvIn_iff.1 HI.out
        dsimp only at i1 i2 i3 i4
        obtain ⟨dn, rfl⟩ := Int.eq_ofNat_of_zero_le i1
        obtain ⟨sn, rfl⟩ := Int.eq_ofNat_of_zero_le i3
        have p0 := HO.out.cellAt (i := sn) (by omega)
        have p1 := HO.out.cellAt (i := dn) (by omega)
        have pz := frozen_of_cells HO.out.heapOf dn
        obtain ⟨y, HY⟩ : ∃ y, Hid ((mvEach (l.take k) vals).getD ((sn : Int).toNat) 0 = y) := ⟨_, rfl⟩
        have hy : (mvEach (l.take k) vals).getD sn 0 = y := by have := HY.out; simpa using this
        rw [hy] at p0
        clear hy
        go_wp2_with fail
        refine (l1In_any (dn : Int) 0 ((n : Int) - 1) _).mono ?_
        rintro e w3 ⟨⟨q, rfl, hq⟩, rfl⟩
        obtain rfl : q = true := hq.2 (by omega)
        clear hq
        go_wp2_with fail
        refine (l1In_any (sn : Int) 0 ((n : Int) - 1) _).mono ?_
        rintro e w4 ⟨⟨q, rfl, hq⟩, rfl⟩
        obtain rfl : q = true := hq.2 (by omega)
        clear hq
        go_wp2_with fail
        refine wp_noThrow (region_M 15 (fun w' => w'.cell? ⟨b, off + k * 2, none⟩ = some (.int .i64 (dn : Int)) ∧ w'.cell? ⟨b, off + k * 2 + 1, none⟩ = some (.int .i64 (sn : Int)) ∧ w'.cell? ⟨g, sn, none⟩ = some (.int .i64 y)) (by kernel_rfl) ?_)
        have hHeld : w4.drew.cell? ⟨b, off + k * 2, none⟩ = some (.int .i64 (dn : Int)) ∧ w4.drew.cell? ⟨b, off + k * 2 + 1, none⟩ = some (.int .i64 (sn : Int)) ∧ w4.drew.cell? ⟨g, sn, none⟩ = some (.int .i64 y) := ⟨c0, c1, p0⟩
        refine wpAnyM_take (i := 0) (oi := { dst := some 36, op := Go.Op.move (Go.Operand.tmp 5), type := 25, pos := "l09_move.go:34", after := #[], guard := none }) (v := ?_) rfl (by kernel_rfl) (by kernel_rfl) (by kernel_rfl) (by kernel_rfl) (fun _ _ _ h => h) (Or.inl ⟨by rfl, ?_⟩) (by assumption) ?_
        rotate_left
        · intro w hSw
          (try dsimp only at hSw)
          go_simp
          (try with_reducible rfl)
        try simp only [Act.put, List.setIfInBounds_toArray, List.set_cons_zero, List.set_cons_succ]
        refine wpAnyM_take (i := 1) (oi := { dst := some 37, op := Go.Op.move (Go.Operand.tmp 0), type := 24, pos := "l09_move.go:34", after := #[], guard := none }) (v := ?_) rfl (by kernel_rfl) (by kernel_rfl) (by kernel_rfl) (by kernel_rfl) (fun _ _ _ h => h) (Or.inl ⟨by rfl, ?_⟩) (by assumption) ?_
        rotate_left
        · intro w hSw
          (try dsimp only at hSw)
          go_simp
          (try with_reducible rfl)
        try simp only [Act.put, List.setIfInBounds_toArray, List.set_cons_zero, List.set_cons_succ]
        refine wpAnyM_take (i := 2) (oi := { dst := some 38, op := Go.Op.move (Go.Operand.tmp 6), type := 3, pos := "l09_move.go:34", after := #[], guard := none }) (v := ?_) rfl (by kernel_rfl) (by kernel_rfl) (by kernel_rfl) (by kernel_rfl) (fun _ _ _ h => h) (Or.inl ⟨by rfl, ?_⟩) (by assumption) ?_
        rotate_left
        · intro w hSw
          (try dsimp only at hSw)
          go_simp
          (try with_reducible rfl)
        try simp only [Act.put, List.setIfInBounds_toArray, List.set_cons_zero, List.set_cons_succ]
        refine wpAnyM_take (i := 3) (oi := { dst := some 39, op := Go.Op.indexAddr 24 (Go.Operand.tmp 37) (Go.Operand.tmp 38), type := 0, pos := "l09_move.go:34", after := #[{ on := 1, ground := Go.Ground.data }, { on := 2, ground := Go.Ground.data }], guard := none }) (v := ?_) rfl (by kernel_rfl) (by kernel_rfl) (by kernel_rfl) (by kernel_rfl) (fun _ _ _ h => h) (Or.inl ⟨by rfl, ?_⟩) (by assumption) ?_
        rotate_left
        · intro w hSw
          (try dsimp only at hSw)
          go_simp
          (try with_reducible rfl)
        try simp only [Act.put, List.setIfInBounds_toArray, List.set_cons_zero, List.set_cons_succ]
        refine wpAnyM_take (i := 4) (oi := { dst := some 40, op := Go.Op.fieldAddr 44 (Go.Operand.tmp 39) 0, type := 0, pos := "l09_move.go:34", after := #[{ on := 3, ground := Go.Ground.data }], guard := none }) (v := ?_) rfl (by kernel_rfl) (by kernel_rfl) (by kernel_rfl) (by kernel_rfl) (fun _ _ _ h => h) (Or.inl ⟨by rfl, ?_⟩) (by assumption) ?_
        rotate_left
        · intro w hSw
          (try dsimp only at hSw)
          go_simp
          (try with_reducible rfl)
        try simp only [Act.put, List.setIfInBounds_toArray, List.set_cons_zero, List.set_cons_succ]
        refine wpAnyM_take (i := 5) (oi := { dst := some 41, op := Go.Op.load 3 (Go.Operand.tmp 40), type := 3, pos := "l09_move.go:34", after := #[{ on := 4, ground := Go.Ground.data }], guard := none }) (v := ?_) rfl (by kernel_rfl) (by kernel_rfl) (by kernel_rfl) (by kernel_rfl) (fun _ _ _ h => h) (Or.inl ⟨by rfl, ?_⟩) (by assumption) ?_
        rotate_left
        · intro w hSw
          (try dsimp only at hSw)
          go_simp
          (try with_reducible rfl)
        try simp only [Act.put, List.setIfInBounds_toArray, List.set_cons_zero, List.set_cons_succ]
        refine wpAnyM_take (i := 6) (oi := { dst := some 42, op := Go.Op.move (Go.Operand.tmp 5), type := 25, pos := "l09_move.go:34", after := #[], guard := none }) (v := ?_) rfl (by kernel_rfl) (by kernel_rfl) (by kernel_rfl) (by kernel_rfl) (fun _ _ _ h => h) (Or.inl ⟨by rfl, ?_⟩) (by assumption) ?_
        rotate_left
        · intro w hSw
          (try dsimp only at hSw)
          go_simp
          (try with_reducible rfl)
        try simp only [Act.put, List.setIfInBounds_toArray, List.set_cons_zero, List.set_cons_succ]
        refine wpAnyM_take (i := 7) (oi := { dst := some 43, op := Go.Op.move (Go.Operand.tmp 0), type := 24, pos := "l09_move.go:34", after := #[], guard := none }) (v := ?_) rfl (by kernel_rfl) (by kernel_rfl) (by kernel_rfl) (by kernel_rfl) (fun _ _ _ h => h) (Or.inl ⟨by rfl, ?_⟩) (by assumption) ?_
        rotate_left
        · intro w hSw
          (try dsimp only at hSw)
          go_simp
          (try with_reducible rfl)
        try simp only [Act.put, List.setIfInBounds_toArray, List.set_cons_zero, List.set_cons_succ]
        refine wpAnyM_take (i := 8) (oi := { dst := some 44, op := Go.Op.move (Go.Operand.tmp 6), type := 3, pos := "l09_move.go:34", after := #[], guard := none }) (v := ?_) rfl (by kernel_rfl) (by kernel_rfl) (by kernel_rfl) (by kernel_rfl) (fun _ _ _ h => h) (Or.inl ⟨by rfl, ?_⟩) (by assumption) ?_
        rotate_left
        · intro w hSw
          (try dsimp only at hSw)
          go_simp
          (try with_reducible rfl)
        try simp only [Act.put, List.setIfInBounds_toArray, List.set_cons_zero, List.set_cons_succ]
        refine wpAnyM_take (i := 9) (oi := { dst := some 45, op := Go.Op.indexAddr 24 (Go.Operand.tmp 43) (Go.Operand.tmp 44), type := 0, pos := "l09_move.go:34", after := #[{ on := 7, ground := Go.Ground.data }, { on := 8, ground := Go.Ground.data }], guard := none }) (v := ?_) rfl (by kernel_rfl) (by kernel_rfl) (by kernel_rfl) (by kernel_rfl) (fun _ _ _ h => h) (Or.inl ⟨by rfl, ?_⟩) (by assumption) ?_
        rotate_left
        · intro w hSw
          (try dsimp only at hSw)
          go_simp
          (try with_reducible rfl)
        try simp only [Act.put, List.setIfInBounds_toArray, List.set_cons_zero, List.set_cons_succ]
        refine wpAnyM_take (i := 10) (oi := { dst := some 46, op := Go.Op.fieldAddr 44 (Go.Operand.tmp 45) 1, type := 0, pos := "l09_move.go:34", after := #[{ on := 9, ground := Go.Ground.data }], guard := none }) (v := ?_) rfl (by kernel_rfl) (by kernel_rfl) (by kernel_rfl) (by kernel_rfl) (fun _ _ _ h => h) (Or.inl ⟨by rfl, ?_⟩) (by assumption) ?_
        rotate_left
        · intro w hSw
          (try dsimp only at hSw)
          go_simp
          (try with_reducible rfl)
        try simp only [Act.put, List.setIfInBounds_toArray, List.set_cons_zero, List.set_cons_succ]
        refine wpAnyM_take (i := 11) (oi := { dst := some 47, op := Go.Op.load 3 (Go.Operand.tmp 46), type := 3, pos := "l09_move.go:34", after := #[{ on := 10, ground := Go.Ground.data }], guard := none }) (v := ?_) rfl (by kernel_rfl) (by kernel_rfl) (by kernel_rfl) (by kernel_rfl) (fun _ _ _ h => h) (Or.inl ⟨by rfl, ?_⟩) (by assumption) ?_
        rotate_left
        · intro w hSw
          (try dsimp only at hSw)
          go_simp
          (try with_reducible rfl)
        try simp only [Act.put, List.setIfInBounds_toArray, List.set_cons_zero, List.set_cons_succ]
        refine wpAnyM_take (i := 12) (oi := { dst := some 48, op := Go.Op.indexAddr 25 (Go.Operand.tmp 42) (Go.Operand.tmp 47), type := 0, pos := "l09_move.go:34", after := #[{ on := 6, ground := Go.Ground.data }, { on := 11, ground := Go.Ground.data }], guard := none }) (v := ?_) rfl (by kernel_rfl) (by kernel_rfl) (by kernel_rfl) (by kernel_rfl) (fun _ _ _ h => h) (Or.inl ⟨by rfl, ?_⟩) (by assumption) ?_
        rotate_left
        · intro w hSw
          (try dsimp only at hSw)
          go_simp
          (try with_reducible rfl)
        try simp only [Act.put, List.setIfInBounds_toArray, List.set_cons_zero, List.set_cons_succ]
        refine wpAnyM_take (i := 13) (oi := { dst := some 49, op := Go.Op.load 3 (Go.Operand.tmp 48), type := 3, pos := "l09_move.go:34", after := #[{ on := 12, ground := Go.Ground.data }], guard := none }) (v := ?_) rfl (by kernel_rfl) (by kernel_rfl) (by kernel_rfl) (by kernel_rfl) (fun _ _ _ h => h) (Or.inl ⟨by rfl, ?_⟩) (by assumption) ?_
        rotate_left
        · intro w hSw
          (try dsimp only at hSw)
          go_simp
          (try with_reducible rfl)
        try simp only [Act.put, List.setIfInBounds_toArray, List.set_cons_zero, List.set_cons_succ]
        refine wpAnyM_take (i := 14) (oi := { dst := some 50, op := Go.Op.indexAddr 25 (Go.Operand.tmp 36) (Go.Operand.tmp 41), type := 0, pos := "l09_move.go:34", after := #[{ on := 0, ground := Go.Ground.data }, { on := 5, ground := Go.Ground.data }, { on := 0, ground := Go.Ground.phase }, { on := 1, ground := Go.Ground.phase }, { on := 2, ground := Go.Ground.phase }, { on := 3, ground := Go.Ground.phase }, { on := 4, ground := Go.Ground.phase }, { on := 5, ground := Go.Ground.phase }, { on := 6, ground := Go.Ground.phase }, { on := 7, ground := Go.Ground.phase }, { on := 8, ground := Go.Ground.phase }, { on := 9, ground := Go.Ground.phase }, { on := 10, ground := Go.Ground.phase }, { on := 11, ground := Go.Ground.phase }, { on := 12, ground := Go.Ground.phase }, { on := 13, ground := Go.Ground.phase }], guard := none }) (v := ?_) rfl (by kernel_rfl) (by kernel_rfl) (by kernel_rfl) (by kernel_rfl) (fun _ _ _ h => h) (Or.inl ⟨by rfl, ?_⟩) (by assumption) ?_
        rotate_left
        · intro w hSw
          (try dsimp only at hSw)
          go_simp
          (try with_reducible rfl)
        try simp only [Act.put, List.setIfInBounds_toArray, List.set_cons_zero, List.set_cons_succ]
        refine cmAnyM_oneK (i := 15) (o := { dst := none, op := Go.Op.store 3 (Go.Operand.tmp 50) (Go.Operand.tmp 49), type := 0, pos := "l09_move.go:34", after := #[{ on := 14, ground := Go.Ground.data }, { on := 13, ground := Go.Ground.data }, { on := 0, ground := Go.Ground.phase }, { on := 1, ground := Go.Ground.phase }, { on := 2, ground := Go.Ground.phase }, { on := 3, ground := Go.Ground.phase }, { on := 4, ground := Go.Ground.phase }, { on := 5, ground := Go.Ground.phase }, { on := 6, ground := Go.Ground.phase }, { on := 7, ground := Go.Ground.phase }, { on := 8, ground := Go.Ground.phase }, { on := 9, ground := Go.Ground.phase }, { on := 10, ground := Go.Ground.phase }, { on := 11, ground := Go.Ground.phase }, { on := 12, ground := Go.Ground.phase }, { on := 13, ground := Go.Ground.phase }], guard := none }) rfl rfl (by kernel_rfl) (fun K9 hK9 => ?_)
        have pz' : w4.drew.frozen? ⟨g, dn, none⟩ = false := pz
        have p1' : w4.drew.cell? ⟨g, dn, none⟩ = some (.int .i64 ((mvEach (l.take k) vals).getD dn 0)) := p1
        go_simp
        refine hK9 _ _ ⟨fun h => absurd rfl h, wpAnyM_done (by kernel_rfl) ?_ _⟩
        clear hK9
        simp only [noThrow, Exit.inBlock, Exit.then]
        go_at_K
        go_wp2
        go_roundw
        case rel =>
          refine ⟨k + 1, by omega, by go_num, ?_, HB.out.drew.setCell (p := ⟨g, dn, none⟩) hgl _⟩
          rw [mvEach_next HX.out, mvStep_in (by rw [HLN.out]; exact HI.out), HY.out]
          exact OwnInts.setAt (w := w4.drew) HO.out (by omega) y
        case measure => simp [intOf]; omega
    · have hkm : k = m := by omega
      subst hkm
      clear ho hB
      go_wp2
      go_ret
      refine ⟨_, rfl, ?_, HB.out⟩
      have h9 := HO.out
      rw [List.take_of_length_le (by have := HM.out; omega), HL.out] at h9
      exact h9
end Go.Proofs.Ytijihgkhdknkeaa
