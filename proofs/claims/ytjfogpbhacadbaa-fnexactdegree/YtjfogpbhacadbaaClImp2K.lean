/- Who is in whose way: the program's Clash and Degree. -/
import Derived.Test.YtjfogpbhacadbaaClPoK
import Derived.Test.YtjfogpbhacadbaaClSpFK
namespace Go.Proofs.Ytjfogpbhacadbaa
open Go.ChangeShapes Go.WideShapes Go.ChangeAt Go.RowKit Go.Shelf
set_option linter.unusedVariables false
set_option maxRecDepth 100000

theorem plain24 {F : FnD} (h : FnPlain F) : ∀ (k : Nat) (x : BlockD), F.blocks[k]? = some x → x.list.length ≤ 24 := fun k x hx => (h.1.2.2.2.2 k x hx).2.1

set_option maxHeartbeats 4000000 in
theorem degree_any (mb N : Nat) (C : Int → Int → Prop) (x V : Nat) (w : World) (hm : MapP w mb N C) (hx : x < V) (hV : V ≤ 80) :
    Calls Try.prog 17 #[.map (some mb), .int .i64 (x : Int), .int .i64 (V : Int)] w fun e w' => e = .returned (.int .i64 (degN (setL C x) V : Nat)) ∧ Below w.heap.size w w' := by
  have HM : Hid (MapP w mb N C) := hm
  clear hm
  obtain ⟨L, HL⟩ : ∃ L, Hid (setL C x = L) := ⟨_, rfl⟩
  rw [HL.out]
  go_enter Try.func17, Try.ntmps17
  go_wp2_with fail
  go_loopw [7, 10] (fun nv i wr => ∃ k : Nat, k ≤ V ∧ i = .int .i64 k ∧ nv = .int .i64 (degN L k : Nat) ∧ Below w.heap.size w wr) (fun _ i _ => V - (intOf i).toNat)
  case atStart => exact ⟨0, Nat.zero_le _, rfl, rfl, Below.refl _ _⟩
  case round =>
    obtain ⟨k, hk, rfl, rfl, hb⟩ := hrel
    have BR : Hid (Below w.heap.size w wr) := hb
    clear hb
    by_cases hlt : (k : Int) < (V : Int)
    · have hkV : k < V := by omega
      obtain ⟨dk, HDK⟩ : ∃ m, Hid (degN L k = m) := ⟨_, rfl⟩
      have hdk : dk ≤ k := by rw [← HDK.out]; exact degN_le L k
      rw [HDK.out]
      go_wp2_with fail
      refine (pairsHas_any mb N C x k wr (HM.out.keep BR.out) (wf_of (by omega) (by omega)) (wf_of (by omega) (by omega))).mono ?_
      rintro e w5 ⟨t, rfl, hr, b5⟩
      have hn2 : degN L (k + 1) = dk + (if t then 1 else 0) := by
        have h9 : (k : Int) ∈ L ↔ C x k := by
          rw [← HL.out, setL_mem]
          exact ⟨fun h => h.1, fun h => ⟨h, by omega, by omega⟩⟩
        rw [degN_next, HDK.out]
        cases t
        · rw [if_neg (fun h => by have := hr.2 (h9.1 h); cases this)]; simp
        · rw [if_pos (h9.2 (hr.1 rfl))]; simp
      have HN2 : Hid (degN L (k + 1) = dk + (if t then 1 else 0)) := hn2
      have BR5 : Hid (Below w.heap.size w w5) := Bel.after BR.out b5
      clear hn2 hr b5
      cases t
      · go_wp2_with fail
        go_roundw
        case rel => exact ⟨k + 1, by omega, by simp, by rw [HN2.out]; simp, BR5.out⟩
        case measure => simp [intOf]; omega
      · go_wp2_with fail
        go_roundw
        case rel => exact ⟨k + 1, by omega, by simp, by rw [HN2.out]; simp, BR5.out⟩
        case measure => simp [intOf]; omega
    · have ekn : V = k := by omega
      subst ekn
      go_wp2_with fail
      go_ret
      exact ⟨rfl, BR.out⟩

set_option maxHeartbeats 4000000 in
theorem impl_degree (v : Value) (F : FnD) (z : Int) (w : World) (hF : FnAt w v F) :
    Calls Try.prog 7 #[v, .int .i64 z] w fun e w' => GivesDeg w (degreeOf F z) e w' := by
  have HF : Hid (FnAt w v F) := hF
  obtain ⟨n, HN⟩ : ∃ n, Hid (F.blocks.length = n) := ⟨_, rfl⟩
  obtain ⟨vals, HV⟩ : ∃ x, Hid (F.values = x) := ⟨_, rfl⟩
  obtain ⟨ba, bcap, rfl⟩ := hF.out HN.out HV.out
  clear hF
  obtain ⟨wA, hwA⟩ : ∃ wA, w.alloc (.cells #[.slice ba n bcap, .int .i64 vals] 29) = wA := ⟨_, rfl⟩
  have BA : Hid (Below w.heap.size w wA) := by rw [← hwA]; exact Bel.alloc _ _
  have a0 : wA.cell? ⟨w.heap.size, 0, none⟩ = some (.slice ba n bcap) := by rw [← hwA]; simp [go_sem]
  have a1 : wA.cell? ⟨w.heap.size, 1, none⟩ = some (.int .i64 vals) := by rw [← hwA]; simp [go_sem]
  obtain ⟨R, HR⟩ : ∃ R, Hid (degreeOf F z = R) := ⟨_, rfl⟩
  rw [HR.out]
  go_enter Try.func7, Try.ntmps7
  go_wp2_with fail
  refine (impl_plainOk _ F _ (HF.out.later BA.out)).mono ?_
  rintro e w2 ⟨s, rfl, hs, b2⟩
  have HS : Hid (s = true ↔ FnPlain F) := hs
  have B2 : Hid (Below w.heap.size w w2) := Bel.after BA.out b2
  have c0 := Bel.keeps b2 a0
  have c1 := Bel.keeps b2 a1
  clear hs b2 a0 a1 hwA BA
  cases s
  · have hR : R = -1 := HR.out.symm.trans (degreeOf_no (fun h => by have := HS.out.2 h.1; cases this))
    subst hR
    go_wp2_with fail
    go_ret
    exact ⟨rfl, B2.out⟩
  · have HP : Hid (FnPlain F) := HS.out.1 rfl
    clear HS
    obtain ⟨n', V, hv⟩ := plainV_of HP.out
    have HPV : Hid (PlainV F n' V) := hv
    have evV : vals = (V : Int) := HV.out.symm.trans hv.vals
    have hV8 := hv.v80
    subst evV
    clear hv
    go_wp2_with fail
    refine (valueIn_any _ _ _ _ _ _).mono ?_
    rintro e w3 ⟨rfl, b3⟩
    have B3 : Hid (Below w.heap.size w w3) := Bel.after B2.out b3
    have d0 := Bel.keeps b3 c0
    have d1 := Bel.keeps b3 c1
    obtain ⟨t, HT⟩ : ∃ t, Hid (valIn (V : Int) z = t) := ⟨_, rfl⟩
    rw [HT.out]
    have HTT : Hid (t = true ↔ 0 ≤ z ∧ z < (V : Int)) := by rw [← HT.out]; exact valIn_iff
    clear b3 c0 c1
    cases t
    · have hR : R = -1 := HR.out.symm.trans (degreeOf_no (fun h => by have := HTT.out.2 ⟨h.2.1, by rw [← HV.out]; exact h.2.2⟩; cases this))
      subst hR
      go_wp2_with fail
      go_ret
      exact ⟨rfl, B3.out⟩
    · obtain ⟨hz0, hzV⟩ := HTT.out.1 rfl
      clear HTT
      obtain ⟨x, rfl⟩ : ∃ x : Nat, z = (x : Int) := ⟨z.toNat, by omega⟩
      have hxV : x < V := by omega
      obtain ⟨L, HL⟩ : ∃ L, Hid (setL (Clsh F) x = L) := ⟨_, rfl⟩
      have HR2 : Hid (R = (degN L V : Nat)) := by
        rw [← HL.out]
        exact HR.out.symm.trans (degreeOf_yes HP.out HPV.out hxV)
      go_wp2_with fail
      refine wp_region_held_drew (S := fun w' => w'.cell? ⟨w.heap.size, 0, none⟩ = some (.slice ba n bcap) ∧ w'.cell? ⟨w.heap.size, 1, none⟩ = some (.int .i64 (V : Int))) (by kernel_rfl) ⟨d0, d1⟩ (fun hHeld => ?_)
      obtain ⟨u1, hu1⟩ : ∃ W, w3.drew = W := ⟨_, rfl⟩
      have BD : Hid (Below w.heap.size w u1) := by show Below _ _ _; rw [← hu1]; exact B3.out.drew
      rw [hu1] at hHeld ⊢
      clear hu1 d0 d1 B3
      refine wpAnyH_take (i := 0) (oi := { dst := some 14, op := Go.Op.load 29 (Go.Operand.tmp 2), type := 29, pos := "l12_clash.go:30", after := #[], guard := none }) (v := ?_) rfl (by kernel_rfl) (by kernel_rfl) (by kernel_rfl) (fun _ _ _ h => h) (Or.inl ⟨by rfl, ?_⟩) (by assumption) ?_
      rotate_left
      · intro w hSw
        (try dsimp only at hSw)
        go_simp
        (try with_reducible rfl)
      try simp only [Act.put, List.setIfInBounds_toArray, List.set_cons_zero, List.set_cons_succ]
      refine wpAnyH_take (i := 2) (oi := { dst := some 16, op := Go.Op.move (Go.Operand.tmp 1), type := 3, pos := "l12_clash.go:30", after := #[], guard := none }) (v := ?_) rfl (by kernel_rfl) (by kernel_rfl) (by kernel_rfl) (fun _ _ _ h => h) (Or.inl ⟨by rfl, ?_⟩) (by assumption) ?_
      rotate_left
      · intro w hSw
        (try dsimp only at hSw)
        go_simp
        (try with_reducible rfl)
      try simp only [Act.put, List.setIfInBounds_toArray, List.set_cons_zero, List.set_cons_succ]
      refine wpAnyH_take (i := 3) (oi := { dst := some 17, op := Go.Op.fieldAddr 29 (Go.Operand.tmp 2) 1, type := 0, pos := "l12_clash.go:30", after := #[], guard := none }) (v := ?_) rfl (by kernel_rfl) (by kernel_rfl) (by kernel_rfl) (fun _ _ _ h => h) (Or.inl ⟨by rfl, ?_⟩) (by assumption) ?_
      rotate_left
      · intro w hSw
        (try dsimp only at hSw)
        go_simp
        (try with_reducible rfl)
      try simp only [Act.put, List.setIfInBounds_toArray, List.set_cons_zero, List.set_cons_succ]
      refine wpAnyH_take (i := 4) (oi := { dst := some 18, op := Go.Op.load 3 (Go.Operand.tmp 17), type := 3, pos := "l12_clash.go:30", after := #[{ on := 3, ground := Go.Ground.data }], guard := none }) (v := ?_) rfl (by kernel_rfl) (by kernel_rfl) (by kernel_rfl) (fun _ _ _ h => h) (Or.inl ⟨by rfl, ?_⟩) (by assumption) ?_
      rotate_left
      · intro w hSw
        (try dsimp only at hSw)
        go_simp
        (try with_reducible rfl)
      try simp only [Act.put, List.setIfInBounds_toArray, List.set_cons_zero, List.set_cons_succ]
      refine ckAnyH_oneK (i := 1) (o := { dst := some 15, op := Go.Op.call { callee := Go.Callee.value (Go.Operand.func 16), args := #[Go.Operand.tmp 14], argTypes := #[29] }, type := 42, pos := "l12_clash.go:30", after := #[{ on := 0, ground := Go.Ground.data }], guard := none }) rfl rfl (by kernel_rfl) (fun K9 hK9 => ?_)
      refine wp_call_of (f := 16) (args := #[.agg #[.slice ba n bcap, .int .i64 (V : Int)]]) (by go_simp) (pairsOf_any _ F n' V _ (HF.out.later BD.out) HPV.out (plain24 HP.out)) ?_
      rintro e w4 ⟨mb, N, rfl, hm, b4⟩
      have HM : Hid (MapP w4 mb N (Clsh F)) := hm
      have B4 : Hid (Below w.heap.size w w4) := Bel.after BD.out b4
      have hH4 : w4.cell? ⟨w.heap.size, 0, none⟩ = some (.slice ba n bcap) ∧ w4.cell? ⟨w.heap.size, 1, none⟩ = some (.int .i64 (V : Int)) := ⟨Bel.keeps b4 hHeld.1, Bel.keeps b4 hHeld.2⟩
      refine ⟨_, rfl, hK9 _ _ ⟨hH4, ?_⟩⟩
      (try simp only [Act.put, List.setIfInBounds_toArray, List.set_cons_zero, List.set_cons_succ])
      clear hK9 hHeld hm b4
      refine ckAnyH_oneK (i := 5) (o := { dst := some 19, op := Go.Op.call { callee := Go.Callee.value (Go.Operand.func 17), args := #[Go.Operand.tmp 15, Go.Operand.tmp 16, Go.Operand.tmp 18], argTypes := #[42, 3, 3] }, type := 3, pos := "l12_clash.go:30", after := #[{ on := 1, ground := Go.Ground.data }, { on := 2, ground := Go.Ground.data }, { on := 4, ground := Go.Ground.data }, { on := 1, ground := Go.Ground.chain }], guard := none }) rfl rfl (by kernel_rfl) (fun K9 hK9 => ?_)
      refine wp_call_of (f := 17) (args := #[.map (some mb), .int .i64 (x : Int), .int .i64 (V : Int)]) (by go_simp) (degree_any mb N (Clsh F) x V _ HM.out hxV hV8) ?_
      rintro e w5 ⟨rfl, b5⟩
      have B5 : Hid (Below w.heap.size w w5) := Bel.after B4.out b5
      have hH5 : w5.cell? ⟨w.heap.size, 0, none⟩ = some (.slice ba n bcap) ∧ w5.cell? ⟨w.heap.size, 1, none⟩ = some (.int .i64 (V : Int)) := ⟨Bel.keeps b5 hH4.1, Bel.keeps b5 hH4.2⟩
      refine ⟨_, rfl, hK9 _ _ ⟨hH5, ?_⟩⟩
      (try simp only [Act.put, List.setIfInBounds_toArray, List.set_cons_zero, List.set_cons_succ])
      clear hK9 hH4 b5
      refine wpAnyH_take (i := 6) (oi := { dst := some 4, op := Go.Op.assign (Go.Operand.tmp 19), type := 3, pos := "l12_clash.go:30", after := #[{ on := 5, ground := Go.Ground.data }, { on := 5, ground := Go.Ground.chain }, { on := 0, ground := Go.Ground.phase }, { on := 1, ground := Go.Ground.phase }, { on := 2, ground := Go.Ground.phase }, { on := 3, ground := Go.Ground.phase }, { on := 4, ground := Go.Ground.phase }, { on := 5, ground := Go.Ground.phase }], guard := none }) (v := ?_) rfl (by kernel_rfl) (by kernel_rfl) (by kernel_rfl) (fun _ _ _ h => h) (Or.inl ⟨by rfl, ?_⟩) (by assumption) ?_
      rotate_left
      · intro w hSw
        (try dsimp only at hSw)
        go_simp
        (try with_reducible rfl)
      try simp only [Act.put, List.setIfInBounds_toArray, List.set_cons_zero, List.set_cons_succ]
      refine wpAnyH_done (by kernel_rfl) ?_ _
      simp only [Exit.then]
      go_at_K
      go_wp2_with fail
      go_ret
      rw [HL.out]
      exact ⟨by rw [HR2.out]; rfl, B5.out⟩
end Go.Proofs.Ytjfogpbhacadbaa
