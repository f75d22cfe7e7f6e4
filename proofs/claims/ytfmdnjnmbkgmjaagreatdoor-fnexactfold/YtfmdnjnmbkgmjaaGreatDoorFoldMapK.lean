/- A place is folded. -/
import Derived.Test.YtfmdnjnmbkgmjaaGreatDoorFoldMapAK
namespace Go.Proofs.YtfmdnjnmbkgmjaaGreatDoor
open Go.ChangeShapes Go.WideShapes Go.ChangeAt Go.RowKit
set_option linter.unusedVariables false
set_option maxRecDepth 100000
set_option maxHeartbeats 8000000 in
theorem fold_any (mb : Nat) (K : Kn) (op d a b n : Int) (w : World) (hm : MapN w mb K) (hin : InsIn ⟨op, d, a, b, n⟩) :
    Calls Tryz.prog 102 #[.map (some mb), .agg #[.int .i64 op, .int .i64 d, .int .i64 a, .int .i64 b, .int .i64 n]] w fun e w' => e = .returned (placeW (foldX K ⟨op, d, a, b, n⟩)) ∧ Below w.heap.size w w' := by
  have HM : Hid (MapN w mb K) := hm
  clear hm
  go_enter Tryz.func102, Tryz.ntmps102
  go_wp2_with fail
  obtain ⟨w0, hw0⟩ : ∃ W, (w.alloc (.cells #[.int .i64 op, .int .i64 d, .int .i64 a, .int .i64 b, .int .i64 n] 57)).alloc (.cells #[.int .i64 0, .int .i64 0, .int .i64 0, .int .i64 0, .int .i64 0] 57) = W := ⟨_, rfl⟩
  have hs0 : w0.heap.size = w.heap.size + 2 := by rw [← hw0]; simp
  have B0 : Hid (Below w.heap.size w w0) := by show Below _ _ _; rw [← hw0]; repeat (first | exact Below.refl _ _ | apply Below.drew | refine Below.alloc ?_ (by simp <;> omega) _ | refine Below.setCell ?_ (by simp <;> omega) _)
  have HX0 : Hid (w0.heap[w.heap.size]? = some (.cells #[.int .i64 op, .int .i64 d, .int .i64 a, .int .i64 b, .int .i64 n] 57 (0, 0))) := by
    show _ = _
    rw [← hw0, Below.heap_alloc _ _ _ (by simp)]
    exact World.alloc_heap_new w _
  have HR0 : Hid (w0.heap[w.heap.size + 1]? = some (.cells #[.int .i64 0, .int .i64 0, .int .i64 0, .int .i64 0, .int .i64 0] 57 (0, 0))) := by
    show _ = _
    rw [← hw0]
    have h := World.alloc_heap_new (w.alloc (.cells #[.int .i64 op, .int .i64 d, .int .i64 a, .int .i64 b, .int .i64 n] 57)) (.cells #[.int .i64 0, .int .i64 0, .int .i64 0, .int .i64 0, .int .i64 0] 57)
    rw [World.size_alloc] at h
    exact h
  obtain ⟨X, HXX⟩ : ∃ X, Hid (w.heap.size = X) := ⟨_, rfl⟩
  rw [hw0, HXX.out]
  rw [HXX.out] at HX0 HR0 hs0
  clear hw0
  refine (placeOf_any op d a b n _).mono ?_
  rintro e w1 ⟨rfl, b1⟩
  have B1 : Hid (Below w.heap.size w w1) := Bel.after B0.out b1
  have hs1 : X + 2 ≤ w1.heap.size := by have := b1.size; omega
  have HX1 : Hid (w1.heap[X]? = some (.cells #[.int .i64 op, .int .i64 d, .int .i64 a, .int .i64 b, .int .i64 n] 57 (0, 0))) := (b1.block X (by omega)).trans HX0.out
  have HR1 : Hid (w1.heap[X + 1]? = some (.cells #[.int .i64 0, .int .i64 0, .int .i64 0, .int .i64 0, .int .i64 0] 57 (0, 0))) := (b1.block (X + 1) (by omega)).trans HR0.out
  clear b1
  have x0 : w1.cell? ⟨X, 0, none⟩ = some (.int .i64 op) := by simp [World.cell?, HX1.out]
  have x1 : w1.cell? ⟨X, 1, none⟩ = some (.int .i64 d) := by simp [World.cell?, HX1.out]
  have x2 : w1.cell? ⟨X, 2, none⟩ = some (.int .i64 a) := by simp [World.cell?, HX1.out]
  have x3 : w1.cell? ⟨X, 3, none⟩ = some (.int .i64 b) := by simp [World.cell?, HX1.out]
  have x4 : w1.cell? ⟨X, 4, none⟩ = some (.int .i64 n) := by simp [World.cell?, HX1.out]
  have r0 : w1.cell? ⟨X + 1, 0, none⟩ = some (.int .i64 0) := by simp [World.cell?, HR1.out]
  have r1 : w1.cell? ⟨X + 1, 1, none⟩ = some (.int .i64 0) := by simp [World.cell?, HR1.out]
  have r2 : w1.cell? ⟨X + 1, 2, none⟩ = some (.int .i64 0) := by simp [World.cell?, HR1.out]
  have r3 : w1.cell? ⟨X + 1, 3, none⟩ = some (.int .i64 0) := by simp [World.cell?, HR1.out]
  have r4 : w1.cell? ⟨X + 1, 4, none⟩ = some (.int .i64 0) := by simp [World.cell?, HR1.out]
  have f0 : w1.frozen? ⟨X + 1, 0, none⟩ = false := by simp [World.frozen?, HR1.out]
  have f1 : w1.frozen? ⟨X + 1, 1, none⟩ = false := by simp [World.frozen?, HR1.out]
  have f2 : w1.frozen? ⟨X + 1, 2, none⟩ = false := by simp [World.frozen?, HR1.out]
  have f3 : w1.frozen? ⟨X + 1, 3, none⟩ = false := by simp [World.frozen?, HR1.out]
  have f4 : w1.frozen? ⟨X + 1, 4, none⟩ = false := by simp [World.frozen?, HR1.out]
  have hX1 : X < w1.heap.size := by omega
  have hR1 : X + 1 < w1.heap.size := by omega
  have y0 := wordPlace_yes
  have n0 := wordPlace_no
  have z0 := wordPlace_nil
  by_cases hw : 1 ≤ op ∧ op ≤ 10
  · obtain ⟨hd, ha, hb⟩ := hin.1 hw
    have HPV : Hid (placeV op d a b n = .iface 202 (.agg #[.int .i64 op, .int .i64 d, .int .i64 a, .int .i64 b])) := by
      show _ = _
      simp only [placeV]
      repeat rw [if_neg (by omega)]
      rw [if_pos hw]
    rw [HPV.out]
    obtain ⟨U, D, _, _, _, hown, hh, _⟩ := HM.out.kept (Bel.after B1.out (Bel.alloc w1 (.cells #[.int .i64 op, .int .i64 d, .int .i64 a, .int .i64 b] 202)))
    have HOWN : Hid ((w1.alloc (.cells #[.int .i64 op, .int .i64 d, .int .i64 a, .int .i64 b] 202)).ownsMap Tryz.prog 200 numElem mb 80 D) := hown
    have HKa : Hid (keyOf Tryz.prog 200 (.agg #[.int .i64 0, .int .i64 a]) = some (nk a)) := nk_key ha
    have HKb : Hid (keyOf Tryz.prog 200 (.agg #[.int .i64 0, .int .i64 b]) = some (nk b)) := nk_key hb
    obtain ⟨ta, hta⟩ : ∃ t, (K a).isSome = t := ⟨_, rfl⟩
    obtain ⟨tb, htb⟩ : ∃ t, (K b).isSome = t := ⟨_, rfl⟩
    have HHa : Hid (Maps.has D (nk a) = ta) := (hh a ha).1.trans hta
    have HHb : Hid (Maps.has D (nk b) = tb) := (hh b hb).1.trans htb
    have HVa : Hid (∀ z d0, K a = some z → D.atKey (nk a) d0 = .lit (.int .i64 z)) := (hh a ha).2
    have HVb : Hid (∀ z d0, K b = some z → D.atKey (nk b) d0 = .lit (.int .i64 z)) := (hh b hb).2
    have HTA : Hid ((K a).isSome = ta) := hta
    have HTB : Hid ((K b).isSome = tb) := htb
    have HW : Hid (1 ≤ op ∧ op ≤ 10) := hw
    clear hown hh hta htb n0 z0 hin hd ha hb hw
    by_cases hk : ta = true ∧ tb = true
    · obtain ⟨rfl, rfl⟩ := hk
      obtain ⟨p, HP⟩ : ∃ p, Hid (K a = some p) := Option.isSome_iff_exists.1 HTA.out
      obtain ⟨q, HQ⟩ : ∃ q, Hid (K b = some q) := Option.isSome_iff_exists.1 HTB.out
      have HE : Hid (foldX K ⟨op, d, a, b, n⟩ = ⟨20, d, 0, 0, wordV op p q⟩) := by
        show _ = _
        simp only [foldX]
        rw [if_pos HW.out, HP.out, HQ.out]
      go_wp2_with (first | (at_lookup; refine wpList_lookup_own_ok _ rfl _ _ 76 rfl 200 3 fact_keyed Tryz.underlying76 numElem (zero_int _) (.lit (.int .i64 0)) [] rfl mb 80 D rfl HOWN.out _ _ rfl HKa.out ?_; intro v9 ps9 hv9; obtain ⟨za, hz9, hl9⟩ := numElem_inv hv9; subst hz9; rw [HHa.out]; have e9 : p = za := (by have h9 := hl9.symm.trans (HVa.out p _ HP.out); simpa using h9.symm); subst e9; clear hv9 hl9) | (at_lookup; refine wpList_lookup_own_ok _ rfl _ _ 76 rfl 200 3 fact_keyed Tryz.underlying76 numElem (zero_int _) (.lit (.int .i64 0)) [] rfl mb 80 D rfl HOWN.out _ _ rfl HKb.out ?_; intro v9 ps9 hv9; obtain ⟨zb, hz9, hl9⟩ := numElem_inv hv9; subst hz9; rw [HHb.out]; have e9 : q = zb := (by have h9 := hl9.symm.trans (HVb.out q _ HQ.out); simpa using h9.symm); subst e9; clear hv9 hl9))
      obtain ⟨w2, hw2⟩ : ∃ W, w1.alloc (.cells #[.int .i64 op, .int .i64 d, .int .i64 a, .int .i64 b] 202) = W := ⟨_, rfl⟩
      have B2 : Hid (Below w1.heap.size w1 w2) := by show Below _ _ _; rw [← hw2]; exact Bel.alloc _ _
      obtain ⟨PX, hPX⟩ : ∃ x, w1.heap.size = x := ⟨_, rfl⟩
      have p0 : w2.cell? ⟨PX, 0, none⟩ = some (.int .i64 op) := by rw [← hw2, ← hPX]; simp [go_sem]
      have p1 : w2.cell? ⟨PX, 1, none⟩ = some (.int .i64 d) := by rw [← hw2, ← hPX]; simp [go_sem]
      have HR2 : Hid (w2.heap[X + 1]? = some (.cells #[.int .i64 0, .int .i64 0, .int .i64 0, .int .i64 0, .int .i64 0] 57 (0, 0))) := (B2.out.block (X + 1) hR1).trans HR1.out
      rw [hw2, hPX]
      clear hw2 x0 x1 x2 x3 x4 r0 r1 r2 r3 r4 f0 f1 f2 f3 f4
      have hSS : ∀ w', Below w2.heap.size w2 w' → w'.cell? ⟨PX, 0, none⟩ = some (.int .i64 op) ∧ w'.cell? ⟨PX, 1, none⟩ = some (.int .i64 d) := fun w' hb => ⟨Bel.keeps hb p0, Bel.keeps hb p1⟩
      refine wp_noThrow (wp_region_held_drew (S := fun w' => w'.cell? ⟨PX, 0, none⟩ = some (.int .i64 op) ∧ w'.cell? ⟨PX, 1, none⟩ = some (.int .i64 d)) (by kernel_rfl) ⟨p0, p1⟩ (fun hHeld => ?_))
      refine wpAnyH_take (i := 0) (oi := { dst := some 43, op := Go.Op.fieldAddr 202 (Go.Operand.tmp 5) 1, type := 0, pos := "l07_small.go:103", after := #[], guard := none }) (v := ?_) rfl (by kernel_rfl) (by kernel_rfl) (by kernel_rfl) (fun _ _ _ h => h) (Or.inl ⟨by rfl, ?_⟩) (by assumption) ?_
      rotate_left
      · intro w hSw
        (try dsimp only at hSw)
        go_simp
        (try with_reducible rfl)
      try simp only [Act.put, List.setIfInBounds_toArray, List.set_cons_zero, List.set_cons_succ]
      refine wpAnyH_take (i := 1) (oi := { dst := some 44, op := Go.Op.load 3 (Go.Operand.tmp 43), type := 3, pos := "l07_small.go:103", after := #[{ on := 0, ground := Go.Ground.data }], guard := none }) (v := ?_) rfl (by kernel_rfl) (by kernel_rfl) (by kernel_rfl) (fun _ _ _ h => h) (Or.inl ⟨by rfl, ?_⟩) (by assumption) ?_
      rotate_left
      · intro w hSw
        (try dsimp only at hSw)
        go_simp
        (try with_reducible rfl)
      try simp only [Act.put, List.setIfInBounds_toArray, List.set_cons_zero, List.set_cons_succ]
      refine wpAnyH_take (i := 2) (oi := { dst := some 45, op := Go.Op.fieldAddr 202 (Go.Operand.tmp 5) 0, type := 0, pos := "l07_small.go:103", after := #[], guard := none }) (v := ?_) rfl (by kernel_rfl) (by kernel_rfl) (by kernel_rfl) (fun _ _ _ h => h) (Or.inl ⟨by rfl, ?_⟩) (by assumption) ?_
      rotate_left
      · intro w hSw
        (try dsimp only at hSw)
        go_simp
        (try with_reducible rfl)
      try simp only [Act.put, List.setIfInBounds_toArray, List.set_cons_zero, List.set_cons_succ]
      refine wpAnyH_take (i := 3) (oi := { dst := some 46, op := Go.Op.load 3 (Go.Operand.tmp 45), type := 3, pos := "l07_small.go:103", after := #[{ on := 2, ground := Go.Ground.data }], guard := none }) (v := ?_) rfl (by kernel_rfl) (by kernel_rfl) (by kernel_rfl) (fun _ _ _ h => h) (Or.inl ⟨by rfl, ?_⟩) (by assumption) ?_
      rotate_left
      · intro w hSw
        (try dsimp only at hSw)
        go_simp
        (try with_reducible rfl)
      try simp only [Act.put, List.setIfInBounds_toArray, List.set_cons_zero, List.set_cons_succ]
      refine wpAnyH_take (i := 4) (oi := { dst := some 47, op := Go.Op.move (Go.Operand.tmp 7), type := 3, pos := "l07_small.go:103", after := #[], guard := none }) (v := ?_) rfl (by kernel_rfl) (by kernel_rfl) (by kernel_rfl) (fun _ _ _ h => h) (Or.inl ⟨by rfl, ?_⟩) (by assumption) ?_
      rotate_left
      · intro w hSw
        (try dsimp only at hSw)
        go_simp
        (try with_reducible rfl)
      try simp only [Act.put, List.setIfInBounds_toArray, List.set_cons_zero, List.set_cons_succ]
      refine wpAnyH_take (i := 5) (oi := { dst := some 48, op := Go.Op.move (Go.Operand.tmp 9), type := 3, pos := "l07_small.go:103", after := #[], guard := none }) (v := ?_) rfl (by kernel_rfl) (by kernel_rfl) (by kernel_rfl) (fun _ _ _ h => h) (Or.inl ⟨by rfl, ?_⟩) (by assumption) ?_
      rotate_left
      · intro w hSw
        (try dsimp only at hSw)
        go_simp
        (try with_reducible rfl)
      try simp only [Act.put, List.setIfInBounds_toArray, List.set_cons_zero, List.set_cons_succ]
      refine ckAnyH_oneK (i := 6) (o := { dst := some 49, op := Go.Op.call { callee := Go.Callee.value (Go.Operand.func 166), args := #[Go.Operand.tmp 46, Go.Operand.tmp 47, Go.Operand.tmp 48], argTypes := #[3, 3, 3] }, type := 3, pos := "l07_small.go:103", after := #[{ on := 3, ground := Go.Ground.data }, { on := 4, ground := Go.Ground.data }, { on := 5, ground := Go.Ground.data }], guard := none }) rfl rfl (by kernel_rfl) (fun K9 hK9 => ?_)
      refine wp_call_of (f := 166) (args := #[.int .i64 op, .int .i64 p, .int .i64 q]) (by go_simp) (impl_word op p q _) ?_
      rintro e w8 ⟨rfl, q8⟩
      have B8 : Hid (Below w2.heap.size w2 w8) := Bel.after ((Below.refl _ _).drew) q8.2
      obtain ⟨R, HR⟩ : ∃ R, Hid (wordV op p q = R) := ⟨_, rfl⟩
      rw [HR.out] at HE ⊢
      refine ⟨_, rfl, ?_⟩
      refine hK9 _ _ ⟨hSS _ B8.out, ?_⟩
      try simp only [Act.put, List.setIfInBounds_toArray, List.set_cons_zero, List.set_cons_succ]
      have hH8 := hSS _ B8.out
      clear hK9 q8 hHeld
      refine wpAnyH_take (i := 7) (oi := { dst := some 50, op := Go.Op.build 211 #[(0, Go.Operand.tmp 44), (1, Go.Operand.tmp 49)], type := 211, pos := "l07_small.go:103", after := #[{ on := 1, ground := Go.Ground.data }, { on := 6, ground := Go.Ground.data }], guard := none }) (v := ?_) rfl (by kernel_rfl) (by kernel_rfl) (by kernel_rfl) (fun _ _ _ h => h) (Or.inl ⟨by rfl, ?_⟩) (by assumption) ?_
      rotate_left
      · intro w hSw
        (try dsimp only at hSw)
        go_simp
        (try with_reducible rfl)
      try simp only [Act.put, List.setIfInBounds_toArray, List.set_cons_zero, List.set_cons_succ]
      refine ckAnyH_oneK (i := 8) (o := { dst := some 51, op := Go.Op.call { callee := Go.Callee.value (Go.Operand.func 167), args := #[Go.Operand.tmp 50], argTypes := #[211] }, type := 57, pos := "l07_small.go:103", after := #[{ on := 7, ground := Go.Ground.data }, { on := 6, ground := Go.Ground.chain }], guard := none }) rfl rfl (by kernel_rfl) (fun K9 hK9 => ?_)
      refine wp_call_of (f := 167) (args := #[.agg #[.int .i64 d, .int .i64 R]]) (by go_simp) (constPlace_ins d R _) ?_
      rintro e w9 ⟨rfl, b9⟩
      have B9 : Hid (Below w2.heap.size w2 w9) := Bel.after B8.out b9
      refine ⟨_, rfl, ?_⟩
      refine hK9 _ _ ⟨hSS _ B9.out, ?_⟩
      try simp only [Act.put, List.setIfInBounds_toArray, List.set_cons_zero, List.set_cons_succ]
      clear hK9 b9 hH8
      have hR9 : w9.heap[X + 1]? = _ := (B9.out.block (X + 1) (Array.getElem?_eq_some_iff.1 HR2.out).1).trans HR2.out
      have hsB := B2.out.size
      have r0 : w9.cell? ⟨X + 1, 0, none⟩ = some (.int .i64 0) := by simp [World.cell?, hR9]
      have r1 : w9.cell? ⟨X + 1, 1, none⟩ = some (.int .i64 0) := by simp [World.cell?, hR9]
      have r2 : w9.cell? ⟨X + 1, 2, none⟩ = some (.int .i64 0) := by simp [World.cell?, hR9]
      have r3 : w9.cell? ⟨X + 1, 3, none⟩ = some (.int .i64 0) := by simp [World.cell?, hR9]
      have r4 : w9.cell? ⟨X + 1, 4, none⟩ = some (.int .i64 0) := by simp [World.cell?, hR9]
      have f0 : w9.frozen? ⟨X + 1, 0, none⟩ = false := by simp [World.frozen?, hR9]
      have f1 : w9.frozen? ⟨X + 1, 1, none⟩ = false := by simp [World.frozen?, hR9]
      have f2 : w9.frozen? ⟨X + 1, 2, none⟩ = false := by simp [World.frozen?, hR9]
      have f3 : w9.frozen? ⟨X + 1, 3, none⟩ = false := by simp [World.frozen?, hR9]
      have f4 : w9.frozen? ⟨X + 1, 4, none⟩ = false := by simp [World.frozen?, hR9]
      have BF : Hid (Below w.heap.size w (putIns w9 (X + 1) 0 ⟨20, d, 0, 0, R⟩)) := by
        show Below _ _ _
        have h9 : Below w.heap.size w w9 := Bel.after B1.out (Bel.after B2.out B9.out)
        have hx : w.heap.size ≤ X + 1 := by have := HXX.out; omega
        exact ((((h9.setCell (p := ⟨X + 1, 0, none⟩) hx _).setCell (p := ⟨X + 1, 0 + 1, none⟩) hx _).setCell (p := ⟨X + 1, 0 + 2, none⟩) hx _).setCell (p := ⟨X + 1, 0 + 3, none⟩) hx _).setCell (p := ⟨X + 1, 0 + 4, none⟩) hx _
      have PF : Hid (InsAt (putIns w9 (X + 1) 0 ⟨20, d, 0, 0, R⟩) (X + 1) 0 ⟨20, d, 0, 0, R⟩) := putIns_at (x := ⟨0, 0, 0, 0, 0⟩) ⟨r0, r1, r2, r3, r4⟩ _
      have hPXX : X + 1 < PX := by omega
      have hS9 := hSS _ B9.out
      have hne : ∀ c o, (⟨X + 1, c, none⟩ : Addr) ≠ ⟨PX, o, none⟩ := fun c o e => by have := congrArg Addr.block e; simp at this; omega
      refine ckAnyH_oneK (i := 9) (o := { dst := none, op := Go.Op.store 57 (Go.Operand.tmp 4) (Go.Operand.tmp 51), type := 0, pos := "l07_small.go:103", after := #[{ on := 8, ground := Go.Ground.data }, { on := 8, ground := Go.Ground.chain }, { on := 0, ground := Go.Ground.phase }, { on := 1, ground := Go.Ground.phase }, { on := 2, ground := Go.Ground.phase }, { on := 3, ground := Go.Ground.phase }, { on := 4, ground := Go.Ground.phase }, { on := 5, ground := Go.Ground.phase }, { on := 6, ground := Go.Ground.phase }, { on := 7, ground := Go.Ground.phase }, { on := 8, ground := Go.Ground.phase }], guard := none }) rfl rfl (by kernel_rfl) (fun K9 hK9 => ?_)
      refine wp_skips (w' := putIns w9 (X + 1) 0 ⟨20, d, 0, 0, R⟩) (by simp [execOp, go_sem, putIns, r0, r1, r2, r3, r4, f0, f1, f2, f3, f4]) (hK9 _ _ ⟨⟨?_, ?_⟩, ?_⟩)
      · exact (cell_same (putIns_other (by omega)) _).trans hS9.1
      · exact (cell_same (putIns_other (by omega)) _).trans hS9.2
      clear hK9 hS9 r0 r1 r2 r3 r4 f0 f1 f2 f3 f4
      refine wpAnyH_done (by kernel_rfl) ?_ _
      simp only [noThrow, Exit.then]
      obtain ⟨w10, hw10⟩ : ∃ W, putIns w9 (X + 1) 0 ⟨20, d, 0, 0, R⟩ = W := ⟨_, rfl⟩
      rw [hw10] at BF PF ⊢
      obtain ⟨t0, t1, t2, t3, t4⟩ := PF.out
      go_at_K
      go_wp2_with fail
      refine bodyPost_ret (v := .agg #[.int .i64 20, .int .i64 d, .int .i64 0, .int .i64 0, .int .i64 R]) (by simp [results, Tryz.results102, go_sem, t0, t1, t2, t3, t4]) rfl ?_
      rw [HE.out]
      exact ⟨rfl, BF.out⟩
    · have HE : Hid (foldX K ⟨op, d, a, b, n⟩ = ⟨op, d, a, b, n⟩) := by
        show _ = _
        simp only [foldX]
        rw [if_pos HW.out]
        have h1 := HTA.out
        have h2 := HTB.out
        cases hka : K a with
        | none => rfl
        | some p =>
          cases hkb : K b with
          | none => rfl
          | some q =>
            rw [hka] at h1
            rw [hkb] at h2
            exact absurd ⟨h1.symm, h2.symm⟩ hk
      have hcs : (ta = true ∧ tb = false) ∨ (ta = false ∧ tb = true) ∨ (ta = false ∧ tb = false) := by
        cases ta <;> cases tb <;> simp_all
      clear hk
      have HAT : Hid (InsAt (w1.alloc (.cells #[.int .i64 op, .int .i64 d, .int .i64 a, .int .i64 b] 202)) (X + 1) 0 ⟨0, 0, 0, 0, 0⟩) := insAt_alloc ⟨r0, r1, r2, r3, r4⟩ _
      have HFZ : Hid (∀ j, (w1.alloc (.cells #[.int .i64 op, .int .i64 d, .int .i64 a, .int .i64 b] 202)).frozen? ⟨X + 1, j, none⟩ = false) := fun j => (frozen?_alloc_cells _ _ _ _).trans (by simp [World.frozen?, HR1.out])
      clear r0 r1 r2 r3 r4 f0 f1 f2 f3 f4 hs0 hs1 HX0 HR0 HX1 HR1 B0
      rcases hcs with ⟨rfl, rfl⟩ | ⟨rfl, rfl⟩ | ⟨rfl, rfl⟩
      all_goals
        go_wp2_with (first | (refine wpList_store_ins (op := { dst := none, op := Op.store 57 (Operand.tmp 4) (Operand.tmp 42), type := 0, pos := _, after := _, guard := none }) rfl (Operand.tmp 4) (Operand.tmp 42) rfl (X + 1) 0 op d a b n rfl rfl (z := ⟨0, 0, 0, 0, 0⟩) HAT.out HFZ.out ?_; obtain ⟨w9, hw9⟩ : ∃ W, putIns (w1.alloc (.cells #[.int .i64 op, .int .i64 d, .int .i64 a, .int .i64 b] 202)) (X + 1) 0 ⟨op, d, a, b, n⟩ = W := ⟨_, rfl⟩; have HW9 : Hid (putIns (w1.alloc (.cells #[.int .i64 op, .int .i64 d, .int .i64 a, .int .i64 b] 202)) (X + 1) 0 ⟨op, d, a, b, n⟩ = w9) := hw9; rw [hw9]; clear hw9) | (at_lookup; refine wpList_lookup_own_ok _ rfl _ _ 76 rfl 200 3 fact_keyed Tryz.underlying76 numElem (zero_int _) (.lit (.int .i64 0)) [] rfl mb 80 D rfl HOWN.out _ _ rfl HKa.out ?_; intro v9 ps9 hv9; obtain ⟨za, hz9, hl9⟩ := numElem_inv hv9; subst hz9; rw [HHa.out]; clear hv9 hl9) | (at_lookup; refine wpList_lookup_own_ok _ rfl _ _ 76 rfl 200 3 fact_keyed Tryz.underlying76 numElem (zero_int _) (.lit (.int .i64 0)) [] rfl mb 80 D rfl HOWN.out _ _ rfl HKb.out ?_; intro v9 ps9 hv9; obtain ⟨zb, hz9, hl9⟩ := numElem_inv hv9; subst hz9; rw [HHb.out]; clear hv9 hl9))
        have BF : Hid (Below w.heap.size w w9) := by show Below _ _ _; rw [← HW9.out]; exact putIns_below (Bel.after B1.out (Bel.alloc _ _)) (by have := HXX.out; omega) _ _
        have PF : Hid (InsAt w9 (X + 1) 0 ⟨op, d, a, b, n⟩) := by show InsAt _ _ _ _; rw [← HW9.out]; exact putIns_at HAT.out _
        obtain ⟨t0, t1, t2, t3, t4⟩ := PF.out
        refine bodyPost_ret (v := .agg #[.int .i64 op, .int .i64 d, .int .i64 a, .int .i64 b, .int .i64 n]) (by simp [results, Tryz.results102, go_sem, t0, t1, t2, t3, t4]) rfl ?_
        rw [HE.out]
        exact ⟨rfl, BF.out⟩
  · have HE : Hid (foldX K ⟨op, d, a, b, n⟩ = ⟨op, d, a, b, n⟩) := by
      show _ = _
      simp only [foldX]
      rw [if_neg hw]
    clear hin
    have HPC : (∃ t v, placeV op d a b n = .iface t v ∧ t ≠ 202) ∨ placeV op d a b n = .nilIface := by
      simp only [placeV]
      by_cases q0 : op = 20
      · rw [if_pos q0]; exact .inl ⟨_, _, rfl, by decide⟩
      rw [if_neg q0]
      by_cases q1 : op = 21
      · rw [if_pos q1]; exact .inl ⟨_, _, rfl, by decide⟩
      rw [if_neg q1]
      by_cases q2 : op = 22
      · rw [if_pos q2]; exact .inl ⟨_, _, rfl, by decide⟩
      rw [if_neg q2]
      by_cases q3 : op = 23
      · rw [if_pos q3]; exact .inl ⟨_, _, rfl, by decide⟩
      rw [if_neg q3]
      by_cases q4 : op = 24
      · rw [if_pos q4]; exact .inl ⟨_, _, rfl, by decide⟩
      rw [if_neg q4]
      by_cases q5 : op = 25
      · rw [if_pos q5]; exact .inl ⟨_, _, rfl, by decide⟩
      rw [if_neg q5, if_neg hw]
      exact .inr rfl
    clear hw
    have HAT : Hid (InsAt (w1.alloc (.cells #[.int .i64 0, .int .i64 0, .int .i64 0, .int .i64 0] 202)) (X + 1) 0 ⟨0, 0, 0, 0, 0⟩) := insAt_alloc ⟨r0, r1, r2, r3, r4⟩ _
    have HFZ : Hid (∀ j, (w1.alloc (.cells #[.int .i64 0, .int .i64 0, .int .i64 0, .int .i64 0] 202)).frozen? ⟨X + 1, j, none⟩ = false) := fun j => (frozen?_alloc_cells _ _ _ _).trans (by simp [World.frozen?, HR1.out])
    clear r0 r1 r2 r3 r4 f0 f1 f2 f3 f4 hs0 hs1 HX0 HR0 HX1 HR1 B0
    rcases HPC with ⟨t, v, hpv, hne⟩ | hpv
    · rw [hpv]
      clear hpv
      have n9 := fun w => wordPlace_no t v w hne
      clear hne n0 y0 z0
      go_wp2_with (refine wpList_store_ins (op := { dst := none, op := Op.store 57 (Operand.tmp 4) (Operand.tmp 19), type := 0, pos := _, after := _, guard := none }) rfl (Operand.tmp 4) (Operand.tmp 19) rfl (X + 1) 0 op d a b n rfl rfl (z := ⟨0, 0, 0, 0, 0⟩) HAT.out HFZ.out ?_; obtain ⟨w9, hw9⟩ : ∃ W, putIns (w1.alloc (.cells #[.int .i64 0, .int .i64 0, .int .i64 0, .int .i64 0] 202)) (X + 1) 0 ⟨op, d, a, b, n⟩ = W := ⟨_, rfl⟩; have HW9 : Hid (putIns (w1.alloc (.cells #[.int .i64 0, .int .i64 0, .int .i64 0, .int .i64 0] 202)) (X + 1) 0 ⟨op, d, a, b, n⟩ = w9) := hw9; rw [hw9]; clear hw9)
      have BF : Hid (Below w.heap.size w w9) := by show Below _ _ _; rw [← HW9.out]; exact putIns_below (Bel.after B1.out (Bel.alloc _ _)) (by have := HXX.out; omega) _ _
      have PF : Hid (InsAt w9 (X + 1) 0 ⟨op, d, a, b, n⟩) := by show InsAt _ _ _ _; rw [← HW9.out]; exact putIns_at HAT.out _
      obtain ⟨t0, t1, t2, t3, t4⟩ := PF.out
      refine bodyPost_ret (v := .agg #[.int .i64 op, .int .i64 d, .int .i64 a, .int .i64 b, .int .i64 n]) (by simp [results, Tryz.results102, go_sem, t0, t1, t2, t3, t4]) rfl ?_
      rw [HE.out]
      exact ⟨rfl, BF.out⟩
    · rw [hpv]
      clear hpv y0 n0
      go_wp2_with (refine wpList_store_ins (op := { dst := none, op := Op.store 57 (Operand.tmp 4) (Operand.tmp 19), type := 0, pos := _, after := _, guard := none }) rfl (Operand.tmp 4) (Operand.tmp 19) rfl (X + 1) 0 op d a b n rfl rfl (z := ⟨0, 0, 0, 0, 0⟩) HAT.out HFZ.out ?_; obtain ⟨w9, hw9⟩ : ∃ W, putIns (w1.alloc (.cells #[.int .i64 0, .int .i64 0, .int .i64 0, .int .i64 0] 202)) (X + 1) 0 ⟨op, d, a, b, n⟩ = W := ⟨_, rfl⟩; have HW9 : Hid (putIns (w1.alloc (.cells #[.int .i64 0, .int .i64 0, .int .i64 0, .int .i64 0] 202)) (X + 1) 0 ⟨op, d, a, b, n⟩ = w9) := hw9; rw [hw9]; clear hw9)
      have BF : Hid (Below w.heap.size w w9) := by show Below _ _ _; rw [← HW9.out]; exact putIns_below (Bel.after B1.out (Bel.alloc _ _)) (by have := HXX.out; omega) _ _
      have PF : Hid (InsAt w9 (X + 1) 0 ⟨op, d, a, b, n⟩) := by show InsAt _ _ _ _; rw [← HW9.out]; exact putIns_at HAT.out _
      obtain ⟨t0, t1, t2, t3, t4⟩ := PF.out
      refine bodyPost_ret (v := .agg #[.int .i64 op, .int .i64 d, .int .i64 a, .int .i64 b, .int .i64 n]) (by simp [results, Tryz.results102, go_sem, t0, t1, t2, t3, t4]) rfl ?_
      rw [HE.out]
      exact ⟨rfl, BF.out⟩
end Go.Proofs.YtfmdnjnmbkgmjaaGreatDoor
