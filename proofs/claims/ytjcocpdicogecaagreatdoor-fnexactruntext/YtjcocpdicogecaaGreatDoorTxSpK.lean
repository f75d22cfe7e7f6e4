/- The model's lines of steps. -/
import Derived.Test.YtjcocpdicogecaaGreatDoorKTx1
import Derived.Test.YtjcocpdicogecaaGreatDoorKDef
import Derived.Test.YtjcocpdicogecaaGreatDoorKOwn
namespace Go.Proofs.YtjcocpdicogecaaGreatDoor
open Go.ChangeShapes Go.WideShapes Go.ChangeAt Go.RowKit
set_option linter.unusedVariables false

theorem lineX_1 (d a b n : Int) : lineX ⟨1, d, a, b, n⟩ = [115, 101, 116] ++ (32 :: 114 :: Lib.itoa d) ++ [32] ++ Lib.itoa n := by simp [lineX, fieldsX, formV, formAt, tailX, piece, letL, opNm]
theorem lineX_2 (d a b n : Int) : lineX ⟨2, d, a, b, n⟩ = [109, 111, 118, 101] ++ (32 :: 114 :: Lib.itoa d) ++ (32 :: 114 :: Lib.itoa a) := by simp [lineX, fieldsX, formV, formAt, tailX, piece, letL, opNm]
theorem lineX_3 (d a b n : Int) : lineX ⟨3, d, a, b, n⟩ = [103, 101, 116] ++ (32 :: 114 :: Lib.itoa d) ++ [32, 115] ++ Lib.itoa n := by simp [lineX, fieldsX, formV, formAt, tailX, piece, letL, opNm]
theorem lineX_4 (d a b n : Int) : lineX ⟨4, d, a, b, n⟩ = [112, 117, 116, 32, 115] ++ Lib.itoa n ++ (32 :: 114 :: Lib.itoa a) := by simp [lineX, fieldsX, formV, formAt, tailX, piece, letL, opNm]
theorem lineX_5 (d a b n : Int) : lineX ⟨5, d, a, b, n⟩ = [108, 111, 97, 100] ++ (32 :: 114 :: Lib.itoa d) ++ (32 :: 114 :: Lib.itoa a) := by simp [lineX, fieldsX, formV, formAt, tailX, piece, letL, opNm]
theorem lineX_6 (d a b n : Int) : lineX ⟨6, d, a, b, n⟩ = [115, 116, 111, 114, 101] ++ (32 :: 114 :: Lib.itoa a) ++ (32 :: 114 :: Lib.itoa b) := by simp [lineX, fieldsX, formV, formAt, tailX, piece, letL, opNm]
theorem lineX_7 (d a b n : Int) : lineX ⟨7, d, a, b, n⟩ = [111, 117, 116] ++ (32 :: 114 :: Lib.itoa a) := by simp [lineX, fieldsX, formV, formAt, tailX, piece, letL, opNm]
theorem lineX_8 (d a b n : Int) : lineX ⟨8, d, a, b, n⟩ = [114, 101, 97, 100] ++ (32 :: 114 :: Lib.itoa d) := by simp [lineX, fieldsX, formV, formAt, tailX, piece, letL, opNm]
theorem lineX_9 (d a b n : Int) : lineX ⟨9, d, a, b, n⟩ = [106, 117, 109, 112, 32] ++ Lib.itoa n := by simp [lineX, fieldsX, formV, formAt, tailX, piece, letL, opNm]
theorem lineX_10 (d a b n : Int) : lineX ⟨10, d, a, b, n⟩ = [122, 101, 114, 111] ++ (32 :: 114 :: Lib.itoa a) ++ [32] ++ Lib.itoa n := by simp [lineX, fieldsX, formV, formAt, tailX, piece, letL, opNm]
theorem lineX_11 (d a b n : Int) : lineX ⟨11, d, a, b, n⟩ = [101, 110, 100] ++ (32 :: 114 :: Lib.itoa a) := by simp [lineX, fieldsX, formV, formAt, tailX, piece, letL, opNm]
theorem lineX_w {op : Int} (h1 : 12 ≤ op) (h2 : op ≤ 21) (d a b n : Int) : lineX ⟨op, d, a, b, n⟩ = opNm op.toNat ++ (32 :: 114 :: Lib.itoa d) ++ (32 :: 114 :: Lib.itoa a) ++ (32 :: 114 :: Lib.itoa b) := by
  unfold lineX fieldsX
  dsimp only
  rw [formV_word h1 h2, if_neg (by omega)]
  simp [tailX, piece, letL]
theorem txt_of {v : ByteArray} {l : List UInt8} (h : v.data.toList = l) : Ending.returned (.string v) = .returned (.string (bs l)) := by
  subst h
  rw [bs_of]
theorem opNm_len (k : Nat) : (opNm k).length ≤ 5 := by
  unfold opNm
  split <;> simp

set_option maxRecDepth 100000 in
theorem l17R_any (n : Int) (w : World) (hr : -9223372036854775808 ≤ n ∧ n ≤ 9223372036854775807) :
    Calls Tryz.prog 43 #[.int .i64 n] w fun e w' => GivesTxt w (32 :: 114 :: Lib.itoa n) e w' := by
  have hl := Lib.itoa_length_le n hr.1 hr.2
  obtain ⟨t, HT⟩ : ∃ t, Hid (Lib.itoa n = t) := ⟨_, rfl⟩
  rw [HT.out] at hl ⊢
  have hw : ¬ 9223372036854775807 < 2 + (bs t).size := by rw [bs_size]; omega
  go_enter Tryz.func43, Tryz.ntmps43
  go_wp2_with fail
  refine (l17Digits_any n _ hr).mono ?_
  rw [HT.out]
  rintro e w1 ⟨rfl, b1⟩
  go_wp2
  refine bodyPost_ret (v := .string (bs (32 :: 114 :: t))) (by simp [results, Tryz.results43, go_sem]; rw [show (⟨#[32, 114]⟩ : ByteArray) = bs [32, 114] from rfl, bs_app]; rfl) rfl ?_
  exact ⟨rfl, b1⟩

theorem l1Names_any (w : World) : Calls Tryz.prog 60 #[] w fun e w' => ∃ o, e = .returned (.slice (some ⟨w.heap.size, 0, none⟩) 11 11) ∧ w' = w.alloc o ∧ ∀ i : Nat, i < 11 → (w.alloc o).cell? ⟨w.heap.size, i, none⟩ = some (.string (bs (wNm i))) := by
  go_enter Tryz.func60, Tryz.ntmps60
  go_wp2
  go_ret
  refine ⟨_, rfl, rfl, fun i hi => ?_⟩
  have hc : i = 0 ∨ i = 1 ∨ i = 2 ∨ i = 3 ∨ i = 4 ∨ i = 5 ∨ i = 6 ∨ i = 7 ∨ i = 8 ∨ i = 9 ∨ i = 10 := by omega
  rcases hc with rfl | rfl | rfl | rfl | rfl | rfl | rfl | rfl | rfl | rfl | rfl <;> (rw [World.cell?_alloc_new]; rfl)
theorem spec_wordName (k : Nat) (w : World) (h1 : 1 ≤ k) (h2 : k ≤ 10) :
    Calls Tryz.prog 44 #[.int .i64 k] w fun e w' => GivesTxt w (opNm (k + 11)) e w' := by
  have hv : wordOkV (k : Int) = true := by unfold wordOkV; simp; omega
  go_enter Tryz.func44, Tryz.ntmps44
  go_wp2_with fail
  refine (spec_wordOk (k : Int) _).mono ?_
  rintro e w1 ⟨rfl, hw1⟩
  subst hw1
  rw [hv]
  go_wp2_with fail
  refine (l1Names_any _).mono ?_
  rintro e w2 ⟨o, rfl, rfl, hc⟩
  have h9 := hc k (by omega)
  have h8 : wNm k = opNm (k + 11) := by unfold wNm; rw [if_neg (by omega)]
  rw [h8] at h9
  have hk : (k : Int) < 11 := by omega
  go_wp2
  go_ret
  exact ⟨rfl, by repeat (first | exact Below.refl _ _ | apply Below.drew | refine Below.alloc ?_ (by simp <;> omega) _ | refine Below.setCell ?_ (by simp <;> omega) _)⟩

/-- Four texts of a step. -/
def StpQ (w0 : World) (X : Nat) (t0 t1 t2 t3 : List UInt8) (op : Int) (fr : Act) (w' : World) : Prop := True
set_option maxRecDepth 100000 in
set_option maxHeartbeats 8000000 in
theorem spec_stepText (op d a b n : Int) (w : World) (hr : -9223372036854775808 ≤ op ∧ op ≤ 9223372036854775807) (hn : -9223372036854775808 ≤ n ∧ n ≤ 9223372036854775807) :
    Calls Tryz.prog 28 #[.agg #[.int .i64 op, .int .i64 d, .int .i64 a, .int .i64 b, .int .i64 n]] w fun e w' => GivesTxt w (textX ⟨op, d, a, b, n⟩) e w' := by
  obtain ⟨r, HR⟩ : ∃ r, Hid (stepOkB ⟨op, d, a, b, n⟩ 900 = r) := ⟨_, rfl⟩
  have HO : Hid (-9223372036854775808 ≤ op ∧ op ≤ 9223372036854775807) := hr
  have HN : Hid (-9223372036854775808 ≤ n ∧ n ≤ 9223372036854775807) := hn
  obtain ⟨w0, hw0⟩ : ∃ W, w.alloc (.cells #[.int .i64 op, .int .i64 d, .int .i64 a, .int .i64 b, .int .i64 n] 36) = W := ⟨_, rfl⟩
  have HB0 : Hid (Below w.heap.size w w0) := by show Below _ _ _; rw [← hw0]; exact Bel.alloc _ _
  have HX0 : Hid (InsBox w0 w.heap.size op d a b n) := by show InsBox _ _ _ _ _ _ _; rw [← hw0]; exact insBox_new w _ op d a b n
  obtain ⟨T, HTX⟩ : ∃ T, Hid (textX ⟨op, d, a, b, n⟩ = T) := ⟨_, rfl⟩
  rw [HTX.out]
  clear hr hn
  obtain ⟨c0, c1, c2, c3, c4⟩ := HX0.out
  go_enter Tryz.func28, Tryz.ntmps28
  go_wp2_with fail
  try rw [hw0]
  clear hw0 c0 c1 c2 c3 c4
  refine (spec_stepOk op d a b n 900 _ HO.out).mono ?_
  rintro e w1 ⟨rfl, b1⟩
  rw [HR.out]
  have HB1 : Hid (Below w.heap.size w w1) := Bel.after HB0.out b1
  obtain ⟨c0, c1, c2, c3, c4⟩ := HX0.out.keep b1
  clear b1
  cases r with
  | false =>
    obtain rfl : [] = T := by rw [← HTX.out, textX_no HR.out]
    go_wp2
    go_ret
    exact ⟨rfl, HB1.out⟩
  | true =>
    have HLX : Hid (lineX ⟨op, d, a, b, n⟩ = T) := by show _ = _; rw [← HTX.out, textX_line HR.out]
    clear HTX
    have HG := stepOkB_regs HR.out
    obtain ⟨⟨hop1, hop2⟩, _⟩ := stepOkB_parts HR.out
    dsimp only at HG hop1 hop2
    have HD : Hid (0 ≤ d ∧ d ≤ 7) := HG.1
    have HA : Hid (0 ≤ a ∧ a ≤ 7) := HG.2.1
    have HBB : Hid (0 ≤ b ∧ b ≤ 7) := HG.2.2
    have HOP : Hid (1 ≤ op ∧ op ≤ 21) := ⟨hop1, hop2⟩
    clear HG hop1 hop2
    obtain ⟨t0, T0⟩ : ∃ t, Hid (32 :: 114 :: Lib.itoa d = t) := ⟨_, rfl⟩
    obtain ⟨t1, T1⟩ : ∃ t, Hid (32 :: 114 :: Lib.itoa a = t) := ⟨_, rfl⟩
    obtain ⟨t2, T2⟩ : ∃ t, Hid (32 :: 114 :: Lib.itoa b = t) := ⟨_, rfl⟩
    obtain ⟨t3, T3⟩ : ∃ t, Hid (Lib.itoa n = t) := ⟨_, rfl⟩
    have z0 : (bs t0).size ≤ 23 := by rw [bs_size, ← T0.out]; have := Lib.itoa_length_le d (by have := HD.out; omega) (by have := HD.out; omega); simp; omega
    have z1 : (bs t1).size ≤ 23 := by rw [bs_size, ← T1.out]; have := Lib.itoa_length_le a (by have := HA.out; omega) (by have := HA.out; omega); simp; omega
    have z2 : (bs t2).size ≤ 23 := by rw [bs_size, ← T2.out]; have := Lib.itoa_length_le b (by have := HBB.out; omega) (by have := HBB.out; omega); simp; omega
    have z3 : (bs t3).size ≤ 23 := by rw [bs_size, ← T3.out]; have := Lib.itoa_length_le n HN.out.1 HN.out.2; omega
    obtain ⟨X, HXX⟩ : ∃ X, Hid (w.heap.size = X) := ⟨_, rfl⟩
    rw [HXX.out] at c0 c1 c2 c3 c4 HX0 ⊢
    go_wp2_with fail
    refine wp_region_held_drew (S := fun w' => w'.cell? ⟨X, 0, none⟩ = some (.int .i64 op) ∧ w'.cell? ⟨X, 1, none⟩ = some (.int .i64 d) ∧ w'.cell? ⟨X, 2, none⟩ = some (.int .i64 a) ∧ w'.cell? ⟨X, 3, none⟩ = some (.int .i64 b) ∧ w'.cell? ⟨X, 4, none⟩ = some (.int .i64 n)) (by kernel_rfl) ⟨c0, c1, c2, c3, c4⟩ (fun hHeld => ?_)
    clear c0 c1 c2 c3 c4
    have HXd : Hid (InsBox w1.drew X op d a b n) := hHeld
    have HBd : Hid (Below w.heap.size w w1.drew) := HB1.out.drew
    obtain ⟨u1, hu1⟩ : ∃ W, w1.drew = W := ⟨_, rfl⟩
    rw [hu1] at HXd HBd hHeld ⊢
    clear hu1 HB1
    refine wpAnyH_take (i := 0) (oi := { dst := some 10, op := Go.Op.fieldAddr 36 (Go.Operand.tmp 1) 1, type := 0, pos := "l17_text.go:32", after := #[], guard := none }) (v := ?_) rfl (by kernel_rfl) (by kernel_rfl) (by kernel_rfl) (fun _ _ _ h => h) (Or.inl ⟨by rfl, ?_⟩) (by assumption) ?_
    rotate_left
    · intro w hSw
      (try dsimp only at hSw)
      go_simp
      (try with_reducible rfl)
    try simp only [Act.put, List.setIfInBounds_toArray, List.set_cons_zero, List.set_cons_succ]
    refine wpAnyH_take (i := 1) (oi := { dst := some 11, op := Go.Op.load 3 (Go.Operand.tmp 10), type := 3, pos := "l17_text.go:32", after := #[{ on := 0, ground := Go.Ground.data }], guard := none }) (v := ?_) rfl (by kernel_rfl) (by kernel_rfl) (by kernel_rfl) (fun _ _ _ h => h) (Or.inl ⟨by rfl, ?_⟩) (by assumption) ?_
    rotate_left
    · intro w hSw
      (try dsimp only at hSw)
      go_simp
      (try with_reducible rfl)
    try simp only [Act.put, List.setIfInBounds_toArray, List.set_cons_zero, List.set_cons_succ]
    refine wpAnyH_take (i := 3) (oi := { dst := some 13, op := Go.Op.fieldAddr 36 (Go.Operand.tmp 1) 2, type := 0, pos := "l17_text.go:32", after := #[], guard := none }) (v := ?_) rfl (by kernel_rfl) (by kernel_rfl) (by kernel_rfl) (fun _ _ _ h => h) (Or.inl ⟨by rfl, ?_⟩) (by assumption) ?_
    rotate_left
    · intro w hSw
      (try dsimp only at hSw)
      go_simp
      (try with_reducible rfl)
    try simp only [Act.put, List.setIfInBounds_toArray, List.set_cons_zero, List.set_cons_succ]
    refine wpAnyH_take (i := 4) (oi := { dst := some 14, op := Go.Op.load 3 (Go.Operand.tmp 13), type := 3, pos := "l17_text.go:32", after := #[{ on := 3, ground := Go.Ground.data }], guard := none }) (v := ?_) rfl (by kernel_rfl) (by kernel_rfl) (by kernel_rfl) (fun _ _ _ h => h) (Or.inl ⟨by rfl, ?_⟩) (by assumption) ?_
    rotate_left
    · intro w hSw
      (try dsimp only at hSw)
      go_simp
      (try with_reducible rfl)
    try simp only [Act.put, List.setIfInBounds_toArray, List.set_cons_zero, List.set_cons_succ]
    refine wpAnyH_take (i := 6) (oi := { dst := some 16, op := Go.Op.fieldAddr 36 (Go.Operand.tmp 1) 3, type := 0, pos := "l17_text.go:32", after := #[], guard := none }) (v := ?_) rfl (by kernel_rfl) (by kernel_rfl) (by kernel_rfl) (fun _ _ _ h => h) (Or.inl ⟨by rfl, ?_⟩) (by assumption) ?_
    rotate_left
    · intro w hSw
      (try dsimp only at hSw)
      go_simp
      (try with_reducible rfl)
    try simp only [Act.put, List.setIfInBounds_toArray, List.set_cons_zero, List.set_cons_succ]
    refine wpAnyH_take (i := 7) (oi := { dst := some 17, op := Go.Op.load 3 (Go.Operand.tmp 16), type := 3, pos := "l17_text.go:32", after := #[{ on := 6, ground := Go.Ground.data }], guard := none }) (v := ?_) rfl (by kernel_rfl) (by kernel_rfl) (by kernel_rfl) (fun _ _ _ h => h) (Or.inl ⟨by rfl, ?_⟩) (by assumption) ?_
    rotate_left
    · intro w hSw
      (try dsimp only at hSw)
      go_simp
      (try with_reducible rfl)
    try simp only [Act.put, List.setIfInBounds_toArray, List.set_cons_zero, List.set_cons_succ]
    refine wpAnyH_take (i := 9) (oi := { dst := some 19, op := Go.Op.fieldAddr 36 (Go.Operand.tmp 1) 4, type := 0, pos := "l17_text.go:32", after := #[], guard := none }) (v := ?_) rfl (by kernel_rfl) (by kernel_rfl) (by kernel_rfl) (fun _ _ _ h => h) (Or.inl ⟨by rfl, ?_⟩) (by assumption) ?_
    rotate_left
    · intro w hSw
      (try dsimp only at hSw)
      go_simp
      (try with_reducible rfl)
    try simp only [Act.put, List.setIfInBounds_toArray, List.set_cons_zero, List.set_cons_succ]
    refine wpAnyH_take (i := 10) (oi := { dst := some 20, op := Go.Op.load 3 (Go.Operand.tmp 19), type := 3, pos := "l17_text.go:32", after := #[{ on := 9, ground := Go.Ground.data }], guard := none }) (v := ?_) rfl (by kernel_rfl) (by kernel_rfl) (by kernel_rfl) (fun _ _ _ h => h) (Or.inl ⟨by rfl, ?_⟩) (by assumption) ?_
    rotate_left
    · intro w hSw
      (try dsimp only at hSw)
      go_simp
      (try with_reducible rfl)
    try simp only [Act.put, List.setIfInBounds_toArray, List.set_cons_zero, List.set_cons_succ]
    refine ckAnyH_oneK (i := 2) (o := { dst := some 12, op := Go.Op.call { callee := Go.Callee.value (Go.Operand.func 43), args := #[Go.Operand.tmp 11], argTypes := #[3] }, type := 9, pos := "l17_text.go:32", after := #[{ on := 1, ground := Go.Ground.data }], guard := none }) rfl rfl (by kernel_rfl) (fun K9 hK9 => ?_)
    refine wp_call_of (f := 43) (args := #[.int .i64 d]) (by go_simp) (l17R_any d _ (by have := HD.out; omega)) ?_
    rintro e u2 ⟨rfl, b2⟩
    rw [T0.out]
    have HXd2 : Hid (InsBox u2 X op d a b n) := HXd.out.keep b2
    have HBd2 : Hid (Below w.heap.size w u2) := Bel.after HBd.out b2
    refine ⟨_, rfl, hK9 _ _ ⟨HXd2.out, ?_⟩⟩
    (try simp only [Act.put, List.setIfInBounds_toArray, List.set_cons_zero, List.set_cons_succ])
    clear hK9 b2 hHeld
    have hHeld := HXd2.out
    refine ckAnyH_oneK (i := 5) (o := { dst := some 15, op := Go.Op.call { callee := Go.Callee.value (Go.Operand.func 43), args := #[Go.Operand.tmp 14], argTypes := #[3] }, type := 9, pos := "l17_text.go:32", after := #[{ on := 4, ground := Go.Ground.data }, { on := 2, ground := Go.Ground.chain }], guard := none }) rfl rfl (by kernel_rfl) (fun K9 hK9 => ?_)
    refine wp_call_of (f := 43) (args := #[.int .i64 a]) (by go_simp) (l17R_any a _ (by have := HA.out; omega)) ?_
    rintro e u3 ⟨rfl, b3⟩
    rw [T1.out]
    have HXd3 : Hid (InsBox u3 X op d a b n) := HXd2.out.keep b3
    have HBd3 : Hid (Below w.heap.size w u3) := Bel.after HBd2.out b3
    refine ⟨_, rfl, hK9 _ _ ⟨HXd3.out, ?_⟩⟩
    (try simp only [Act.put, List.setIfInBounds_toArray, List.set_cons_zero, List.set_cons_succ])
    clear hK9 b3 hHeld
    have hHeld := HXd3.out
    refine ckAnyH_oneK (i := 8) (o := { dst := some 18, op := Go.Op.call { callee := Go.Callee.value (Go.Operand.func 43), args := #[Go.Operand.tmp 17], argTypes := #[3] }, type := 9, pos := "l17_text.go:32", after := #[{ on := 7, ground := Go.Ground.data }, { on := 5, ground := Go.Ground.chain }], guard := none }) rfl rfl (by kernel_rfl) (fun K9 hK9 => ?_)
    refine wp_call_of (f := 43) (args := #[.int .i64 b]) (by go_simp) (l17R_any b _ (by have := HBB.out; omega)) ?_
    rintro e u4 ⟨rfl, b4⟩
    rw [T2.out]
    have HXd4 : Hid (InsBox u4 X op d a b n) := HXd3.out.keep b4
    have HBd4 : Hid (Below w.heap.size w u4) := Bel.after HBd3.out b4
    refine ⟨_, rfl, hK9 _ _ ⟨HXd4.out, ?_⟩⟩
    (try simp only [Act.put, List.setIfInBounds_toArray, List.set_cons_zero, List.set_cons_succ])
    clear hK9 b4 hHeld
    have hHeld := HXd4.out
    refine ckAnyH_oneK (i := 11) (o := { dst := some 21, op := Go.Op.call { callee := Go.Callee.value (Go.Operand.func 42), args := #[Go.Operand.tmp 20], argTypes := #[3] }, type := 9, pos := "l17_text.go:32", after := #[{ on := 10, ground := Go.Ground.data }, { on := 8, ground := Go.Ground.chain }], guard := none }) rfl rfl (by kernel_rfl) (fun K9 hK9 => ?_)
    refine wp_call_of (f := 42) (args := #[.int .i64 n]) (by go_simp) (l17Digits_any n _ HN.out) ?_
    rintro e u5 ⟨rfl, b5⟩
    rw [T3.out]
    have HXd5 : Hid (InsBox u5 X op d a b n) := HXd4.out.keep b5
    have HBd5 : Hid (Below w.heap.size w u5) := Bel.after HBd4.out b5
    refine ⟨_, rfl, hK9 _ _ ⟨HXd5.out, ?_⟩⟩
    (try simp only [Act.put, List.setIfInBounds_toArray, List.set_cons_zero, List.set_cons_succ])
    clear hK9 b5 hHeld
    have hHeld := HXd5.out
    refine wpAnyH_take (i := 12) (oi := { dst := some 3, op := Go.Op.assign (Go.Operand.tmp 12), type := 9, pos := "l17_text.go:32", after := #[{ on := 2, ground := Go.Ground.data }, { on := 11, ground := Go.Ground.chain }, { on := 0, ground := Go.Ground.phase }, { on := 1, ground := Go.Ground.phase }, { on := 2, ground := Go.Ground.phase }, { on := 3, ground := Go.Ground.textOnly Go.Departure.lateStores }, { on := 4, ground := Go.Ground.textOnly Go.Departure.lateStores }, { on := 5, ground := Go.Ground.textOnly Go.Departure.lateStoresUnsure }, { on := 6, ground := Go.Ground.textOnly Go.Departure.lateStores }, { on := 7, ground := Go.Ground.textOnly Go.Departure.lateStores }, { on := 8, ground := Go.Ground.textOnly Go.Departure.lateStoresUnsure }, { on := 9, ground := Go.Ground.textOnly Go.Departure.lateStores }, { on := 10, ground := Go.Ground.textOnly Go.Departure.lateStores }, { on := 11, ground := Go.Ground.textOnly Go.Departure.lateStoresUnsure }], guard := none }) (v := ?_) rfl (by kernel_rfl) (by kernel_rfl) (by kernel_rfl) (fun _ _ _ h => h) (Or.inl ⟨by rfl, ?_⟩) (by assumption) ?_
    rotate_left
    · intro w hSw
      (try dsimp only at hSw)
      go_simp
      (try with_reducible rfl)
    try simp only [Act.put, List.setIfInBounds_toArray, List.set_cons_zero, List.set_cons_succ]
    refine wpAnyH_take (i := 13) (oi := { dst := some 4, op := Go.Op.assign (Go.Operand.tmp 15), type := 9, pos := "l17_text.go:32", after := #[{ on := 5, ground := Go.Ground.data }, { on := 12, ground := Go.Ground.chain }, { on := 0, ground := Go.Ground.phase }, { on := 1, ground := Go.Ground.phase }, { on := 2, ground := Go.Ground.phase }, { on := 3, ground := Go.Ground.phase }, { on := 4, ground := Go.Ground.phase }, { on := 5, ground := Go.Ground.phase }, { on := 6, ground := Go.Ground.textOnly Go.Departure.lateStores }, { on := 7, ground := Go.Ground.textOnly Go.Departure.lateStores }, { on := 8, ground := Go.Ground.textOnly Go.Departure.lateStoresUnsure }, { on := 9, ground := Go.Ground.textOnly Go.Departure.lateStores }, { on := 10, ground := Go.Ground.textOnly Go.Departure.lateStores }, { on := 11, ground := Go.Ground.textOnly Go.Departure.lateStoresUnsure }, { on := 12, ground := Go.Ground.phase }], guard := none }) (v := ?_) rfl (by kernel_rfl) (by kernel_rfl) (by kernel_rfl) (fun _ _ _ h => h) (Or.inl ⟨by rfl, ?_⟩) (by assumption) ?_
    rotate_left
    · intro w hSw
      (try dsimp only at hSw)
      go_simp
      (try with_reducible rfl)
    try simp only [Act.put, List.setIfInBounds_toArray, List.set_cons_zero, List.set_cons_succ]
    refine wpAnyH_take (i := 14) (oi := { dst := some 5, op := Go.Op.assign (Go.Operand.tmp 18), type := 9, pos := "l17_text.go:32", after := #[{ on := 8, ground := Go.Ground.data }, { on := 13, ground := Go.Ground.chain }, { on := 0, ground := Go.Ground.phase }, { on := 1, ground := Go.Ground.phase }, { on := 2, ground := Go.Ground.phase }, { on := 3, ground := Go.Ground.phase }, { on := 4, ground := Go.Ground.phase }, { on := 5, ground := Go.Ground.phase }, { on := 6, ground := Go.Ground.phase }, { on := 7, ground := Go.Ground.phase }, { on := 8, ground := Go.Ground.phase }, { on := 9, ground := Go.Ground.textOnly Go.Departure.lateStores }, { on := 10, ground := Go.Ground.textOnly Go.Departure.lateStores }, { on := 11, ground := Go.Ground.textOnly Go.Departure.lateStoresUnsure }, { on := 12, ground := Go.Ground.phase }, { on := 13, ground := Go.Ground.phase }], guard := none }) (v := ?_) rfl (by kernel_rfl) (by kernel_rfl) (by kernel_rfl) (fun _ _ _ h => h) (Or.inl ⟨by rfl, ?_⟩) (by assumption) ?_
    rotate_left
    · intro w hSw
      (try dsimp only at hSw)
      go_simp
      (try with_reducible rfl)
    try simp only [Act.put, List.setIfInBounds_toArray, List.set_cons_zero, List.set_cons_succ]
    refine wpAnyH_take (i := 15) (oi := { dst := some 6, op := Go.Op.assign (Go.Operand.tmp 21), type := 9, pos := "l17_text.go:32", after := #[{ on := 11, ground := Go.Ground.data }, { on := 14, ground := Go.Ground.chain }, { on := 0, ground := Go.Ground.phase }, { on := 1, ground := Go.Ground.phase }, { on := 2, ground := Go.Ground.phase }, { on := 3, ground := Go.Ground.phase }, { on := 4, ground := Go.Ground.phase }, { on := 5, ground := Go.Ground.phase }, { on := 6, ground := Go.Ground.phase }, { on := 7, ground := Go.Ground.phase }, { on := 8, ground := Go.Ground.phase }, { on := 9, ground := Go.Ground.phase }, { on := 10, ground := Go.Ground.phase }, { on := 11, ground := Go.Ground.phase }, { on := 12, ground := Go.Ground.phase }, { on := 13, ground := Go.Ground.phase }, { on := 14, ground := Go.Ground.phase }], guard := none }) (v := ?_) rfl (by kernel_rfl) (by kernel_rfl) (by kernel_rfl) (fun _ _ _ h => h) (Or.inl ⟨by rfl, ?_⟩) (by assumption) ?_
    rotate_left
    · intro w hSw
      (try dsimp only at hSw)
      go_simp
      (try with_reducible rfl)
    try simp only [Act.put, List.setIfInBounds_toArray, List.set_cons_zero, List.set_cons_succ]
    refine wpAnyH_done (by kernel_rfl) ?_ _
    simp only [Exit.then]
    obtain ⟨c0, c1, c2, c3, c4⟩ := hHeld
    clear c1 c2 c3 c4
    go_at_K
    rcases op_kinds op with rfl | rfl | rfl | rfl | rfl | rfl | rfl | rfl | rfl | rfl | rfl | ⟨h1, h2⟩ | h
    · go_wp2
      go_ret
      refine ⟨txt_of ?_, HBd5.out⟩
      rw [← HLX.out, lineX_1, T0.out, T3.out]
      simp [bs, ByteArray.data_append]
    · go_wp2
      go_ret
      refine ⟨txt_of ?_, HBd5.out⟩
      rw [← HLX.out, lineX_2, T0.out, T1.out]
      simp [bs, ByteArray.data_append]
    · go_wp2
      go_ret
      refine ⟨txt_of ?_, HBd5.out⟩
      rw [← HLX.out, lineX_3, T0.out, T3.out]
      simp [bs, ByteArray.data_append]
    · go_wp2
      go_ret
      refine ⟨txt_of ?_, HBd5.out⟩
      rw [← HLX.out, lineX_4, T3.out, T1.out]
      simp [bs, ByteArray.data_append]
    · go_wp2
      go_ret
      refine ⟨txt_of ?_, HBd5.out⟩
      rw [← HLX.out, lineX_5, T0.out, T1.out]
      simp [bs, ByteArray.data_append]
    · go_wp2
      go_ret
      refine ⟨txt_of ?_, HBd5.out⟩
      rw [← HLX.out, lineX_6, T1.out, T2.out]
      simp [bs, ByteArray.data_append]
    · go_wp2
      go_ret
      refine ⟨txt_of ?_, HBd5.out⟩
      rw [← HLX.out, lineX_7, T1.out]
      simp [bs, ByteArray.data_append]
    · go_wp2
      go_ret
      refine ⟨txt_of ?_, HBd5.out⟩
      rw [← HLX.out, lineX_8, T0.out]
      simp [bs, ByteArray.data_append]
    · go_wp2
      go_ret
      refine ⟨txt_of ?_, HBd5.out⟩
      rw [← HLX.out, lineX_9, T3.out]
      simp [bs, ByteArray.data_append]
    · go_wp2
      go_ret
      refine ⟨txt_of ?_, HBd5.out⟩
      rw [← HLX.out, lineX_10, T1.out, T3.out]
      simp [bs, ByteArray.data_append]
    · go_wp2
      go_ret
      refine ⟨txt_of ?_, HBd5.out⟩
      rw [← HLX.out, lineX_11, T1.out]
      simp [bs, ByteArray.data_append]
    · obtain ⟨k, rfl⟩ : ∃ k : Nat, op = (k : Int) + 11 := ⟨(op - 11).toNat, by omega⟩
      have hk1 : 1 ≤ k := by omega
      have hk2 : k ≤ 10 := by omega
      have hwk : wrap64 ((k : Int) + 11 - 11) = (k : Int) := by unfold wrap64; omega
      have hwk2 : IntKind.i64.wrap ((k : Int) + 11 - 11) = (k : Int) := by rw [IntWalk.i64_left, hwk]
      go_wp2_with fail
      refine (spec_wordName k _ hk1 hk2).mono ?_
      rintro e u6 ⟨rfl, b6⟩
      have z9 : (bs (opNm (k + 11))).size ≤ 5 := by rw [bs_size]; exact opNm_len _
      clear c0
      go_wp2
      go_ret
      refine ⟨txt_of ?_, Bel.after HBd5.out b6⟩
      rw [← HLX.out, lineX_w (by omega) (by omega), T0.out, T1.out, T2.out, show ((k : Int) + 11).toNat = k + 11 by omega]
      simp [bs, ByteArray.data_append]
    · have := HOP.out
      omega
end Go.Proofs.YtjcocpdicogecaaGreatDoor
