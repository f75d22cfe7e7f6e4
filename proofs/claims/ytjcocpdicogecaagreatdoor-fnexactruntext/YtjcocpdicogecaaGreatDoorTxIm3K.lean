/- The program's lines of steps. -/
import Derived.Test.YtjcocpdicogecaaGreatDoorTxIm2K
import Derived.Test.YtjcocpdicogecaaGreatDoorTxSpK
namespace Go.Proofs.YtjcocpdicogecaaGreatDoor
open Go.ChangeShapes Go.WideShapes Go.ChangeAt Go.RowKit
set_option linter.unusedVariables false

theorem kinds_in {op : Int} {q : Int × Nat} (h : q ∈ kindsX op) : 1 ≤ q.2 ∧ q.2 ≤ 4 := by
  unfold kindsX at h
  rw [List.mem_filter] at h
  have h1 := h.1
  split at h1
  · simp at h1
    rcases h1 with rfl | rfl <;> simp
  · simp at h1
    rcases h1 with rfl | rfl | rfl | rfl <;> simp
theorem InsBox.field {w : World} {X : Nat} {op d a b n : Int} (h : InsBox w X op d a b n) {k : Nat} (h1 : 1 ≤ k) (h4 : k ≤ 4) : w.cell? ⟨X, k, none⟩ = some (.int .i64 (getF ⟨op, d, a, b, n⟩ k)) := by
  obtain ⟨c0, c1, c2, c3, c4⟩ := h
  have hk : k = 1 ∨ k = 2 ∨ k = 3 ∨ k = 4 := by omega
  rcases hk with rfl | rfl | rfl | rfl
  · exact c1
  · exact c2
  · exact c3
  · exact c4
theorem tailX_snoc (l : List (Int × Int)) (q : Int × Int) : tailX (l ++ [q]) = tailX l ++ (32 :: piece q.1 q.2) := by simp [tailX]
theorem tailX_len : ∀ (l : List (Int × Int)), (∀ q ∈ l, -9223372036854775808 ≤ q.2 ∧ q.2 ≤ 9223372036854775807) → (tailX l).length ≤ 23 * l.length
  | [], _ => by simp [tailX]
  | q :: l, h => by
    have h1 := tailX_len l (fun z hz => h z (List.mem_cons_of_mem _ hz))
    have h2 := h q List.mem_cons_self
    have h3 := Lib.itoa_length_le q.2 h2.1 h2.2
    have h4 : (letL q.1).length ≤ 1 := by unfold letL; split <;> (try split) <;> simp
    have e : tailX (q :: l) = (32 :: piece q.1 q.2) ++ tailX l := by simp [tailX]
    rw [e, List.length_append, List.length_cons, List.length_cons]
    unfold piece
    rw [List.length_append]
    omega
theorem fields_in {x : InsD} (h : stepOkB x 900 = true) (hr : InR x) : ∀ q ∈ fieldsX x, -9223372036854775808 ≤ q.2 ∧ q.2 ≤ 9223372036854775807 := fun q hq => by
  rw [fieldsX_kinds, List.mem_map] at hq
  obtain ⟨z, _, rfl⟩ := hq
  exact getF_in h hr z.2
theorem line_len {x : InsD} (h : stepOkB x 900 = true) (hr : InR x) (k : Nat) : (opNm x.op.toNat ++ tailX ((fieldsX x).take k)).length ≤ 97 := by
  have h1 := opNm_len x.op.toNat
  have h2 := tailX_len ((fieldsX x).take k) (fun q hq => fields_in h hr q (List.mem_of_mem_take hq))
  have h3 : ((fieldsX x).take k).length ≤ 4 := by
    rw [List.length_take, fieldsX_kinds, List.length_map]
    have := kinds_len x.op
    omega
  rw [List.length_append]
  omega
theorem piece_len (p x : Int) (h : -9223372036854775808 ≤ x ∧ x ≤ 9223372036854775807) : (piece p x).length ≤ 22 := by
  have h9 := Lib.itoa_length_le x h.1 h.2
  unfold piece letL
  split
  · simp; omega
  · split
    · simp; omega
    · simp; omega

set_option maxRecDepth 100000 in
set_option maxHeartbeats 4000000 in
theorem impl_stepText (op d a b n : Int) (w : World) (hr : -9223372036854775808 ≤ op ∧ op ≤ 9223372036854775807) (hn : -9223372036854775808 ≤ n ∧ n ≤ 9223372036854775807) (hT : Tabs w) :
    Calls Tryz.prog 53 #[.agg #[.int .i64 op, .int .i64 d, .int .i64 a, .int .i64 b, .int .i64 n]] w fun e w' => GivesTxt w (textX ⟨op, d, a, b, n⟩) e w' := by
  have HT : Hid (Tabs w) := hT
  obtain ⟨r, HR⟩ : ∃ r, Hid (stepOkB ⟨op, d, a, b, n⟩ 900 = r) := ⟨_, rfl⟩
  have HO : Hid (-9223372036854775808 ≤ op ∧ op ≤ 9223372036854775807) := hr
  have HN : Hid (-9223372036854775808 ≤ n ∧ n ≤ 9223372036854775807) := hn
  obtain ⟨w0, hw0⟩ : ∃ W, w.alloc (.cells #[.int .i64 op, .int .i64 d, .int .i64 a, .int .i64 b, .int .i64 n] 36) = W := ⟨_, rfl⟩
  have HB0 : Hid (Below w.heap.size w w0) := by show Below _ _ _; rw [← hw0]; exact Bel.alloc _ _
  have HX0 : Hid (InsBox w0 w.heap.size op d a b n) := by show InsBox _ _ _ _ _ _ _; rw [← hw0]; exact insBox_new w _ op d a b n
  obtain ⟨T, HTX⟩ : ∃ T, Hid (textX ⟨op, d, a, b, n⟩ = T) := ⟨_, rfl⟩
  rw [HTX.out]
  clear hr hn hT
  obtain ⟨c0, c1, c2, c3, c4⟩ := HX0.out
  go_enter Tryz.func53, Tryz.ntmps53
  go_wp2_with fail
  try rw [hw0]
  clear hw0 c0 c1 c2 c3 c4
  refine (impl_stepOk op d a b n 900 _ HO.out (HT.out.keep HB0.out).ft).mono ?_
  rintro e w1 ⟨rfl, b1⟩
  rw [HR.out]
  have HB1 : Hid (Below w.heap.size w w1) := Bel.after HB0.out b1
  have HX1 : Hid (InsBox w1 w.heap.size op d a b n) := HX0.out.keep b1
  clear b1
  cases r with
  | false =>
    obtain rfl : [] = T := by rw [← HTX.out, textX_no HR.out]
    go_wp2
    go_ret
    exact ⟨rfl, HB1.out⟩
  | true =>
    have HLX : Hid (lineX ⟨op, d, a, b, n⟩ = T) := by show _ = _; rw [← HTX.out, textX_line HR.out]
    clear HTX
    obtain ⟨⟨hop1, hop2⟩, _⟩ := stepOkB_parts HR.out
    dsimp only at hop1 hop2
    obtain ⟨ko, rfl⟩ : ∃ ko : Nat, op = (ko : Int) := ⟨op.toNat, by omega⟩
    have HOP : Hid (1 ≤ ko ∧ ko ≤ 21) := ⟨by omega, by omega⟩
    clear hop1 hop2
    obtain ⟨X, HXX⟩ : ∃ X, Hid (w.heap.size = X) := ⟨_, rfl⟩
    rw [HXX.out] at HX1 ⊢
    obtain ⟨c0, c1, c2, c3, c4⟩ := HX1.out
    clear c1 c2 c3 c4
    go_wp2_with fail
    clear c0
    refine (stepName_any ko _ HOP.out.1 HOP.out.2 (HT.out.keep HB1.out)).mono ?_
    rintro e w2 ⟨rfl, b2⟩
    have HB2 : Hid (Below w.heap.size w w2) := Bel.after HB1.out b2
    have HX2 : Hid (InsBox w2 X ko d a b n) := HX1.out.keep b2
    clear b2
    go_wp2_with fail
    refine (fieldsOf_any ko X _ HO.out HX2.out.1 (HT.out.keep HB2.out)).mono ?_
    rintro e w3 ⟨fv, rfl, of3, b3⟩
    obtain ⟨m, HM⟩ : ∃ m, Hid ((kindsX (ko : Int)).length = m) := ⟨_, rfl⟩
    have HF3 : Hid (OwnFlds w3 w2.heap.size fv X (kindsX ko)) := of3
    have HB3 : Hid (Below w.heap.size w w3) := Bel.after HB2.out b3
    have HX3 : Hid (InsBox w3 X ko d a b n) := HX2.out.keep b3
    have hm4 : m ≤ 4 := by rw [← HM.out]; exact kinds_len _
    obtain ⟨fa, fc, hfv, hrow⟩ := of3.row
    rw [HM.out] at hfv hrow
    subst hfv
    have HROW : Hid (0 < m → ∃ g, fa = some ⟨g, 0, none⟩ ∧ w2.heap.size ≤ g ∧ g < w3.heap.size ∧ ∀ (i : Nat) q, (kindsX (ko : Int))[i]? = some q → w3.cell? ⟨g, i * 2, none⟩ = some (.int .i64 q.1) ∧ w3.cell? ⟨g, i * 2 + 1, none⟩ = some (.pointer (some ⟨X, q.2, none⟩))) := hrow
    clear b3 of3 hrow
    go_wp2_with fail
    go_loopw [3, 14] (fun lv iv wr => ∃ k : Nat, k ≤ m ∧ iv = .int .i64 k ∧ lv = .string (bs (opNm ko ++ tailX ((fieldsX ⟨ko, d, a, b, n⟩).take k))) ∧ Below w3.heap.size w3 wr) (fun _ iv _ => m - (intOf iv).toNat)
    case atStart => exact ⟨0, Nat.zero_le _, rfl, by simp [tailX], Below.refl _ _⟩
    case round =>
      obtain ⟨k, hk, rfl, rfl, hbr⟩ := hrel
      have HBR : Hid (Below w3.heap.size w3 wr) := hbr
      clear hbr
      by_cases hlt : (k : Int) < (m : Int)
      · obtain ⟨q, HQ⟩ : ∃ q, Hid ((kindsX (ko : Int))[k]? = some q) := ⟨(kindsX (ko : Int))[k]'(by have := HM.out; omega), List.getElem?_eq_getElem _⟩
        obtain ⟨p, kk⟩ := q
        obtain ⟨g, hfa, hg2, hg3, hcell⟩ := HROW.out (by omega)
        subst hfa
        obtain ⟨q0, q1⟩ := hcell k _ HQ.out
        dsimp only at q0 q1
        have hkk := kinds_in (List.mem_of_getElem? HQ.out)
        dsimp only at hkk
        have q2 := HX3.out.field hkk.1 hkk.2
        obtain ⟨v, HV⟩ : ∃ v, Hid (getF ⟨ko, d, a, b, n⟩ kk = v) := ⟨_, rfl⟩
        rw [HV.out] at q2
        have hvr : -9223372036854775808 ≤ v ∧ v ≤ 9223372036854775807 := by rw [← HV.out]; exact getF_in HR.out HN.out kk
        have HVR : Hid (-9223372036854775808 ≤ v ∧ v ≤ 9223372036854775807) := hvr
        replace q0 := Bel.keeps HBR.out q0
        replace q1 := Bel.keeps HBR.out q1
        replace q2 := Bel.keeps HBR.out q2
        have HTK : Hid ((fieldsX ⟨ko, d, a, b, n⟩).take (k + 1) = (fieldsX ⟨ko, d, a, b, n⟩).take k ++ [(p, v)]) := by
          show _ = _
          rw [List.take_add_one, fieldsX_kinds, List.getElem?_map, HQ.out]
          simp [HV.out]
        obtain ⟨t0, HT0⟩ : ∃ t, Hid (opNm ko ++ tailX ((fieldsX ⟨ko, d, a, b, n⟩).take k) = t) := ⟨_, rfl⟩
        rw [HT0.out]
        clear hvr hcell hkk hg2 hg3
        have ht0 : (bs t0).size ≤ 97 := by rw [bs_size, ← HT0.out]; exact line_len HR.out HN.out k
        obtain ⟨w4, hw4⟩ : ∃ W, wr.alloc (.cells #[.int .i64 p, .pointer (some ⟨X, kk, none⟩)] 91) = W := ⟨_, rfl⟩
        have hal : Below wr.heap.size wr w4 := by rw [← hw4]; exact Bel.alloc _ _
        have HB4 : Hid (Below w3.heap.size w3 w4) := Bel.after HBR.out hal
        have hx4 : w4.heap[wr.heap.size]? = some (.cells #[.int .i64 p, .pointer (some ⟨X, kk, none⟩)] 91 (0, 0)) := by rw [← hw4]; exact World.alloc_heap_new _ _
        obtain ⟨F9, HF9⟩ : ∃ F, Hid (wr.heap.size = F) := ⟨_, rfl⟩
        rw [HF9.out] at hx4
        have y0 : w4.cell? ⟨F9, 0, none⟩ = some (.int .i64 p) := by simp [World.cell?, hx4]
        have y1 : w4.cell? ⟨F9, 1, none⟩ = some (.pointer (some ⟨X, kk, none⟩)) := by simp [World.cell?, hx4]
        have y2 := Bel.keeps hal q2
        clear hx4 hal
        go_wp2_with fail
        try rw [hw4]
        try rw [HF9.out]
        clear hw4 q0 q1 q2
        refine wp_region_held_drew (S := fun w' => w'.cell? ⟨F9, 0, none⟩ = some (.int .i64 p) ∧ w'.cell? ⟨F9, 1, none⟩ = some (.pointer (some ⟨X, kk, none⟩)) ∧ w'.cell? ⟨X, kk, none⟩ = some (.int .i64 v)) (by kernel_rfl) ⟨y0, y1, y2⟩ (fun hHeld => ?_)
        obtain ⟨u1, hu1⟩ : ∃ W, w4.drew = W := ⟨_, rfl⟩
        have HBd : Hid (Below w3.heap.size w3 u1) := by show Below _ _ _; rw [← hu1]; exact HB4.out.drew
        rw [hu1] at hHeld ⊢
        clear hu1 y0 y1 y2 HB4
        obtain ⟨lt, HLT⟩ : ∃ lt, Hid (letL p = lt) := ⟨_, rfl⟩
        obtain ⟨it, HIT⟩ : ∃ it, Hid (Lib.itoa v = it) := ⟨_, rfl⟩
        have hlt2 : (bs lt).size ≤ 1 := by rw [bs_size, ← HLT.out]; unfold letL; split <;> (try split) <;> simp
        have hit2 : (bs it).size ≤ 21 := by rw [bs_size, ← HIT.out]; exact Lib.itoa_length_le v HVR.out.1 HVR.out.2
        have hA1 : ¬ 9223372036854775807 < 1 + (bs lt).size := by omega
        have hA2 : ¬ 9223372036854775807 < 1 + (bs lt).size + (bs it).size := by omega
        have hA3 : ¬ 9223372036854775807 < (bs t0).size + (1 + (bs lt).size + (bs it).size) := by omega
        refine wpAnyH_take (i := 0) (oi := { dst := some 18, op := Go.Op.move (Go.Operand.tmp 3), type := 9, pos := "l17_text.go:44", after := #[], guard := none }) (v := ?_) rfl (by kernel_rfl) (by kernel_rfl) (by kernel_rfl) (fun _ _ _ h => h) (Or.inl ⟨by rfl, ?_⟩) (by assumption) ?_
        rotate_left
        · intro w hSw
          (try dsimp only at hSw)
          go_simp
          (try with_reducible rfl)
        try simp only [Act.put, List.setIfInBounds_toArray, List.set_cons_zero, List.set_cons_succ]
        refine wpAnyH_take (i := 1) (oi := { dst := some 19, op := Go.Op.fieldAddr 91 (Go.Operand.tmp 5) 0, type := 0, pos := "l17_text.go:44", after := #[], guard := none }) (v := ?_) rfl (by kernel_rfl) (by kernel_rfl) (by kernel_rfl) (fun _ _ _ h => h) (Or.inl ⟨by rfl, ?_⟩) (by assumption) ?_
        rotate_left
        · intro w hSw
          (try dsimp only at hSw)
          go_simp
          (try with_reducible rfl)
        try simp only [Act.put, List.setIfInBounds_toArray, List.set_cons_zero, List.set_cons_succ]
        refine wpAnyH_take (i := 2) (oi := { dst := some 20, op := Go.Op.load 88 (Go.Operand.tmp 19), type := 88, pos := "l17_text.go:44", after := #[{ on := 1, ground := Go.Ground.data }], guard := none }) (v := ?_) rfl (by kernel_rfl) (by kernel_rfl) (by kernel_rfl) (fun _ _ _ h => h) (Or.inl ⟨by rfl, ?_⟩) (by assumption) ?_
        rotate_left
        · intro w hSw
          (try dsimp only at hSw)
          go_simp
          (try with_reducible rfl)
        try simp only [Act.put, List.setIfInBounds_toArray, List.set_cons_zero, List.set_cons_succ]
        refine wpAnyH_take (i := 5) (oi := { dst := some 23, op := Go.Op.fieldAddr 91 (Go.Operand.tmp 5) 1, type := 0, pos := "l17_text.go:44", after := #[], guard := none }) (v := ?_) rfl (by kernel_rfl) (by kernel_rfl) (by kernel_rfl) (fun _ _ _ h => h) (Or.inl ⟨by rfl, ?_⟩) (by assumption) ?_
        rotate_left
        · intro w hSw
          (try dsimp only at hSw)
          go_simp
          (try with_reducible rfl)
        try simp only [Act.put, List.setIfInBounds_toArray, List.set_cons_zero, List.set_cons_succ]
        refine wpAnyH_take (i := 6) (oi := { dst := some 24, op := Go.Op.load 89 (Go.Operand.tmp 23), type := 89, pos := "l17_text.go:44", after := #[{ on := 5, ground := Go.Ground.data }], guard := none }) (v := ?_) rfl (by kernel_rfl) (by kernel_rfl) (by kernel_rfl) (fun _ _ _ h => h) (Or.inl ⟨by rfl, ?_⟩) (by assumption) ?_
        rotate_left
        · intro w hSw
          (try dsimp only at hSw)
          go_simp
          (try with_reducible rfl)
        try simp only [Act.put, List.setIfInBounds_toArray, List.set_cons_zero, List.set_cons_succ]
        refine wpAnyH_take (i := 7) (oi := { dst := some 25, op := Go.Op.nilCheck (Go.Operand.tmp 24), type := 0, pos := "l17_text.go:44", after := #[{ on := 6, ground := Go.Ground.data }], guard := none }) (v := ?_) rfl (by kernel_rfl) (by kernel_rfl) (by kernel_rfl) (fun _ _ _ h => h) (Or.inl ⟨by rfl, ?_⟩) (by assumption) ?_
        rotate_left
        · intro w hSw
          (try dsimp only at hSw)
          go_simp
          (try with_reducible rfl)
        try simp only [Act.put, List.setIfInBounds_toArray, List.set_cons_zero, List.set_cons_succ]
        refine wpAnyH_take (i := 8) (oi := { dst := some 26, op := Go.Op.load 3 (Go.Operand.tmp 25), type := 3, pos := "l17_text.go:44", after := #[{ on := 7, ground := Go.Ground.data }], guard := none }) (v := ?_) rfl (by kernel_rfl) (by kernel_rfl) (by kernel_rfl) (fun _ _ _ h => h) (Or.inl ⟨by rfl, ?_⟩) (by assumption) ?_
        rotate_left
        · intro w hSw
          (try dsimp only at hSw)
          go_simp
          (try with_reducible rfl)
        try simp only [Act.put, List.setIfInBounds_toArray, List.set_cons_zero, List.set_cons_succ]
        refine ckAnyH_oneK (i := 3) (o := { dst := some 21, op := Go.Op.call { callee := Go.Callee.value (Go.Operand.func 51), args := #[Go.Operand.tmp 20], argTypes := #[88] }, type := 9, pos := "l17_text.go:44", after := #[{ on := 2, ground := Go.Ground.data }], guard := none }) rfl rfl (by kernel_rfl) (fun K9 hK9 => ?_)
        refine wp_call_of (f := 51) (args := #[.int .i64 p]) (by go_simp) (letter_any p _) ?_
        rintro e u2 ⟨rfl, hu2⟩
        subst hu2
        rw [HLT.out]
        refine ⟨_, rfl, hK9 _ _ ⟨hHeld, ?_⟩⟩
        (try simp only [Act.put, List.setIfInBounds_toArray, List.set_cons_zero, List.set_cons_succ])
        clear hK9
        refine wpAnyH_take (i := 4) (oi := { dst := some 22, op := Go.Op.binOp Go.BinOp.add 9 (Go.Operand.const (Go.Value.string { data := #[32] })) (Go.Operand.tmp 21) 9, type := 9, pos := "l17_text.go:44", after := #[{ on := 3, ground := Go.Ground.data }], guard := none }) (v := ?_) rfl (by kernel_rfl) (by kernel_rfl) (by kernel_rfl) (fun _ _ _ h => h) (Or.inl ⟨by rfl, ?_⟩) (by assumption) ?_
        rotate_left
        · intro w hSw
          (try dsimp only at hSw)
          go_simp
          (try with_reducible rfl)
        try simp only [Act.put, List.setIfInBounds_toArray, List.set_cons_zero, List.set_cons_succ]
        refine ckAnyH_oneK (i := 9) (o := { dst := some 27, op := Go.Op.call { callee := Go.Callee.value (Go.Operand.func 66), args := #[Go.Operand.tmp 26], argTypes := #[3] }, type := 9, pos := "l17_text.go:44", after := #[{ on := 8, ground := Go.Ground.data }, { on := 3, ground := Go.Ground.chain }], guard := none }) rfl rfl (by kernel_rfl) (fun K9 hK9 => ?_)
        refine wp_call_of (f := 66) (args := #[.int .i64 v]) (by go_simp) (itoa_any v _ HVR.out ((HT.out.keep HB3.out).keep HBd.out)) ?_
        rintro e u3 ⟨rfl, b3⟩
        rw [HIT.out]
        have HBd3 : Hid (Below w3.heap.size w3 u3) := Bel.after HBd.out b3
        refine ⟨_, rfl, hK9 _ _ ⟨⟨Bel.keeps b3 hHeld.1, Bel.keeps b3 hHeld.2.1, Bel.keeps b3 hHeld.2.2⟩, ?_⟩⟩
        (try simp only [Act.put, List.setIfInBounds_toArray, List.set_cons_zero, List.set_cons_succ])
        have hHeld3 := And.intro (Bel.keeps b3 hHeld.1) (And.intro (Bel.keeps b3 hHeld.2.1) (Bel.keeps b3 hHeld.2.2))
        clear hK9 hHeld
        have hHeld := hHeld3
        refine wpAnyH_take (i := 10) (oi := { dst := some 28, op := Go.Op.binOp Go.BinOp.add 9 (Go.Operand.tmp 22) (Go.Operand.tmp 27) 9, type := 9, pos := "l17_text.go:44", after := #[{ on := 4, ground := Go.Ground.data }, { on := 9, ground := Go.Ground.data }], guard := none }) (v := ?_) rfl (by kernel_rfl) (by kernel_rfl) (by kernel_rfl) (fun _ _ _ h => h) (Or.inl ⟨by rfl, ?_⟩) (by assumption) ?_
        rotate_left
        · intro w hSw
          (try dsimp only at hSw)
          go_simp
          (try with_reducible rfl)
        try simp only [Act.put, List.setIfInBounds_toArray, List.set_cons_zero, List.set_cons_succ]
        refine wpAnyH_take (i := 11) (oi := { dst := some 29, op := Go.Op.binOp Go.BinOp.add 9 (Go.Operand.tmp 18) (Go.Operand.tmp 28) 9, type := 9, pos := "l17_text.go:44", after := #[{ on := 0, ground := Go.Ground.data }, { on := 10, ground := Go.Ground.data }], guard := none }) (v := ?_) rfl (by kernel_rfl) (by kernel_rfl) (by kernel_rfl) (fun _ _ _ h => h) (Or.inl ⟨by rfl, ?_⟩) (by assumption) ?_
        rotate_left
        · intro w hSw
          (try dsimp only at hSw)
          go_simp
          (try with_reducible rfl)
        try simp only [Act.put, List.setIfInBounds_toArray, List.set_cons_zero, List.set_cons_succ]
        refine wpAnyH_take (i := 12) (oi := { dst := some 3, op := Go.Op.assign (Go.Operand.tmp 29), type := 9, pos := "l17_text.go:44", after := #[{ on := 11, ground := Go.Ground.data }, { on := 9, ground := Go.Ground.chain }, { on := 0, ground := Go.Ground.phase }, { on := 1, ground := Go.Ground.phase }, { on := 2, ground := Go.Ground.phase }, { on := 3, ground := Go.Ground.phase }, { on := 4, ground := Go.Ground.phase }, { on := 5, ground := Go.Ground.phase }, { on := 6, ground := Go.Ground.phase }, { on := 7, ground := Go.Ground.phase }, { on := 8, ground := Go.Ground.phase }, { on := 9, ground := Go.Ground.phase }, { on := 10, ground := Go.Ground.phase }, { on := 11, ground := Go.Ground.phase }], guard := none }) (v := ?_) rfl (by kernel_rfl) (by kernel_rfl) (by kernel_rfl) (fun _ _ _ h => h) (Or.inl ⟨by rfl, ?_⟩) (by assumption) ?_
        rotate_left
        · intro w hSw
          (try dsimp only at hSw)
          go_simp
          (try with_reducible rfl)
        try simp only [Act.put, List.setIfInBounds_toArray, List.set_cons_zero, List.set_cons_succ]
        refine wpAnyH_done (by kernel_rfl) ?_ _
        have hbe : (bs t0 ++ ((⟨#[32]⟩ : ByteArray) ++ bs lt ++ bs it)) = bs (t0 ++ (32 :: (lt ++ it))) := by
          apply Go.WideShapes.bytes_inj
          simp [bs, ByteArray.data_append]
        rw [hbe]
        go_wp2
        go_roundw
        case rel => exact ⟨k + 1, by omega, by go_num, by rw [HTK.out, tailX_snoc, ← List.append_assoc, HT0.out]; unfold piece; rw [HLT.out, HIT.out], HBd3.out⟩
        case measure => simp [intOf]; omega
      · have hkm : k = m := by omega
        subst hkm
        go_wp2
        go_ret
        refine ⟨ret_bs ?_, Bel.after HB3.out HBR.out⟩
        rw [← HLX.out]
        unfold lineX
        rw [List.take_of_length_le (by rw [fieldsX_kinds, List.length_map, HM.out]; exact Nat.le_refl _)]
        simp
end Go.Proofs.YtjcocpdicogecaaGreatDoor
