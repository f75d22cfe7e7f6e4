/- The model's UnpackFn. -/
import Derived.Test.YthdioeeanodjiaaDoorUsBlkK
import Derived.Test.YthdioeeanodjiaaDoorPkSp2K
namespace Go.Proofs.YthdioeeanodjiaaDoor
open Go.ChangeShapes Go.WideShapes Go.ChangeAt Go.RowKit
set_option linter.unusedVariables false
set_option linter.unusedSimpArgs false

theorem run_addOpU {P : Program} {o : Oper} {a : Act} {w : World} {x y : Operand} {t : TypeId} {p q v : Value} {w' : World} (ho : o.op = Op.call { callee := Callee.builtin Builtin.append, args := #[x, y], argTypes := #[t, t] }) (hx : a.eval x = p) (hy : a.eval y = q) (h : (Builtin.append_ #[t, t] o.type #[p, q]).run P w = .ok v w') : (execOp a.eval o).run P w = .ok (.value v) w' := by
  simp [execOp, ho, resolve, invoke, builtin, hx, hy, h]
theorem wp_skipsV {P : Program} {Q : Exit → Act → World → Prop} {o : Oper} {a : Act} {w w' : World} {K : Act → World → Prop} (h : (execOp a.eval o).run P w = .ok .skip w') (hk : K (a.put o.dst undef) w') : o.wp P a w K Q := by
  unfold Oper.wp
  simp only [h]
  exact hk
theorem blocks_read {w : World} {lo : Nat} {K : Nat → Prop} {v : Value} {l : List BlockD} (h : RowK 46 6 GBlk w lo K v l) (hm : l.length ≤ 1100000) : ListAt 0 6 (BlockAt 0) w v l :=
  (h.read (by omega) (fun g i x ys hg hc => by
    obtain ⟨pv, lv, rfl, hp, hl⟩ := hg
    exact ⟨pv, lv, hc 0 _ rfl, hc 1 _ rfl, hc 2 _ rfl, hc 3 _ rfl, hc 4 _ rfl, hc 5 _ rfl, hp, hl⟩)).zero
def GivesSu (w : World) (l : List UInt8) (e : Ending) (w' : World) : Prop := ∃ (G : FnD) (bv : Value) (r : Bool), e = .returned (.tuple #[.agg #[bv, .int .i64 G.values], .bool r]) ∧ FnAt w' (.agg #[bv, .int .i64 G.values]) G ∧ Below w.heap.size w w' ∧ UnAns l G r

set_option maxRecDepth 100000 in
set_option maxHeartbeats 16000000 in
theorem spec_unpackFn (v : Value) (l : List UInt8) (w : World) (hb : BytesAt w v l) (hl : l.length ≤ 1048576) :
    Calls Tryd.prog 12 #[v] w fun e w' => GivesSu w l e w' := by
  have HB : Hid (BytesAt w v l) := hb
  have HL : Hid (l.length ≤ 1048576) := hl
  obtain ⟨va, vcap, hv, _, hvc⟩ := hb
  have HVB : Hid (0 < l.length → ∀ a n c, v = .slice (some a) n c → a.block < w.heap.size) := fun hp a n c e => by
    obtain ⟨_, b, off, e3, hd⟩ := hvc hp
    rw [hv, e3] at e
    simp at e
    rw [← e.1]
    exact World.block_lt_of_cell? w _ (hd 0 hp)
  obtain ⟨ln, HLN⟩ : ∃ n, Hid (l.length = n) := ⟨_, rfl⟩
  rw [HLN.out] at hv hl
  clear hvc
  subst hv
  go_enter Tryd.func12, Tryd.ntmps12
  go_wp2_with fail
  have HB0 : Hid (Below w.heap.size w ((w.alloc (.cells #[.slice none 0 0, .int .i64 0] 26)).alloc (.cells #[.slice va ln vcap, .int .i64 0, .bool true] 72))) := Bel.after (Bel.alloc _ _) (Bel.alloc _ _)
  have HX0 : Hid (((w.alloc (.cells #[.slice none 0 0, .int .i64 0] 26)).alloc (.cells #[.slice va ln vcap, .int .i64 0, .bool true] 72)).heap[w.heap.size + 1]? = some (.cells #[.slice va ln vcap, .int .i64 0, .bool true] 72 (0, 0))) := by
    have h := World.alloc_heap_new (w.alloc (.cells #[.slice none 0 0, .int .i64 0] 26)) (.cells #[.slice va ln vcap, .int .i64 0, .bool true] 72)
    rw [World.size_alloc] at h
    exact h
  have HQ0 : Hid (((w.alloc (.cells #[.slice none 0 0, .int .i64 0] 26)).alloc (.cells #[.slice va ln vcap, .int .i64 0, .bool true] 72)).heap[w.heap.size]? = some (.cells #[.slice none 0 0, .int .i64 0] 26 (0, 0))) := by
    show _ = _
    rw [Below.heap_alloc _ _ _ (by simp)]
    exact World.alloc_heap_new w _
  have HS0 : Hid (((w.alloc (.cells #[.slice none 0 0, .int .i64 0] 26)).alloc (.cells #[.slice va ln vcap, .int .i64 0, .bool true] 72)).heap.size = w.heap.size + 2) := by
    show _ = _
    simp
  generalize (w.alloc (.cells #[.slice none 0 0, .int .i64 0] 26)).alloc (.cells #[.slice va ln vcap, .int .i64 0, .bool true] 72) = w0 at HB0 HX0 HQ0 HS0 ⊢
  obtain ⟨Q, HQQ⟩ : ∃ Q, Hid (w.heap.size = Q) := ⟨_, rfl⟩
  rw [HQQ.out] at HX0 HQ0 HS0 HB0 HVB ⊢
  obtain ⟨X, HXD⟩ : ∃ X, Hid (Q + 1 = X) := ⟨_, rfl⟩
  rw [HXD.out] at HX0 ⊢
  have HC0 : Hid (CurS w0 X (.slice va ln vcap) l 0 true) := ⟨HX0.out, HB.out.keep (by rw [HQQ.out]; exact HB0.out), fun hp a n c e => by have := HVB.out hp a n c e; have := HXD.out; omega, Nat.zero_le _, HL.out⟩
  have HNE : Hid (Q ≠ X) := by have := HXD.out; show _ ≠ _; omega
  refine (snum_any HC0.out).mono ?_
  rintro e w1 ⟨vals, p1, ok1, rfl, hC, hF, hS, hO, hpp, hkk⟩
  have HC1 : Hid (CurS (w1.alloc (.cells #[.slice none 0 0, .int .i64 vals] 26)) X (.slice va ln vcap) l p1 ok1) := hC.below (Bel.alloc _ _)
  have HF1 : Hid (FrB X w0 (w1.alloc (.cells #[.slice none 0 0, .int .i64 vals] 26))) := frB_alloc hF _
  have HO1 : Hid (∀ y ys, On l 0 (y :: ys) → vals = y ∧ ok1 = true ∧ On l p1 ys) := fun y ys h => hO y ys rfl h
  have HP1 : Hid ((w1.alloc (.cells #[.slice none 0 0, .int .i64 vals] 26)).heap[w1.heap.size]? = some (.cells #[.slice none 0 0, .int .i64 vals] 26 (0, 0))) := World.alloc_heap_new _ _
  have HQ1 : Hid ((w1.alloc (.cells #[.slice none 0 0, .int .i64 vals] 26)).heap[Q]? = some (.cells #[.slice none 0 0, .int .i64 0] 26 (0, 0))) := (frB_alloc hF _).at HQ0.out rfl HNE.out
  have HS1 : Hid (w1.heap.size = Q + 2) := hS.trans HS0.out
  clear hC hF hS hO hpp hkk HX0 HQ0
  go_wp2_with fail
  generalize w1.alloc (.cells #[.slice none 0 0, .int .i64 vals] 26) = wP at HC1 HF1 HP1 HQ1 ⊢
  obtain ⟨P, HPD⟩ : ∃ P, Hid (w1.heap.size = P) := ⟨_, rfl⟩
  rw [HPD.out] at HP1 HS1 ⊢
  have HPX : Hid (P ≠ X ∧ P ≠ Q ∧ Q < X ∧ X < P) := ⟨by have := HXD.out; have := HS1.out; omega, by have := HS1.out; omega, by have := HXD.out; omega, by have := HXD.out; have := HS1.out; omega⟩
  refine (snum_any HC1.out).mono ?_
  rintro e w2 ⟨n, p2, ok2, rfl, hC, hF, hS, hO, hpp, hkk⟩
  have HC2 : Hid (CurS w2 X (.slice va ln vcap) l p2 ok2) := hC
  have HF2 : Hid (FrB X w0 w2) := HF1.out.trans hF
  have HO2 : Hid (∀ y ys, ok1 = true → On l p1 (y :: ys) → n = y ∧ ok2 = true ∧ On l p2 ys) := hO
  have HP2 : Hid (w2.heap[P]? = some (.cells #[.slice none 0 0, .int .i64 vals] 26 (0, 0))) := hF.at HP1.out rfl HPX.out.1
  have HQ2 : Hid (w2.heap[Q]? = some (.cells #[.slice none 0 0, .int .i64 0] 26 (0, 0))) := hF.at HQ1.out rfl HNE.out
  have HB2 : Hid (Below Q w w2) := HB0.out.trans (HF2.out.below (by have := HXD.out; omega) (by have := HS0.out; omega))
  clear hC hF hS hO hpp hkk
  go_wp2_with fail
  go_loopw [7] (fun iv wr => ∃ (cur : List BlockD) (bv : Value) (q : Nat) (ok' : Bool), iv = .int .i64 (cur.length : Int) ∧ CurS wr X (.slice va ln vcap) l q ok' ∧ Below Q w wr ∧ wr.heap[P]? = some (.cells #[bv, .int .i64 vals] 26 (0, 0)) ∧ wr.heap[Q]? = some (.cells #[.slice none 0 0, .int .i64 0] 26 (0, 0)) ∧ RowK 46 6 GBlk wr Q (fun b => b = Q ∨ b = X ∨ b = P) bv cur ∧ Far cur.length q ok' ∧ SoFarS blockN l p1 ok1 q ok' n cur) (fun iv _ => l.length + 2 - (intOf iv).toNat)
  case atStart => exact ⟨[], _, p2, ok2, rfl, HC2.out, HB2.out, HP2.out, HQ2.out, RowK.empty _ _ _, .inl (Nat.zero_le _), SoFarS.zero HO2.out⟩
  case round =>
    obtain ⟨wq, hwq⟩ : ∃ x, x = wr := ⟨_, rfl⟩
    subst hwq
    obtain ⟨cur, bv, q, ok', rfl, hC, hB, hP, hQ, hV, hfar, hS⟩ := hrel
    have HCq : Hid (CurS wq X (.slice va ln vcap) l q ok') := hC
    have HBq : Hid (Below Q w wq) := hB
    have HPq : Hid (wq.heap[P]? = some (.cells #[bv, .int .i64 vals] 26 (0, 0))) := hP
    have HQq : Hid (wq.heap[Q]? = some (.cells #[.slice none 0 0, .int .i64 0] 26 (0, 0))) := hQ
    have HVq : Hid (RowK 46 6 GBlk wq Q (fun b => b = Q ∨ b = X ∨ b = P) bv cur) := hV
    have HFar : Hid (Far cur.length q ok') := hfar
    have HSq : Hid (SoFarS blockN l p1 ok1 q ok' n cur) := hS
    have x2 : wq.cell? ⟨X, 2, none⟩ = some (.bool ok') := by simp [World.cell?, hC.cx]
    have p0 : wq.cell? ⟨P, 0, none⟩ = some bv := by simp [World.cell?, hP]
    have p1' : wq.cell? ⟨P, 1, none⟩ = some (.int .i64 vals) := by simp [World.cell?, hP]
    clear hC hB hP hQ hV hfar hS
    obtain ⟨k, HK⟩ : ∃ k, Hid (cur.length = k) := ⟨_, rfl⟩
    rw [HK.out] at HFar ⊢
    have hkb : (k : Int) ≤ 1048577 := by have := HFar.out.le HCq.out.hp; have := HCq.out.hl; omega
    by_cases hlt : (k : Int) < n
    · cases ok' with
      | true =>
        go_wp2_with fail
        refine wp_noThrow (region_M 7 (fun w' => w'.cell? ⟨P, 0, none⟩ = some bv) (by kernel_rfl) ?_)
        have hHeld : wq.drew.cell? ⟨P, 0, none⟩ = some bv := by simpa using p0
        have hBd : Below wq.heap.size wq wq.drew := (Below.refl _ _).drew
        have HCd : Hid (CurS wq.drew X (.slice va ln vcap) l q true) := HCq.out.below hBd
        have HSd : Hid (wq.drew.heap.size = wq.heap.size) := by
          show _ = _
          simp
        have HBd : Hid (Below wq.heap.size wq wq.drew) := hBd
        clear x2 p0 p1' hBd
        refine wpAnyM_take (i := 0) (oi := { dst := some 29, op := Go.Op.fieldAddr 26 (Go.Operand.tmp 5) 0, type := 0, pos := "l19_pack.go:128", after := #[], guard := none }) (v := ?_) rfl (by kernel_rfl) (by kernel_rfl) (by kernel_rfl) (by kernel_rfl) (fun _ _ _ h => h) (Or.inl ⟨by rfl, ?_⟩) (by assumption) ?_
        rotate_left
        · intro w hSw
          (try dsimp only at hSw)
          go_simp
          (try with_reducible rfl)
        try simp only [Act.put, List.setIfInBounds_toArray, List.set_cons_zero, List.set_cons_succ]
        refine wpAnyM_take (i := 1) (oi := { dst := some 30, op := Go.Op.load 24 (Go.Operand.tmp 29), type := 24, pos := "l19_pack.go:128", after := #[{ on := 0, ground := Go.Ground.data }], guard := none }) (v := ?_) rfl (by kernel_rfl) (by kernel_rfl) (by kernel_rfl) (by kernel_rfl) (fun _ _ _ h => h) (Or.inl ⟨by rfl, ?_⟩) (by assumption) ?_
        rotate_left
        · intro w hSw
          (try dsimp only at hSw)
          go_simp
          (try with_reducible rfl)
        try simp only [Act.put, List.setIfInBounds_toArray, List.set_cons_zero, List.set_cons_succ]
        refine wpAnyM_take (i := 2) (oi := { dst := some 31, op := Go.Op.move (Go.Operand.tmp 4), type := 70, pos := "l19_pack.go:128", after := #[], guard := none }) (v := ?_) rfl (by kernel_rfl) (by kernel_rfl) (by kernel_rfl) (by kernel_rfl) (fun _ _ _ h => h) (Or.inl ⟨by rfl, ?_⟩) (by assumption) ?_
        rotate_left
        · intro w hSw
          (try dsimp only at hSw)
          go_simp
          (try with_reducible rfl)
        try simp only [Act.put, List.setIfInBounds_toArray, List.set_cons_zero, List.set_cons_succ]
        clear hHeld
        generalize wq.drew = wD at HCd HSd HBd ⊢
        refine cmAnyM_oneK (i := 3) (o := { dst := some 32, op := Go.Op.call { callee := Go.Callee.value (Go.Operand.func 36), args := #[Go.Operand.tmp 31], argTypes := #[70] }, type := 46, pos := "l19_pack.go:128", after := #[{ on := 2, ground := Go.Ground.data }], guard := none }) rfl rfl (by kernel_rfl) (fun K9 hK9 => ?_)
        refine wp_call_of (f := 36) (args := #[.pointer (some ⟨X, 0, none⟩)]) (by go_simp) (sblock_any HCd.out) ?_
        rintro e w6 ⟨x, pv, lv, q2, ok4, rfl, hC, hF, hG, hO, hpp, hkk⟩
        have HC6 : Hid (CurS w6 X (.slice va ln vcap) l q2 ok4) := hC
        have HF6 : Hid (FrB X wD w6) := hF
        have HG6 : Hid (∀ w2, w6.heap.size ≤ w2.heap.size → (∀ b, b < w6.heap.size → wq.heap.size ≤ b → w2.heap[b]? = w6.heap[b]?) → GBlk w2 (blockC pv lv x.term) x) := by rw [← HSd.out]; exact hG
        have HO6 : Hid (∀ y0 ys, On l q (blockN y0 ++ ys) → x = y0 ∧ ok4 = true ∧ On l q2 ys) := fun y0 ys h => hO y0 ys rfl h
        have HQ6 : Hid (q ≤ q2 ∧ (ok4 = true → q < q2)) := ⟨hpp, fun h => (hkk h).2⟩
        have hPD : wD.heap[P]? = some (.cells #[bv, .int .i64 vals] 26 (0, 0)) := (HBd.out.block P (Array.getElem?_eq_some_iff.1 HPq.out).1).trans HPq.out
        have hQD : wD.heap[Q]? = some (.cells #[.slice none 0 0, .int .i64 0] 26 (0, 0)) := (HBd.out.block Q (Array.getElem?_eq_some_iff.1 HQq.out).1).trans HQq.out
        have hP6 : w6.heap[P]? = some (.cells #[bv, .int .i64 vals] 26 (0, 0)) := hF.at hPD rfl HPX.out.1
        have hQ6 : w6.heap[Q]? = some (.cells #[.slice none 0 0, .int .i64 0] 26 (0, 0)) := hF.at hQD rfl HNE.out
        have s6 : w6.cell? ⟨P, 0, none⟩ = some bv := by simp [World.cell?, hP6]
        refine ⟨_, rfl, hK9 _ _ ⟨fun _ => s6, ?_⟩⟩
        (try simp only [Act.put, List.setIfInBounds_toArray, List.set_cons_zero, List.set_cons_succ])
        clear hK9 hC hF hG hO hpp hkk hPD hQD s6
        have hwA : Below w6.heap.size w6 (w6.alloc (.cells (blockC pv lv x.term).toArray 46)) := Bel.alloc _ _
        have hPs : P < w6.heap.size := (Array.getElem?_eq_some_iff.1 hP6).1
        have hQs : Q < w6.heap.size := (Array.getElem?_eq_some_iff.1 hQ6).1
        have hPq : P < wq.heap.size := (Array.getElem?_eq_some_iff.1 HPq.out).1
        have hsd := HSd.out
        have hs6 := HF6.out.size
        have hwAs := hwA.size
        have hne := HPX.out
        refine cmAnyM_oneK (i := 4) (o := { dst := some 33, op := Go.Op.buildSlice 24 1 #[(0, Go.Operand.tmp 32)], type := 24, pos := "l19_pack.go:128", after := #[{ on := 3, ground := Go.Ground.data }], guard := none }) rfl rfl (by kernel_rfl) (fun K9 hK9 => ?_)
        have s7 : (w6.alloc (.cells (blockC pv lv x.term).toArray 46)).cell? ⟨P, 0, none⟩ = some bv := by simp only [World.cell?, hwA.block P hPs, hP6]; rfl
        refine wp_value (v := .slice (some ⟨w6.heap.size, 0, none⟩) 1 1) (w' := w6.alloc (.cells (blockC pv lv x.term).toArray 46)) (by simp [execOp, Instr.buildSlice, go_sem, blockC]) (hK9 _ _ ⟨fun _ => s7, ?_⟩)
        (try simp only [Act.put, List.setIfInBounds_toArray, List.set_cons_zero, List.set_cons_succ])
        clear hK9
        have hVA := HVq.out.keep (w' := w6.alloc (.cells (blockC pv lv x.term).toArray 46)) (fun b h0 h1 h2 => (hwA.block b (by omega)).trans ((HF6.out.block b (by omega) (fun e => h2 (.inr (.inl e)))).trans (HBd.out.block b h1))) (by omega)
        have hGB : GBlk w6 (blockC pv lv x.term) x := HG6.out w6 (Nat.le_refl _) (fun _ _ _ => rfl)
        have hone : ∀ u ∈ blockC pv lv x.term, u.oneCell' = true := by
          obtain ⟨pv2, lv2, e2, ⟨a3, c3, e3, _⟩, ⟨a4, c4, e4, _⟩⟩ := hGB
          have e5 : pv = pv2 ∧ lv = lv2 := by simpa [blockC] using e2
          intro u hu
          rw [e5.1, e5.2, e3, e4] at hu
          simp [blockC] at hu
          rcases hu with rfl | rfl | rfl | rfl | rfl | rfl <;> rfl
        have hcur : cur.length ≤ l.length + 1 := by rw [HK.out]; exact HFar.out.le HCq.out.hp
        have hl9 := HC6.out.hl
        obtain ⟨bv', w7, hrun, hV7, hg7⟩ := hVA.push (t := 24) (z := .agg #[.slice none 0 0, .slice none 0 0, .int .i64 0, .int .i64 0, .int .i64 0, .int .i64 0]) (bytes := 80) Tryd.underlying24 (by kernel_rfl) rfl (by decide) (by decide) (by omega) (by omega) (fun b hb => by rcases hb with e | e | e <;> omega) ⟨w6.heap.size, 0, none⟩ (blockC pv lv x.term) rfl (fun j u hu => cells_newS _ _ _ j u hu) hone x (fun w9 hk9 => HG6.out w9 (Nat.le_trans hwAs hk9.1) (fun b h0 h1 => (hk9.2 b (by omega) (by omega) (fun e => by rcases e with e | e | e <;> omega) (fun e => by have := (HVq.out.lt b e.symm).2; omega)).trans (hwA.block b h0)))
        have hbk : ∀ g, bv.ownBlock = some g → Q ≤ g ∧ g < wq.heap.size ∧ ¬ (g = Q ∨ g = X ∨ g = P) := fun g hg => by
          obtain ⟨h1, h2⟩ := HVq.out.lt g hg
          obtain ⟨_, _, h9, _⟩ := HVq.out
          exact ⟨h1, h2, h9 g hg⟩
        obtain ⟨ba7, bc7, hbv7⟩ := hV7.form
        rw [List.length_append, List.length_singleton, HK.out] at hbv7
        subst hbv7
        have HV7 : Hid (RowK 46 6 GBlk w7 Q (fun b => b = Q ∨ b = X ∨ b = P) (.slice ba7 (k + 1) bc7) (cur ++ [x])) := hV7
        have HG7 : Hid ((w6.alloc (.cells (blockC pv lv x.term).toArray 46)).grownBy w7 bv.ownBlock) := hg7
        have HP7 : Hid (w7.heap[P]? = some (.cells #[bv, .int .i64 vals] 26 (0, 0))) := (hg7.block P (by omega) (fun e => (hbk P e.symm).2.2 (.inr (.inr rfl)))).trans ((hwA.block P hPs).trans hP6)
        have HQ7 : Hid (w7.heap[Q]? = some (.cells #[.slice none 0 0, .int .i64 0] 26 (0, 0))) := (hg7.block Q (by omega) (fun e => (hbk Q e.symm).2.2 (.inl rfl))).trans ((hwA.block Q hQs).trans hQ6)
        have HX7 : Hid (w7.heap[X]? = w6.heap[X]?) := (hg7.block X (by omega) (fun e => (hbk X e.symm).2.2 (.inr (.inl rfl)))).trans (hwA.block X (by omega))
        have s8 : w7.cell? ⟨P, 0, none⟩ = some bv := by simp [World.cell?, HP7.out]
        have z8 : w7.frozen? ⟨P, 0, none⟩ = false := by simp [World.frozen?, HP7.out]
        refine cmAnyM_oneK (i := 5) (o := { dst := some 34, op := Go.Op.call { callee := Go.Callee.builtin Go.Builtin.append, args := #[Go.Operand.tmp 30, Go.Operand.tmp 33], argTypes := #[24, 24] }, type := 24, pos := "l19_pack.go:128", after := #[{ on := 1, ground := Go.Ground.data }, { on := 4, ground := Go.Ground.data }, { on := 3, ground := Go.Ground.chain }], guard := none }) rfl rfl (by kernel_rfl) (fun K9 hK9 => ?_)
        refine wp_value (run_addOpU rfl rfl rfl (hrun _)) (hK9 _ _ ⟨fun _ => s8, ?_⟩)
        (try simp only [Act.put, List.setIfInBounds_toArray, List.set_cons_zero, List.set_cons_succ])
        clear hK9 hrun
        have hHeld := s8
        refine wpAnyM_take (i := 6) (oi := { dst := some 35, op := Go.Op.fieldAddr 26 (Go.Operand.tmp 5) 0, type := 0, pos := "l19_pack.go:128", after := #[{ on := 0, ground := Go.Ground.phase }, { on := 1, ground := Go.Ground.phase }, { on := 2, ground := Go.Ground.phase }, { on := 3, ground := Go.Ground.phase }, { on := 4, ground := Go.Ground.phase }, { on := 5, ground := Go.Ground.phase }], guard := none }) (v := ?_) rfl (by kernel_rfl) (by kernel_rfl) (by kernel_rfl) (by kernel_rfl) (fun _ _ _ h => h) (Or.inl ⟨by rfl, ?_⟩) (by assumption) ?_
        rotate_left
        · intro w hSw
          (try dsimp only at hSw)
          go_simp
          (try with_reducible rfl)
        try simp only [Act.put, List.setIfInBounds_toArray, List.set_cons_zero, List.set_cons_succ]
        refine cmAnyM_oneK (i := 7) (o := { dst := none, op := Go.Op.store 24 (Go.Operand.tmp 35) (Go.Operand.tmp 34), type := 0, pos := "l19_pack.go:128", after := #[{ on := 6, ground := Go.Ground.data }, { on := 5, ground := Go.Ground.data }, { on := 5, ground := Go.Ground.chain }, { on := 0, ground := Go.Ground.phase }, { on := 1, ground := Go.Ground.phase }, { on := 2, ground := Go.Ground.phase }, { on := 3, ground := Go.Ground.phase }, { on := 4, ground := Go.Ground.phase }, { on := 5, ground := Go.Ground.phase }], guard := none }) rfl rfl (by kernel_rfl) (fun K9 hK9 => ?_)
        refine wp_skipsV (w' := w7.setCell ⟨P, 0, none⟩ (.slice ba7 (k + 1) bc7)) (by simp [execOp, go_sem, s8, z8]) (hK9 _ _ ⟨fun h => absurd rfl h, ?_⟩)
        clear hK9
        refine wpAnyM_done (by kernel_rfl) ?_ _
        simp only [noThrow, Exit.inBlock, Exit.then]
        go_at_K
        go_wp2_with fail
        have hF9 : Below Q w (w7.setCell ⟨P, 0, none⟩ (.slice ba7 (k + 1) bc7)) := by
          have b1 : Below Q w w6 := (HBq.out.trans (HBd.out.mono (by omega))).trans (HF6.out.below (by omega) (by omega))
          have b2 : Below Q w (w6.alloc (.cells (blockC pv lv x.term).toArray 46)) := b1.trans (hwA.mono (by omega))
          exact (b2.grown HG7.out (by omega) (fun j e => (hbk j e).1)).setCell (p := ⟨P, 0, none⟩) (by show Q ≤ P; omega) _
        have hC9 : CurS (w7.setCell ⟨P, 0, none⟩ (.slice ba7 (k + 1) bc7)) X (.slice va ln vcap) l q2 ok4 := ⟨(Below.heap_setCell _ _ _ X (fun e => hne.1 e.symm)).trans (HX7.out.trans HC6.out.cx), HB.out.keep (by rw [HQQ.out]; exact hF9), HC0.out.vb, HC6.out.hp, HC6.out.hl⟩
        have hkl : k ≤ l.length := by
          rcases HFar.out with h | ⟨h, _⟩
          · exact Nat.le_trans h HCq.out.hp
          · cases h
        refine ⟨⟨cur ++ [x], .slice ba7 (k + 1) bc7, q2, ok4, by simp [HK.out], hC9, hF9, by simp [World.setCell, Array.getElem?_modify, HP7.out], (Below.heap_setCell _ _ _ Q (fun e => hne.2.1 e.symm)).trans HQ7.out, HV7.out.keep (fun b _ _ hb => Below.heap_setCell _ _ _ b (fun e => hb (.inr (.inr e)))) (by simp), ?_, HSq.out.step (by rw [HK.out]; exact hlt) (fun y0 ys _ ho => HO6.out y0 ys ho)⟩, by simp [intOf]; omega⟩
        rw [List.length_append, List.length_singleton, HK.out]
        exact HFar.out.step HQ6.out.1 HQ6.out.2
      | false =>
        go_wp2_with fail
        have hex : false = true → ¬ (cur.length : Int) < n := fun h => by cases h
        have HID : Hid (∀ F0, On l 0 (fnN F0) → (⟨cur, vals⟩ : FnD) = F0 ∧ false = true ∧ On l q []) := fun F0 ho => by
          obtain ⟨e1, c1, o1⟩ := HO1.out _ _ ho
          obtain ⟨e2, c2, o2⟩ := HSq.out.whole hex F0.blocks [] c1 (by simpa using o1)
          obtain ⟨fb, fv⟩ := F0
          simp at e1 e2
          exact ⟨by rw [e1, e2], c2, o2⟩
        have hcur : cur.length ≤ 1100000 := by have := HFar.out.le HCq.out.hp; have := HCq.out.hl; have := HK.out; omega
        have HFA : Hid (FnAt wq (.agg #[bv, .int .i64 vals]) ⟨cur, vals⟩) := ⟨bv, rfl, blocks_read HVq.out hcur⟩
        have HCL : Hid (cur.length ≤ 1100000) := hcur
        clear hex hcur x2 p0 p1'
        obtain ⟨F, HFD⟩ : ∃ F, Hid ((⟨cur, vals⟩ : FnD) = F) := ⟨_, rfl⟩
        rw [HFD.out] at HFA HID
        refine (spec_packFn _ F wq HFA.out).mono ?_
        rintro e w5 ⟨u, rfl, hu, hB⟩
        have HB5 : Hid (Below Q w w5) := HBq.out.trans (hB.mono (by have := (Array.getElem?_eq_some_iff.1 HQq.out).1; omega))
        have HBq5 : Hid (Below wq.heap.size wq w5) := hB
        have hU5 : BytesAt w5 u (packFnB F) := hu.at
        have hQ5 : w5.heap[Q]? = some (.cells #[.slice none 0 0, .int .i64 0] 26 (0, 0)) := (hB.block Q (Array.getElem?_eq_some_iff.1 HQq.out).1).trans HQq.out
        have hP5 : w5.heap[P]? = some (.cells #[bv, .int .i64 vals] 26 (0, 0)) := (hB.block P (Array.getElem?_eq_some_iff.1 HPq.out).1).trans HPq.out
        have hX5 : w5.heap[X]? = some (.cells #[.slice va ln vcap, .int .i64 (q : Int), .bool false] 72 (0, 0)) := (hB.block X HCq.out.lt).trans HCq.out.cx
        have hBb : BytesAt w5 (.slice va ln vcap) l := HCq.out.bs.keep hB
        have cv1 := conv_bytes u (packFnB F) w5 hU5
        have cv2 := conv_bytes (.slice va ln vcap) l w5 hBb
        have q0 : w5.cell? ⟨Q, 0, none⟩ = some (.slice none 0 0) := by simp [World.cell?, hQ5]
        have q1 : w5.cell? ⟨Q, 1, none⟩ = some (.int .i64 0) := by simp [World.cell?, hQ5]
        have qz : ∀ j, w5.frozen? ⟨Q, j, none⟩ = false := fun j => by simp [World.frozen?, hQ5]
        obtain ⟨ba, bc, hbv⟩ := HVq.out.form
        subst hbv
        have p0 : w5.cell? ⟨P, 0, none⟩ = some (.slice ba cur.length bc) := by simp [World.cell?, hP5]
        have p1' : w5.cell? ⟨P, 1, none⟩ = some (.int .i64 vals) := by simp [World.cell?, hP5]
        have x1 : w5.cell? ⟨X, 1, none⟩ = some (.int .i64 (q : Int)) := by simp [World.cell?, hX5]
        have x2 : w5.cell? ⟨X, 2, none⟩ = some (.bool false) := by simp [World.cell?, hX5]
        have HNO : Hid (¬ (false = true ∧ q = l.length ∧ PackOk F ∧ packB (fnN F) = l) → UnAns l ⟨[], 0⟩ false) := fun hn => ⟨fun F0 h1 h2 => by
          obtain ⟨e1, e2, e3⟩ := HID.out F0 (On.start h2 h1.2)
          exact absurd ⟨e2, e3.ends, by rw [e1]; exact h1, by rw [e1]; exact h2⟩ hn, fun h => absurd h (by simp), fun _ => rfl⟩
        clear hu hB hU5 hQ5 hP5 hX5 hBb
        obtain ⟨pk, HPK⟩ : ∃ b, Hid (packFnOk F = b) := ⟨_, rfl⟩
        rw [HPK.out]
        go_wp2_with fail
        refine bodyPost_ret (v := .tuple #[.agg #[.slice none 0 0, .int .i64 0], .bool false]) (by simp [results, Tryd.results12, go_sem, q0, q1]) rfl ?_
        refine ⟨⟨[], 0⟩, .slice none 0 0, false, rfl, ⟨.slice none 0 0, rfl, none, 0, rfl, Nat.zero_le _, fun h => absurd h (by simp)⟩, ?_, HNO.out (fun h => absurd h.1 (by simp))⟩
        rw [HQQ.out]
        exact ((HB5.out.setCell (p := ⟨Q, 0, none⟩) (Nat.le_refl _) _).setCell (p := ⟨Q, 1, none⟩) (Nat.le_refl _) _)
    · go_wp2_with fail
      have hex : ok' = true → ¬ (cur.length : Int) < n := fun _ => by rw [HK.out]; omega
      have HID : Hid (∀ F0, On l 0 (fnN F0) → (⟨cur, vals⟩ : FnD) = F0 ∧ ok' = true ∧ On l q []) := fun F0 ho => by
        obtain ⟨e1, c1, o1⟩ := HO1.out _ _ ho
        obtain ⟨e2, c2, o2⟩ := HSq.out.whole hex F0.blocks [] c1 (by simpa using o1)
        obtain ⟨fb, fv⟩ := F0
        simp at e1 e2
        exact ⟨by rw [e1, e2], c2, o2⟩
      have hcur : cur.length ≤ 1100000 := by have := HFar.out.le HCq.out.hp; have := HCq.out.hl; have := HK.out; omega
      have HFA : Hid (FnAt wq (.agg #[bv, .int .i64 vals]) ⟨cur, vals⟩) := ⟨bv, rfl, blocks_read HVq.out hcur⟩
      have HCL : Hid (cur.length ≤ 1100000) := hcur
      clear hex hcur x2 p0 p1'
      obtain ⟨F, HFD⟩ : ∃ F, Hid ((⟨cur, vals⟩ : FnD) = F) := ⟨_, rfl⟩
      rw [HFD.out] at HFA HID
      refine (spec_packFn _ F wq HFA.out).mono ?_
      rintro e w5 ⟨u, rfl, hu, hB⟩
      have HB5 : Hid (Below Q w w5) := HBq.out.trans (hB.mono (by have := (Array.getElem?_eq_some_iff.1 HQq.out).1; omega))
      have HBq5 : Hid (Below wq.heap.size wq w5) := hB
      have hU5 : BytesAt w5 u (packFnB F) := hu.at
      have hQ5 : w5.heap[Q]? = some (.cells #[.slice none 0 0, .int .i64 0] 26 (0, 0)) := (hB.block Q (Array.getElem?_eq_some_iff.1 HQq.out).1).trans HQq.out
      have hP5 : w5.heap[P]? = some (.cells #[bv, .int .i64 vals] 26 (0, 0)) := (hB.block P (Array.getElem?_eq_some_iff.1 HPq.out).1).trans HPq.out
      have hX5 : w5.heap[X]? = some (.cells #[.slice va ln vcap, .int .i64 (q : Int), .bool ok'] 72 (0, 0)) := (hB.block X HCq.out.lt).trans HCq.out.cx
      have hBb : BytesAt w5 (.slice va ln vcap) l := HCq.out.bs.keep hB
      have cv1 := conv_bytes u (packFnB F) w5 hU5
      have cv2 := conv_bytes (.slice va ln vcap) l w5 hBb
      have q0 : w5.cell? ⟨Q, 0, none⟩ = some (.slice none 0 0) := by simp [World.cell?, hQ5]
      have q1 : w5.cell? ⟨Q, 1, none⟩ = some (.int .i64 0) := by simp [World.cell?, hQ5]
      have qz : ∀ j, w5.frozen? ⟨Q, j, none⟩ = false := fun j => by simp [World.frozen?, hQ5]
      obtain ⟨ba, bc, hbv⟩ := HVq.out.form
      subst hbv
      have p0 : w5.cell? ⟨P, 0, none⟩ = some (.slice ba cur.length bc) := by simp [World.cell?, hP5]
      have p1' : w5.cell? ⟨P, 1, none⟩ = some (.int .i64 vals) := by simp [World.cell?, hP5]
      have x1 : w5.cell? ⟨X, 1, none⟩ = some (.int .i64 (q : Int)) := by simp [World.cell?, hX5]
      have x2 : w5.cell? ⟨X, 2, none⟩ = some (.bool ok') := by simp [World.cell?, hX5]
      have HNO : Hid (¬ (ok' = true ∧ q = l.length ∧ PackOk F ∧ packB (fnN F) = l) → UnAns l ⟨[], 0⟩ false) := fun hn => ⟨fun F0 h1 h2 => by
        obtain ⟨e1, e2, e3⟩ := HID.out F0 (On.start h2 h1.2)
        exact absurd ⟨e2, e3.ends, by rw [e1]; exact h1, by rw [e1]; exact h2⟩ hn, fun h => absurd h (by simp), fun _ => rfl⟩
      clear hu hB hU5 hQ5 hP5 hX5 hBb
      obtain ⟨pk, HPK⟩ : ∃ b, Hid (packFnOk F = b) := ⟨_, rfl⟩
      rw [HPK.out]
      cases ok' with
      | false =>
        go_wp2_with fail
        refine bodyPost_ret (v := .tuple #[.agg #[.slice none 0 0, .int .i64 0], .bool false]) (by simp [results, Tryd.results12, go_sem, q0, q1]) rfl ?_
        refine ⟨⟨[], 0⟩, .slice none 0 0, false, rfl, ⟨.slice none 0 0, rfl, none, 0, rfl, Nat.zero_le _, fun h => absurd h (by simp)⟩, ?_, HNO.out (fun h => absurd h.1 (by simp))⟩
        rw [HQQ.out]
        exact ((HB5.out.setCell (p := ⟨Q, 0, none⟩) (Nat.le_refl _) _).setCell (p := ⟨Q, 1, none⟩) (Nat.le_refl _) _)
      | true =>
        by_cases hq : (q : Int) = (ln : Int)
        · cases pk with
          | false =>
            go_wp2_with fail
            refine bodyPost_ret (v := .tuple #[.agg #[.slice none 0 0, .int .i64 0], .bool false]) (by simp [results, Tryd.results12, go_sem, q0, q1]) rfl ?_
            refine ⟨⟨[], 0⟩, .slice none 0 0, false, rfl, ⟨.slice none 0 0, rfl, none, 0, rfl, Nat.zero_le _, fun h => absurd h (by simp)⟩, ?_, HNO.out (fun h => by have h9 := HPK.out; simp [packFnOk, h.2.2.1] at h9)⟩
            rw [HQQ.out]
            exact ((HB5.out.setCell (p := ⟨Q, 0, none⟩) (Nat.le_refl _) _).setCell (p := ⟨Q, 1, none⟩) (Nat.le_refl _) _)
          | true =>
            have hok : PackOk F := by
              have h := HPK.out
              simpa [packFnOk] using h
            have HPO : Hid (PackOk F) := hok
            by_cases he : packFnB F = l
            · have hne : ((bs (packFnB F)).toList == (bs l).toList) = true := by rw [bs_eq]; exact decide_eq_true he
              have HE : Hid (packFnB F = l) := he
              clear he hok
              go_wp2_with fail
              refine bodyPost_ret (v := .tuple #[.agg #[.slice ba cur.length bc, .int .i64 vals], .bool true]) (by simp [results, Tryd.results12, go_sem, q0, q1]) rfl ?_
              have hk : packB (fnN F) = l := by rw [← (packFn_yes HPO.out).1]; exact HE.out
              have hB9 : Below Q w ((w5.setCell ⟨Q, 0, none⟩ (.slice ba cur.length bc)).setCell ⟨Q, 1, none⟩ (.int .i64 vals)) := (HB5.out.setCell (p := ⟨Q, 0, none⟩) (Nat.le_refl _) _).setCell (p := ⟨Q, 1, none⟩) (Nat.le_refl _) _
              have hV9 := HVq.out.keep (w' := (w5.setCell ⟨Q, 0, none⟩ (.slice ba cur.length bc)).setCell ⟨Q, 1, none⟩ (.int .i64 vals)) (fun b h0 h1 h2 => (Below.heap_setCell _ _ _ b (fun e => h2 (.inl e))).trans ((Below.heap_setCell _ _ _ b (fun e => h2 (.inl e))).trans (HBq5.out.block b h1))) (by simpa using HBq5.out.size)
              have hfd := HFD.out
              subst hfd
              refine ⟨⟨cur, vals⟩, _, true, rfl, ⟨_, rfl, blocks_read hV9 HCL.out⟩, by rw [HQQ.out]; exact hB9, fun F0 h1 h2 => ⟨rfl, (HID.out F0 (On.start h2 h1.2)).1⟩, fun _ => ⟨HPO.out, hk⟩, fun h => absurd h (by simp)⟩
            · have hne : ((bs (packFnB F)).toList == (bs l).toList) = false := by rw [bs_eq]; exact decide_eq_false he
              have HE : Hid (¬ packFnB F = l) := he
              clear he hok
              go_wp2_with fail
              refine bodyPost_ret (v := .tuple #[.agg #[.slice none 0 0, .int .i64 0], .bool false]) (by simp [results, Tryd.results12, go_sem, q0, q1]) rfl ?_
              refine ⟨⟨[], 0⟩, .slice none 0 0, false, rfl, ⟨.slice none 0 0, rfl, none, 0, rfl, Nat.zero_le _, fun h => absurd h (by simp)⟩, ?_, HNO.out (fun h => HE.out (by rw [(packFn_yes HPO.out).1]; exact h.2.2.2))⟩
              rw [HQQ.out]
              exact ((HB5.out.setCell (p := ⟨Q, 0, none⟩) (Nat.le_refl _) _).setCell (p := ⟨Q, 1, none⟩) (Nat.le_refl _) _)
        · have HNQ : Hid (¬ (q : Int) = (ln : Int)) := hq
          go_wp2_with fail
          refine bodyPost_ret (v := .tuple #[.agg #[.slice none 0 0, .int .i64 0], .bool false]) (by simp [results, Tryd.results12, go_sem, q0, q1]) rfl ?_
          refine ⟨⟨[], 0⟩, .slice none 0 0, false, rfl, ⟨.slice none 0 0, rfl, none, 0, rfl, Nat.zero_le _, fun h => absurd h (by simp)⟩, ?_, HNO.out (fun h => HNQ.out (by rw [h.2.1, HLN.out]))⟩
          rw [HQQ.out]
          exact ((HB5.out.setCell (p := ⟨Q, 0, none⟩) (Nat.le_refl _) _).setCell (p := ⟨Q, 1, none⟩) (Nat.le_refl _) _)
end Go.Proofs.YthdioeeanodjiaaDoor
