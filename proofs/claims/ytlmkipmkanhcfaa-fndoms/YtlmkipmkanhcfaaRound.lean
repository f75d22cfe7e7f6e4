/- One round over the table of sets: the program's domRound. -/
import Derived.Test.YtlmkipmkanhcfaaRoundB
import Derived.Test.YtlmkipmkanhcfaaLastIn
namespace Go.Proofs.Ytlmkipmkanhcfaa
open Go.ChangeShapes Go.WideShapes Go.ChangeAt Go.RowKit Go.Shelf
set_option linter.unusedVariables false
attribute [local go_sem] Oper.semAt_some

theorem FrX.own {β : Type} {X : Nat} {w : World} : OwnFrom w.heap.size (fun (_ : β) W => FrX X w W) := fun s A B row hs hg hr =>
  ⟨Nat.le_trans hs.size hg.size, fun k hk hx => (hg.block k (Nat.lt_of_lt_of_le hk hs.size) (fun e => by have := (hr k e.symm).1; omega)).trans (hs.block k hk hx)⟩
theorem TabAt.own {β : Type} {X B : Nat} {T : β → Tab} (hX : X < B) : OwnFrom B (fun (s : β) W => TabAt W X (T s)) := fun s A W row hs hg hr =>
  (hg.block X hs.lt (fun e => by have := (hr X e.symm).1; omega)).trans hs
theorem FrX.keepsFrom {X B : Nat} {w w' : World} (h : FrX X w w') (hX : X < B) : KeepsFrom B w w' := ⟨h.size, fun i o hB hi ho => (h.block i (Array.getElem?_eq_some_iff.1 hi).1 (by omega)).trans hi⟩

/-- The marks that ranges over a function leave behind. -/
def marksOf (Ds : List Nat) : List Deferred := Ds.map (fun D => { target := .collected D, args := #[] })
structure MarksAt (lo : Nat) (w : World) (Ds : List Nat) : Prop where
  nd : Ds.Nodup
  each : ∀ D ∈ Ds, lo ≤ D ∧ w.heap[D]? = some (.deferred (some []))
theorem MarksAt.keep {lo X : Nat} {w w' : World} {Ds : List Nat} (h : MarksAt lo w Ds) (hf : FrX X w w') (hX : X < lo) : MarksAt lo w' Ds :=
  ⟨h.nd, fun D hD => ⟨(h.each D hD).1, (hf.block D (Array.getElem?_eq_some_iff.1 (h.each D hD).2).1 (by have := (h.each D hD).1; omega)).trans (h.each D hD).2⟩⟩
/-- At the return they are taken, one by one. -/
theorem leaves_marks {F : Fence} {n : Nat} {P : Program} {fn : Func} {tmps : Array Value} {R : Ending → World → Prop} {lo : Nat} : ∀ (Ds : List Nat) (w : World), MarksAt lo w Ds →
    (∀ w', Below lo w w' → (∀ k, k < lo → w'.heap[k]? = w.heap[k]?) → LeavesIn F n P fn tmps R [] .returning w') → lo ≤ w.heap.size → LeavesInM F n P fn tmps R (marksOf Ds) .returning w
  | [], w, _, h, hl => h w (Below.refl _ _) (fun _ _ => rfl)
  | D :: Ds, w, hm, h, hl => by
    have hD := hm.each D (by simp)
    have hput : ∀ k, k ≠ D → (w.putObj D (.deferred none)).heap[k]? = w.heap[k]? := fun k hk => World.putObj_heap_other (by omega)
    have hbel : Below lo w (w.putObj D (.deferred none)) := ⟨rfl, rfl, rfl, by simp [World.putObj], fun k hk => hput k (by have := hD.1; omega)⟩
    refine ⟨by simp, .inl ⟨_, _, rfl, run_takeDeferred hD.2, ?_⟩⟩
    refine leaves_marks Ds _ ⟨(List.nodup_cons.1 hm.nd).2, fun E hE => ⟨(hm.each E (by simp [hE])).1, ?_⟩⟩ (fun w' hb hk => h w' (hbel.trans hb) (fun k hk2 => (hk k hk2).trans (hput k (by omega)))) ?_
    · rw [hput E (fun e => (List.nodup_cons.1 hm.nd).1 (e ▸ hE))]
      exact (hm.each E (by simp [hE])).2
    · have := hbel.size
      omega

theorem operIn_wide {P : Program} {Q : Exit → Act → World → Prop} {n : Nat} {o : Oper} {a : Act} {w : World} {K : Act → World → Prop} (hd : ∀ c, o.op ≠ .defer c) (h : o.wp P a w K Q) : o.wpIn Fence.wide n P a w K Q := by
  unfold Oper.wpIn
  refine ⟨fun _ _ => trivial, ?_⟩
  rw [Oper.semAt_eq _ _ _ hd]
  unfold Oper.wp at h
  generalize (execOp a.eval o).run P w = r at *
  cases r with
  | ok x w' =>
    cases x <;> simp only [Oper.upon, Oper.uponIn] at h ⊢ <;>
      first
        | exact h
        | exact ⟨fun e => by simp [Fence.wide] at e, callsIn_wide.2 h⟩
        | exact ⟨fun e => by simp [Fence.wide] at e, fun c cs _ => let ⟨v, w', r, s⟩ := h c cs; ⟨v, w', r, stepsIn_wide.2 s⟩⟩
  | halt x w' => cases x <;> simp only [Oper.upon, Oper.uponIn] at h ⊢ <;> exact h
/-- A whole table out of its block, and into one. -/
theorem wp_load_tab {o : Oper} {a : Act} {w : World} {K : Act → World → Prop} {Q : Exit → Act → World → Prop} (x : Operand) (ho : o.op = .load 83 x) (B : Nat) (hx : a.eval x = .pointer (some ⟨B, 0, none⟩)) (T : Tab) (hT : TabAt w B T)
    (h : K (a.put o.dst (tabV T)) w) : o.wp Try.prog a w K Q := by
  refine wp_load_mid 83 x ho B 0 hx (tabC T) _ ?_ Try.underlying83 rfl (by rw [tabC_len]; exact info_tab) h
  have := range_of_row hT
  simpa using this
theorem wp_store_tab {o : Oper} {a : Act} {w : World} {K : Act → World → Prop} {Q : Exit → Act → World → Prop} (x y : Operand) (ho : o.op = .store 83 x y) (B : Nat) (hx : a.eval x = .pointer (some ⟨B, 0, none⟩)) (T U : Tab) (hy : a.eval y = tabV U) (hT : TabAt w B T)
    (h : K (a.put o.dst undef) (w.setRow B (tabC U).toArray)) : o.wp Try.prog a w K Q := by
  unfold Oper.wp execOp
  simp only [ho, hx, hy, tabV, Instr.storeAt, Instr.sureAddr, Sem.run_bind, Sem.run_pure, Result.andThen_ok, run_storeVar_row w B 83 83 (tabC T).toArray (tabC U).toArray hT (by rw [List.size_toArray, tabC_len]; exact info_tab) (by simp [tabC_len]) (all_oneCell_toArray (tabC_one _))]
  exact h

theorem wpListIn_load_tab {n : Nat} {ops : Array Oper} {rest : List Oper} {o : Oper} {a : Act} {w : World} {Q : Exit → Act → World → Prop} (hg : o.guard = none) (x : Operand) (ho : o.op = .load 83 x) (B : Nat) (hx : a.eval x = .pointer (some ⟨B, 0, none⟩)) (T : Tab) (hT : TabAt w B T)
    (h : wpListIn Fence.wide n Try.prog ops Q rest (a.put o.dst (tabV T)) w) : wpListIn Fence.wide n Try.prog ops Q (o :: rest) a w :=
  wpListIn_plain hg fun K hK => operIn_wide (by intro c e; rw [ho] at e; cases e) (wp_load_tab x ho B hx T hT (hK _ _ h))
theorem wpListIn_store_tab {n : Nat} {ops : Array Oper} {rest : List Oper} {o : Oper} {a : Act} {w : World} {Q : Exit → Act → World → Prop} (hg : o.guard = none) (x y : Operand) (ho : o.op = .store 83 x y) (B : Nat) (hx : a.eval x = .pointer (some ⟨B, 0, none⟩)) (T U : Tab) (hy : a.eval y = tabV U) (hT : TabAt w B T)
    (h : wpListIn Fence.wide n Try.prog ops Q rest (a.put o.dst undef) (w.setRow B (tabC U).toArray)) : wpListIn Fence.wide n Try.prog ops Q (o :: rest) a w :=
  wpListIn_plain hg fun K hK => operIn_wide (by intro c e; rw [ho] at e; cases e) (wp_store_tab x y ho B hx T U hy hT (hK _ _ h))

set_option maxRecDepth 100000 in
set_option maxHeartbeats 8000000 in
theorem domRound_any (v ov : Value) (F : FnD) (o : List Int) (T : Tab) (w : World) (hF : FnAt w v F) (hS : FnShape F) (ho : IntsAt w ov o) (hr : ∀ x ∈ o, 0 ≤ x ∧ x < (F.blocks.length : Int)) :
    Calls Try.prog 73 #[v, ov, tabV T] w fun e w' => GivesTab w (rfold (edges (succsN F) o) T) e w' := by
  have HF : Hid (FnAt w v F) := hF
  obtain ⟨m, HM⟩ : ∃ n, Hid (F.blocks.length = n) := ⟨_, rfl⟩
  obtain ⟨vals, HV⟩ : ∃ x, Hid (F.values = x) := ⟨_, rfl⟩
  obtain ⟨ba, bcap, rfl⟩ := hF.out HM.out HV.out
  have h16 : m ≤ 16 := by have := hS.2.1; rw [HM.out] at this; omega
  have HSH : Hid (FnShape F) := hS
  have HR : Hid (∀ x ∈ o, 0 ≤ x ∧ x < (m : Int)) := by rw [← HM.out]; exact hr
  have HO : Hid (IntsAt w ov o) := ho
  obtain ⟨oa, ocap, rfl, hmx, _⟩ := ho
  have HC := HO.out.cells
  obtain ⟨n, HN⟩ : ∃ n, Hid (o.length = n) := ⟨_, rfl⟩
  rw [HN.out] at hmx HC ⊢
  have HOC : Hid (∀ wr, Below w.heap.size w wr → ∀ k, k < n → ∃ b off, oa = some ⟨b, off, none⟩ ∧ wr.cell? ⟨b, off + k, none⟩ = some (.int .i64 (o.getD k 0))) := HC
  have HEL : Hid (∀ k, k < n → ∃ xn : Nat, o.getD k 0 = (xn : Int) ∧ xn < m) := fun k hk => by
    have := HR.out _ (getD_mem (by rw [HN.out]; exact hk))
    exact ⟨(o.getD k 0).toNat, by omega, by omega⟩
  clear hr HC hF hS
  unfold tabV
  obtain ⟨c, hc⟩ : ∃ c, (tabC T).toArray = c := ⟨_, rfl⟩
  have HCC : Hid ((tabC T).toArray = c) := hc
  rw [hc]
  clear hc
  refine (callsIn_wide (n := 3)).1 ?_
  refine callsIn_of_wp_marks Try.func73 rfl trivial ?_ rfl
  simp only [Try.ntmps73, List.size_toArray, List.length_cons, List.length_nil, Nat.reduceAdd, Nat.reduceSub, Array.replicate_succ, Array.replicate_zero, List.push_toArray, List.append_toArray, List.nil_append, List.cons_append]
  gi_wp2_with fail
  obtain ⟨wA, hwA⟩ : ∃ wA, ((w.alloc (.cells #[.slice ba m bcap, .int .i64 vals] 26)).alloc (.cells c 83)).alloc (.cells Try.zeroCells83 83) = wA := ⟨_, rfl⟩
  have hsA : wA.heap.size = w.heap.size + 3 := by rw [← hwA]; simp
  have BA : Hid (Below w.heap.size w wA) := by rw [← hwA]; repeat (first | exact Below.refl _ _ | apply Below.drew | refine Below.alloc ?_ (by simp <;> omega) _ | refine Below.setCell ?_ (by simp <;> omega) _)
  have XA : Hid (wA.heap[w.heap.size]? = some (.cells #[.slice ba m bcap, .int .i64 vals] 26 (0, 0))) := by
    rw [← hwA]
    exact (Below.heap_alloc _ _ _ (by simp; omega)).trans ((Below.heap_alloc _ _ _ (by simp)).trans (World.alloc_heap_new _ _))
  have TA : Hid (TabAt wA (w.heap.size + 1) T) := by
    rw [← hwA, ← HCC.out]
    exact (Below.heap_alloc _ _ _ (by simp)).trans (heap_last (by simp))
  have RA : Hid (TabAt wA (w.heap.size + 1 + 1) (fun _ _ => false)) := by
    rw [← hwA, zeroCells_tab]
    exact heap_last (by simp)
  rw [hwA]
  clear hwA
  refine wpIn_loop (fun a W => ∃ (k : Nat) (Ds : List Nat) (x8 x13 x14 x15 x16 x17 x18 x19 x20 x21 x22 x35 : Value), k ≤ n ∧ a = { tmps := #[.agg #[.slice ba m bcap, .int .i64 vals], .slice oa n ocap, .agg c, .pointer (some ⟨w.heap.size, 0, none⟩), undef, .pointer (some ⟨w.heap.size + 1, 0, none⟩), .pointer (some ⟨w.heap.size + 1 + 1, 0, none⟩), undef, x8, undef, .slice oa n ocap, .int .i64 (n : Int), .int .i64 (k : Int), x13, x14, x15, x16, x17, x18, x19, x20, x21, x22, undef, undef, undef, undef, undef, undef, undef, undef, undef, undef, undef, undef, x35, undef], defers := marksOf Ds } ∧ MarksAt (w.heap.size + 3) W Ds ∧ Below w.heap.size w W ∧ W.heap[w.heap.size]? = some (.cells #[.slice ba m bcap, .int .i64 vals] 26 (0, 0)) ∧ TabAt W (w.heap.size + 1) (rfold (edges (succsN F) (o.take k)) T) ∧ TabAt W (w.heap.size + 1 + 1) (fun _ _ => false)) (fun a _ => n - (intOf (a.eval (.tmp 12))).toNat) ?_ ?_
  · exact ⟨0, [], undef, undef, undef, undef, undef, undef, undef, undef, undef, undef, undef, undef, Nat.zero_le _, rfl, ⟨List.nodup_nil, by simp⟩, BA.out, XA.out, TA.out, RA.out⟩
  rintro a W ⟨k, Ds, x8, x13, x14, x15, x16, x17, x18, x19, x20, x21, x22, x35, hk, rfl, hM, hB, hX, hT, hR⟩
  have MM : Hid (MarksAt (w.heap.size + 3) W Ds) := hM
  have HB : Hid (Below w.heap.size w W) := hB
  have HX : Hid (W.heap[w.heap.size]? = some (.cells #[.slice ba m bcap, .int .i64 vals] 26 (0, 0))) := hX
  have HT : Hid (TabAt W (w.heap.size + 1) (rfold (edges (succsN F) (o.take k)) T)) := hT
  have HRR : Hid (TabAt W (w.heap.size + 1 + 1) (fun _ _ => false)) := hR
  have hsW : w.heap.size + 3 ≤ W.heap.size := by have := hR.lt; omega
  have c0 : W.cell? ⟨w.heap.size, 0, none⟩ = some (.slice ba m bcap) := by simp [World.cell?, hX]
  have c1 : W.cell? ⟨w.heap.size, 1, none⟩ = some (.int .i64 vals) := by simp [World.cell?, hX]
  clear hM hB hX hT hR BA XA TA RA
  by_cases hlt : (k : Int) < (n : Int)
  · obtain ⟨xn, hxe, hxm⟩ := HEL.out k (by omega)
    obtain ⟨b, off, rfl, q1⟩ := HOC.out W HB.out k (by omega)
    rw [hxe] at q1
    have HXE : Hid (o.getD k 0 = (xn : Int)) := hxe
    obtain ⟨bb, boff, x, rfl, hx, t0, t1, t2, t3⟩ := (HF.out.later HB.out).end (j := xn) hxm
    have HSX : Hid (succsN F xn = succsT x.term) := succsN_at hx
    have hbb : bb < W.heap.size := World.block_lt_of_cell? W _ t0
    have hw0 : w.heap.size < W.heap.size := by omega
    have hxmi : (xn : Int) < (m : Int) := by omega
    obtain ⟨xp, xl, xk, xa, xt, xe⟩ := x
    dsimp only at t0 t1 t2 t3 HSX
    clear hxe hx
    gi_wp2_with (refine ⟨trivial, ?_⟩; gi_at_call 36; refine (callsIn_wide.2 (followers_any _ _ _ _ _)).mono ?_; rintro e w' ⟨rfl, rfl⟩)
    obtain ⟨W2, hW2⟩ : ∃ W2, (W.alloc (.cells #[.int .i64 (xn : Int)] 3)).alloc (.cells #[.int .i64 xk, .int .i64 xa, .int .i64 xt, .int .i64 xe] 48) = W2 := ⟨_, rfl⟩
    have hs2 : W2.heap.size = W.heap.size + 2 := by rw [← hW2]; simp
    have FR2 : Hid (Below W.heap.size W W2) := by rw [← hW2]; exact (Bel.alloc _ _).trans ((Bel.alloc _ _).mono (by simp))
    have hT2 : EndBox W2 (W.heap.size + 1) xk xa xt xe := by
      rw [← hW2]
      have := EndBox.new (W.alloc (.cells #[.int .i64 (xn : Int)] 3)) xk xa xt xe
      rw [World.size_alloc] at this
      exact this
    have BX2 : Hid (Boxed W2 W.heap.size 3 (.int .i64 (xn : Int))) := by rw [← hW2]; exact (Boxed.new W 3 _).alloc _
    have B2 : Hid (Below w.heap.size w W2) := Bel.after HB.out FR2.out
    have TT2 : Hid (TabAt W2 (w.heap.size + 1) (rfold (edges (succsN F) (o.take k)) T)) := HT.out.keep FR2.out
    rw [hW2]
    clear hW2 c0 c1 t0 t1 t2 t3 q1
    have hQ : ∀ x ∈ succsV xk xt xe, 0 ≤ x ∧ x < (m : Int) := fun x hx => by
      have := succs_in HSH.out xn x (by rw [HSX.out]; exact hx)
      rw [HM.out] at this
      exact this
    refine wpIn_rangeFunc_ownG (α := {x : Int // 0 ≤ x ∧ x < (m : Int)}) rfl (by omega) (gf := 64) (lb := #[.pointer (some ⟨W.heap.size + 1, 0, none⟩)]) rfl trivial (enters_of Try.func64 (by kernel_rfl) rfl)
      (followers_stops (fun x => 0 ≤ x ∧ x < (m : Int)) 2 (by omega) (W.heap.size + 1) xk xa xt xe hQ W2 (by omega) hT2) keepsB_t (keepsB_b (by omega)) (Below.refl _ _) (fun _ => rfl)
      (fun pre Wx => TabAt Wx (w.heap.size + 1) (rfold (pre.map (fun s => (xn, s.1.toNat))) (rfold (edges (succsN F) (o.take k)) T)) ∧ FrX (w.heap.size + 1) W2 Wx ∧ Below w.heap.size w Wx)
      (fun _ _ _ => False)
      (OwnFrom.and (TabAt.own (by omega)) (OwnFrom.and FrX.own (ownFrom_below (Nat.le_refl _) (by omega))))
      (fun _ _ _ _ _ hs _ _ => hs)
      ⟨TT2.out, FrX.refl _ _, B2.out⟩
      (fun x => { tmps := #[.agg #[.slice (some ⟨bb, boff, none⟩) m bcap, .int .i64 vals], .slice (some ⟨b, off, none⟩) n ocap, .agg c, .pointer (some ⟨w.heap.size, 0, none⟩), undef, .pointer (some ⟨w.heap.size + 1, 0, none⟩), .pointer (some ⟨w.heap.size + 1 + 1, 0, none⟩), undef, .pointer (some ⟨W.heap.size, 0, none⟩), .int .i64 x.1, .slice (some ⟨b, off, none⟩) n ocap, .int .i64 (n : Int), .int .i64 (k : Int), .bool true, .pointer (some ⟨b, off + k, none⟩), .int .i64 (xn : Int), .pointer (some ⟨w.heap.size, 0, none⟩), .slice (some ⟨bb, boff, none⟩) m bcap, .int .i64 (xn : Int), .pointer (some ⟨bb, boff + xn * 6, none⟩), .pointer (some ⟨bb, boff + xn * 6 + 2, none⟩), .agg #[.int .i64 xk, .int .i64 xa, .int .i64 xt, .int .i64 xe], .func (.func 64) #[] #[.pointer (some ⟨W.heap.size + 1, 0, none⟩)], .int .i64 x.1, undef, undef, undef, undef, undef, undef, undef, undef, undef, undef, undef, x35, undef], defers := [] }) ?assign ?body ?done ?stop
    case assign =>
      intro l x Wx K hK
      gi_wp2
      exact hK
    case body =>
      rintro l pre ⟨x, hx0, hx1⟩ Wx ⟨hTx, hFx, hBx⟩ hlt2
      obtain ⟨sn, rfl⟩ : ∃ sn : Nat, x = (sn : Int) := ⟨x.toNat, by omega⟩
      have HTX : Hid (TabAt Wx (w.heap.size + 1) (rfold (pre.map (fun s => (xn, s.1.toNat))) (rfold (edges (succsN F) (o.take k)) T))) := hTx
      have HFX : Hid (FrX (w.heap.size + 1) W2 Wx) := hFx
      have HBX : Hid (Below w.heap.size w Wx) := hBx
      have BXX : Hid (Boxed Wx W.heap.size 3 (.int .i64 (xn : Int))) := (hFx.block _ (by omega) (by omega)).trans BX2.out
      clear hTx hFx hBx hlt2
      gi_wp2_with fail
      refine region_round 11 (fun Wz => TabAt Wz (w.heap.size + 1) (rfold (pre.map (fun s => (xn, s.1.toNat))) (rfold (edges (succsN F) (o.take k)) T)) ∧ Boxed Wz W.heap.size 3 (.int .i64 (xn : Int))) (by kernel_rfl) (by kernel_rfl) ?_
      refine domBody (w.heap.size + 1) W.heap.size _ xn sn (by omega) (by omega) _ ?_ ?_ ?_ ?_ Wx.drew HTX.out BXX.out _ ?_ ?_
      · rfl
      · rfl
      · rfl
      · rfl
      · exact fun c a w h => h
      intro a' W' fr bl tt
      have hsx := HFX.out.size
      have fr2 : FrX (w.heap.size + 1) Wx W' := ⟨fr.size, fr.block⟩
      refine ⟨fr2.keepsFrom (by omega), fr2.block _ (by omega) (by omega), ?_, HFX.out.trans fr2, HBX.out.drew.trans (bl.mono (by omega))⟩
      have e : rfold ((pre ++ [(⟨(sn : Int), hx0, hx1⟩ : {x : Int // 0 ≤ x ∧ x < (m : Int)})]).map (fun s => (xn, s.1.toNat))) (rfold (edges (succsN F) (o.take k)) T) = rstep (rfold (pre.map (fun s => (xn, s.1.toNat))) (rfold (edges (succsN F) (o.take k)) T)) (xn, sn) := by
        simp [rfold]
      rw [e]
      exact tt
    case done =>
      rintro D ys Wy hD hS ⟨hTy, hFy, hBy⟩ hK
      have HTY : Hid (TabAt Wy (w.heap.size + 1) (rfold (edges (succsN F) (o.take (k + 1))) T)) := by
        rw [take_nextI (by rw [HN.out]; omega), edges_snoc, rfold_append, HXE.out]
        have e : edgesOf (succsN F) ((xn : Int)).toNat (succsN F ((xn : Int)).toNat) = ys.map (fun s => (xn, s.1.toNat)) := by
          have e2 : ((xn : Int)).toNat = xn := by simp
          have e3 : succsN F xn = ys.map (fun x => x.1) := HSX.out.trans hS.symm
          rw [e2, e3]
          simp [edgesOf]
        rw [e]
        exact hTy
      have HBY : Hid (Below w.heap.size w Wy) := hBy
      have HMY : Hid (MarksAt (w.heap.size + 3) Wy (D :: Ds)) := by
        have h2 := (MM.out.keep (FrX.ofBelow (X := w.heap.size + 1) FR2.out) (by omega)).keep hFy (by omega)
        refine ⟨List.nodup_cons.2 ⟨fun hm => ?_, h2.nd⟩, fun E hE => ?_⟩
        · have := (Array.getElem?_eq_some_iff.1 (MM.out.each D hm).2).1
          omega
        · rcases List.mem_cons.1 hE with rfl | hE
          · exact ⟨by omega, hK⟩
          · exact h2.each E hE
      have HXY : Hid (Wy.heap[w.heap.size]? = some (.cells #[.slice (some ⟨bb, boff, none⟩) m bcap, .int .i64 vals] 26 (0, 0))) := (hFy.block _ (by omega) (by omega)).trans ((FR2.out.block _ (by omega)).trans HX.out)
      have HRY : Hid (TabAt Wy (w.heap.size + 1 + 1) (fun _ _ => false)) := (hFy.block _ (by omega) (by omega)).trans (HRR.out.keep FR2.out)
      clear hTy hFy hBy
      gi_wp2
      refine ⟨⟨k + 1, D :: Ds, _, _, _, _, _, _, _, _, _, _, _, _, by omega, rfl, HMY.out, HBY.out, HXY.out, HTY.out, HRY.out⟩, ?_⟩
      simp [intOf, Act.eval]
      omega
    case stop =>
      rintro D cc pre Wy _ _ h _
      exact h.elim
  · have hkn : k = n := by omega
    subst hkn
    gi_wp2_with (first
      | refine wpListIn_load_tab rfl _ rfl (w.heap.size + 1) rfl _ HT.out ?_
      | refine wpListIn_store_tab rfl _ _ rfl (w.heap.size + 1 + 1) rfl _ _ rfl HRR.out ?_)
    have R2 : Hid (TabAt (W.setRow (w.heap.size + 1 + 1) (tabC (rfold (edges (succsN F) (List.take k o)) T)).toArray) (w.heap.size + 1 + 1) (rfold (edges (succsN F) (List.take k o)) T)) := HRR.out.put
    have B2 : Hid (Below w.heap.size w (W.setRow (w.heap.size + 1 + 1) (tabC (rfold (edges (succsN F) (List.take k o)) T)).toArray)) := below_setRow HB.out (by omega) _
    have M2 : Hid (MarksAt (w.heap.size + 3) (W.setRow (w.heap.size + 1 + 1) (tabC (rfold (edges (succsN F) (List.take k o)) T)).toArray) Ds) := MM.out.keep (FrX.set _ _ _) (by omega)
    refine leaves_marks (lo := w.heap.size + 3) Ds _ M2.out (fun w' hb hk2 => ?_) (by simpa using hsW)
    refine ⟨_, row_results rfl rfl ((hk2 (w.heap.size + 1 + 1) (by omega)).trans R2.out) Try.underlying83 rfl (by rw [List.size_toArray, tabC_len]; exact info_tab), ?_, B2.out.trans (hb.mono (by omega))⟩
    rw [← HN.out, List.take_length]
    rfl
end Go.Proofs.Ytlmkipmkanhcfaa
