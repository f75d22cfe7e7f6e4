/- The program's machine goes on till it is over. -/
import Derived.Test.YtebcocehdjoafaaDoorMaI4
import Derived.Test.YtebcocehdjoafaaDoorMaOk
namespace Go.Proofs.YtebcocehdjoafaaDoor
open Go.ChangeShapes Go.WideShapes Go.ChangeAt Go.RowKit Go.Shelf
set_option linter.unusedVariables false

theorem runCallV {P : Program} {o : Oper} {a : Act} {f : FuncId} {c x y : Operand} {ts : Array TypeId} (ho : o.op = Op.call { callee := Callee.value c, args := #[x, y], argTypes := ts }) {u v : Value} (hc : a.eval c = .func (.func f) #[] #[]) (hx : a.eval x = u) (hy : a.eval y = v) (he : ∀ args w, (callFunc f args).run P w = .ok (.enter f args) w) (w : World) : (execOp a.eval o).run P w = .ok (.enter f #[u, v]) w := by
  simp only [Act.eval] at hc hx hy
  simp [execOp, ho, resolve, invoke, Act.eval, go_sem]
  simp at hc hx hy
  simp [hc, hx, hy, he, go_sem]
/-- The fuel, read off the memory. -/
def fuelOf (M : Nat) (w : World) : Nat := match w.cell? ⟨M, 1, none⟩ with
  | some v => (intOf v).toNat
  | none => 0
theorem fuelOf_is {W0 w : World} {M : Nat} {m : MacS} {x : MacE} (h : MacIs W0 w M m x) : fuelOf M w = x.fuel := by
  obtain ⟨rv, tv, h⟩ := h
  unfold fuelOf
  rw [h.cells.c1]
  simp [intOf]
/-- How a machine stands between two steps. -/
def AllSt (W0 wr : World) (M FB : Nat) (l : List InsD) (res : List Int × Int × Int) : Prop :=
  ∃ m x, MacIs W0 wr M m x ∧ wr.heap[FB]? = some (.cells (fnC 22).toArray 90 (0, 0)) ∧ (x.over = true → (m.told, x.how, x.en) = res) ∧ (x.over = false → macN wordV l x.fuel m = res ∧ m.pc < l.length ∧ m.told.length + x.fuel ≤ 40000)
def GivesAll (W0 : World) (M : Nat) (res : List Int × Int × Int) (e : Ending) (w' : World) : Prop := (∃ r, e = .returned r) ∧ ∃ m x, MacIs W0 w' M m x ∧ (m.told, x.how, x.en) = res
theorem told_more (i : InsD) (m : MacS) : (doneM i m).told.length ≤ m.told.length + 1 := by
  unfold doneM
  by_cases e11 : i.op = 11
  · rw [if_pos e11]; exact Nat.le_succ _
  rw [if_neg e11]
  unfold macDo
  by_cases e1 : i.op = 1
  · rw [if_pos e1]; exact Nat.le_succ _
  rw [if_neg e1]
  by_cases e2 : i.op = 2
  · rw [if_pos e2]; exact Nat.le_succ _
  rw [if_neg e2]
  by_cases e3 : i.op = 3
  · rw [if_pos e3]; exact Nat.le_succ _
  rw [if_neg e3]
  by_cases e4 : i.op = 4
  · rw [if_pos e4]; exact Nat.le_succ _
  rw [if_neg e4]
  by_cases e5 : i.op = 5
  · rw [if_pos e5]
    by_cases c : cellOk (m.regs i.a.toNat)
    · rw [if_pos c]; exact Nat.le_succ _
    · rw [if_neg c]; exact Nat.le_succ _
  rw [if_neg e5]
  by_cases e6 : i.op = 6
  · rw [if_pos e6]
    by_cases c : cellOk (m.regs i.a.toNat)
    · rw [if_pos c]; exact Nat.le_succ _
    · rw [if_neg c]; exact Nat.le_succ _
  rw [if_neg e6]
  by_cases e7 : i.op = 7
  · rw [if_pos e7]; simp
  rw [if_neg e7]
  by_cases e8 : i.op = 8
  · rw [if_pos e8]; exact Nat.le_succ _
  rw [if_neg e8]
  by_cases e9 : i.op = 9
  · rw [if_pos e9]; exact Nat.le_succ _
  rw [if_neg e9]
  by_cases e10 : i.op = 10
  · rw [if_pos e10]
    by_cases c : m.regs i.a.toNat = 0
    · rw [if_pos c]; exact Nat.le_succ _
    · rw [if_neg c]; exact Nat.le_succ _
  rw [if_neg e10]
  exact Nat.le_succ _

theorem doneE_fuel (i : InsD) (m : MacS) (x : MacE) : (doneE i m x).fuel = x.fuel := by
  unfold doneE
  split
  · rfl
  · split <;> rfl
/-- What a step leaves to be done. -/
theorem step_res {l : List InsD} {m : MacS} {i : InsD} {k : Nat} {hw en : Int} {res : List Int × Int × Int} (hi : l[m.pc]? = some i) (hok : machineOkB l = true) (hr : macN wordV l (k + 1) m = res) (htl : m.told.length + (k + 1) ≤ 40000) :
    ((doneE i m ⟨k, false, hw, en⟩).over = true → ((doneM i m).told, (doneE i m ⟨k, false, hw, en⟩).how, (doneE i m ⟨k, false, hw, en⟩).en) = res) ∧ ((doneE i m ⟨k, false, hw, en⟩).over = false → macN wordV l (doneE i m ⟨k, false, hw, en⟩).fuel (doneM i m) = res ∧ (doneM i m).pc < l.length ∧ (doneM i m).told.length + (doneE i m ⟨k, false, hw, en⟩).fuel ≤ 40000) := by
  rw [macN_step hi] at hr
  have ht := told_more i m
  rw [doneE_fuel]
  by_cases h11 : i.op = 11
  · rw [if_pos h11] at hr
    have e1 : doneE i m ⟨k, false, hw, en⟩ = ⟨k, true, 0, m.regs i.a.toNat⟩ := by unfold doneE; rw [if_pos h11]
    have e2 : doneM i m = { m with pc := m.pc + 1 } := by unfold doneM; rw [if_pos h11]
    rw [e1, e2]
    exact ⟨fun _ => hr, fun h => by cases h⟩
  · rw [if_neg h11] at hr
    have e2 : doneM i m = (macDo wordV i m).2 := by unfold doneM; rw [if_neg h11]
    by_cases h0 : (macDo wordV i m).1 = 0
    · rw [if_pos h0] at hr
      have e1 : doneE i m ⟨k, false, hw, en⟩ = ⟨k, false, hw, en⟩ := by unfold doneE; rw [if_neg h11, if_pos h0]
      rw [e1]
      refine ⟨fun h => (by cases h), fun _ => ⟨by rw [e2]; exact hr, by rw [e2]; exact macDo_stays hok hi h11, ?_⟩⟩
      show (doneM i m).told.length + k ≤ 40000
      omega
    · rw [if_neg h0] at hr
      have e1 : doneE i m ⟨k, false, hw, en⟩ = ⟨k, true, (macDo wordV i m).1, 0⟩ := by unfold doneE; rw [if_neg h11, if_neg h0]
      rw [e1, e2]
      exact ⟨fun _ => hr, fun h => by cases h⟩

set_option maxRecDepth 100000 in
set_option maxHeartbeats 8000000 in
theorem all_any (W0 : World) (M : Nat) (v : Value) (l : List InsD) (m : MacS) (x : MacE) (w : World) (h : MacIs W0 w M m x) (hov : x.over = false) (hpc : m.pc < l.length) (htl : m.told.length + x.fuel ≤ 40000) (hl : StepsAt W0 v l) (hok : machineOkB l = true) :
    Calls Tryd.prog 41 #[.pointer (some ⟨M, 0, none⟩), v] w fun e w' => GivesAll W0 M (macN wordV l x.fuel m) e w' := by
  obtain ⟨res, HRS⟩ : ∃ r, Hid (macN wordV l x.fuel m = r) := ⟨_, rfl⟩
  rw [HRS.out]
  have HH0 : Hid (MacIs W0 w M m x) := h
  have HP0 : Hid (m.pc < l.length ∧ m.told.length + x.fuel ≤ 40000) := ⟨hpc, htl⟩
  have HV0 : Hid (x.over = false) := hov
  have HOK : Hid (machineOkB l = true) := hok
  have hl1 := (machineOkB_parts hok).1
  have hl9 := (machineOkB_parts hok).2.1
  obtain ⟨a, cap, rfl, hm, hc⟩ := hl
  obtain ⟨n, HN⟩ : ∃ n, Hid (l.length = n) := ⟨_, rfl⟩
  rw [HN.out] at hm hc hl1 hl9 ⊢
  obtain ⟨b, off, rfl, _, hc1⟩ := hc (by omega)
  have HC : Hid (∀ i x, l[i]? = some x → InsAt W0 b (off + i * 5) x) := hc1
  clear h hov hpc htl hok hc hc1
  obtain ⟨c1, HC1⟩ : ∃ c, Hid ((fnC 22).toArray = c) := ⟨_, rfl⟩
  have hs1 : c1.size = 22 := by rw [← HC1.out]; simp [fnC_len]
  have H2 : Hid (c1.all (·.oneCell') = true) := by show c1.all (·.oneCell') = true; rw [← HC1.out]; exact fnC_one 22
  go_enter Tryd.func41, Tryd.ntmps41
  go_wp2_with (first
    | (go_at_call 48; refine (stepFuncs_any _).mono ?_; rintro e w1 ⟨rfl, b1⟩; rw [HC1.out]; have B1 : Hid (Below w.heap.size w w1) := b1; clear b1)
    | refine wpList_store_row rfl 90 _ _ rfl w1.heap.size _ c1 _ rfl rfl (heap_last (by simp)) (by rw [hs1]; exact info_fns) (by rw [hs1]; rfl) H2.out ?_)
  obtain ⟨W2, hW2, HST, hFM⟩ : ∃ W2, W2 = (w1.alloc (.cells zeroF 90)).setRow w1.heap.size c1 ∧ Hid (AllSt W0 W2 M w1.heap.size l res) ∧ w1.heap.size ≠ M := by
    have hB : Below w1.heap.size w1 ((w1.alloc (.cells zeroF 90)).setRow w1.heap.size c1) := below_setRow (Bel.alloc _ _) (Nat.le_refl _) _
    have hlt := HH0.out.lt
    have hsz := B1.out.size
    refine ⟨_, rfl, ⟨m, x, (HH0.out.later B1.out).later hB, ?_, fun h => (by rw [HV0.out] at h; cases h), fun _ => ⟨HRS.out, HP0.out⟩⟩, by omega⟩
    rw [HC1.out]
    exact setRow_heap _ _ _ _ _ _ (heap_last rfl)
  rw [← zeroF_is]
  rw [← hW2]
  clear hW2
  generalize w1.heap.size = FB at HST hFM ⊢
  dsimp only [Act.put]
  go_loopw [7] (fun _ wr => AllSt W0 wr M FB l res) (fun _ wr => fuelOf M wr)
  case atStart => exact HST.out
  case round =>
    obtain ⟨wq, hwq⟩ : ∃ q, q = wr := ⟨_, rfl⟩
    subst hwq
    obtain ⟨m1, x1, hm1, hfb, hyes, hno⟩ := hrel
    have HM1 : Hid (MacIs W0 wq M m1 x1) := hm1
    have HFB : Hid (wq.heap[FB]? = some (.cells c1 90 (0, 0))) := by rw [← HC1.out]; exact hfb
    have HFU : Hid (fuelOf M wq = x1.fuel) := fuelOf_is hm1
    have c60 : wq.cell? ⟨M, 60, none⟩ = some (.bool x1.over) := by
      obtain ⟨rv, tv, h⟩ := hm1
      exact h.cells.c60
    have HY : Hid (x1.over = true → (m1.told, x1.how, x1.en) = res) := hyes
    have HX : Hid (x1.over = false → macN wordV l x1.fuel m1 = res ∧ m1.pc < l.length ∧ m1.told.length + x1.fuel ≤ 40000) := hno
    clear hm1 hfb hyes hno
    obtain ⟨fu, ov, hw, en⟩ := x1
    dsimp only at c60 HY HX HFU
    cases ov with
    | true =>
      go_wp2_with fail
      go_end0
      exact ⟨⟨_, rfl⟩, m1, _, HM1.out, HY.out trivial⟩
    | false =>
      obtain ⟨hres, hpc, htl⟩ := HX.out rfl
      have HRES : Hid (macN wordV l fu m1 = res) := hres
      have HTL : Hid (m1.told.length + fu ≤ 40000) := htl
      have HPC : Hid (m1.pc < l.length) := hpc
      clear hres htl hpc HX HY
      cases fu with
      | zero =>
        go_wp2_with fail
        refine (mburn_none (W0 := W0) _ HM1.out rfl).mono ?_
        rintro e w2 ⟨rfl, hw2⟩
        replace hw2 := hw2.symm
        subst hw2
        go_wp2_with fail
        refine (mstop_any (W0 := W0) 1 0 _ HM1.out).mono ?_
        rintro e w3 ⟨⟨r3, rfl⟩, h3, f3⟩
        have H3 : Hid (MacIs W0 w3 M m1 ⟨0, true, 1, 0⟩) := h3
        clear h3 f3
        go_wp2_with fail
        go_end0
        exact ⟨⟨_, rfl⟩, m1, _, H3.out, HRES.out⟩
      | succ k =>
        go_wp2_with fail
        refine (mburn_one (W0 := W0) _ HM1.out rfl (by have := HTL.out; omega)).mono ?_
        rintro e w2 ⟨rfl, h2, f2⟩
        have H2m : Hid (MacIs W0 w2 M m1 ⟨k, false, hw, en⟩) := h2
        have HF2 : Hid (w2.heap[FB]? = some (.cells c1 90 (0, 0))) := f2.box HFB.out hFM hFM (by decide)
        clear f2
        obtain ⟨i, HI⟩ : ∃ i, Hid (l[m1.pc]? = some i) := ⟨l[m1.pc]'HPC.out, List.getElem?_eq_getElem HPC.out⟩
        have hlt2 := h2.lt
        obtain ⟨rv, tv, h2⟩ := h2
        have c11 := h2.cells.c11
        have f11 := h2.frozen 11
        obtain ⟨d0, d1, d2, d3, d4⟩ := (HC.out m1.pc i HI.out).keep (Keeps.of_below h2.below 0) (Nat.zero_le _)
        clear h2
        obtain ⟨pc, HPN⟩ : ∃ p, Hid (m1.pc = p) := ⟨_, rfl⟩
        have hpn : pc < n := by have := HPC.out; rw [HPN.out, HN.out] at this; exact this
        rw [HPN.out] at c11 d0 d1 d2 d3 d4
        obtain ⟨i0, i1, i2, i3, i4⟩ := i
        dsimp only at d0 d1 d2 d3 d4
        go_wp2_with fail
        have hokx := (machineOkB_parts HOK.out).2.2.1 _ (List.mem_of_getElem? HI.out)
        have HOKX : Hid (stepOkB ⟨i0, i1, i2, i3, i4⟩ l.length = true) := hokx
        obtain ⟨o, rfl, ho1, ho2⟩ : ∃ o : Nat, i0 = (o : Int) ∧ 1 ≤ o ∧ o ≤ 21 := by
          have := (stepOkB_parts hokx).1
          dsimp only at this
          exact ⟨i0.toNat, by omega, by omega, by omega⟩
        clear hokx
        obtain ⟨w3, hw3⟩ : ∃ W, (w2.setCell ⟨M, 11, none⟩ (.int .i64 ((pc : Int) + 1))).alloc (.cells #[.int .i64 (o : Int), .int .i64 i1, .int .i64 i2, .int .i64 i3, .int .i64 i4] 25) = W := ⟨_, rfl⟩
        obtain ⟨B, HBB⟩ : ∃ B, Hid (w2.heap.size = B) := ⟨_, rfl⟩
        have hMB : B ≠ M := by rw [← HBB.out]; omega
        have HBX : Hid (w3.heap[B]? = some (.cells #[.int .i64 (o : Int), .int .i64 i1, .int .i64 i2, .int .i64 i3, .int .i64 i4] 25 (0, 0))) := by
          show w3.heap[B]? = _
          rw [← hw3, ← HBB.out]
          exact heap_last (by simp)
        have HF3 : Hid (w3.heap[FB]? = some (.cells c1 90 (0, 0))) := by
          show w3.heap[FB]? = _
          rw [← hw3, Below.heap_alloc _ _ _ (by simp; exact (Array.getElem?_eq_some_iff.1 HF2.out).1), heap_setCell_other _ _ _ _ hFM]
          exact HF2.out
        have H3m : Hid (MacIs W0 w3 M { m1 with pc := m1.pc + 1 } ⟨k, false, hw, en⟩) := by
          obtain ⟨rv, tv, h2⟩ := H2m.out
          refine ⟨rv, tv, ?_⟩
          have h3 := (h2.setPc (m1.pc + 1)).later (Bel.alloc _ (.cells #[.int .i64 (o : Int), .int .i64 i1, .int .i64 i2, .int .i64 i3, .int .i64 i4] 25))
          have e : ((m1.pc + 1 : Nat) : Int) = (pc : Int) + 1 := by rw [HPN.out]; rfl
          rw [e, hw3] at h3
          exact h3
        rw [hw3, HBB.out]
        clear hw3 c11 f11 d0 d1 d2 d3 d4 hlt2
        have x0 : w3.cell? ⟨B, 0, none⟩ = some (.int .i64 (o : Int)) := by simp [World.cell?, HBX.out]
        have x1 : w3.cell? ⟨B, 1, none⟩ = some (.int .i64 i1) := by simp [World.cell?, HBX.out]
        have x2 : w3.cell? ⟨B, 2, none⟩ = some (.int .i64 i2) := by simp [World.cell?, HBX.out]
        have x3 : w3.cell? ⟨B, 3, none⟩ = some (.int .i64 i3) := by simp [World.cell?, HBX.out]
        have x4 : w3.cell? ⟨B, 4, none⟩ = some (.int .i64 i4) := by simp [World.cell?, HBX.out]
        have fcell : ∀ W : World, W.heap[FB]? = some (.cells c1 90 (0, 0)) → W.cell? ⟨FB, o, none⟩ = some (.func (.func (doF o)) #[] #[]) := by
          intro W hW
          have e := fnC_at 22 (i := o) (by omega)
          have e2 : fnAt 22 o = .func (.func (doF o)) #[] #[] := by
            unfold fnAt
            rw [if_neg (by omega), if_pos (by omega)]
          rw [e2] at e
          simp only [World.cell?]
          rw [hW, ← HC1.out]
          simpa using e
        have HFC : Hid (∀ W : World, W.heap[FB]? = some (.cells c1 90 (0, 0)) → W.cell? ⟨FB, o, none⟩ = some (.func (.func (doF o)) #[] #[])) := fcell
        have xf := fcell w3 HF3.out
        have HEN : Hid (Enters Tryd.prog (doF o)) := enters_do ho1 ho2
        have HDO := mdo_any (W0 := W0) (M := M) (x := ⟨k, false, hw, en⟩) ⟨(o : Int), i1, i2, i3, i4⟩ l.length HOKX.out m1 (by have := HTL.out; omega) w3.drew (H3m.out.later ((Below.refl _ _).drew))
        have ho22 : (o : Int) < 22 := by omega
        clear fcell
        obtain ⟨F, HFF⟩ : ∃ F, Hid (doF o = F) := ⟨_, rfl⟩
        rw [show ((⟨(o : Int), i1, i2, i3, i4⟩ : InsD).op.toNat) = o by simp] at HDO
        dsimp only at HDO
        rw [HFF.out] at HDO xf HEN HFC
        have HDOH : Hid (Calls Tryd.prog F #[.pointer (some ⟨M, 0, none⟩), .agg #[.int .i64 (o : Int), .int .i64 i1, .int .i64 i2, .int .i64 i3, .int .i64 i4]] w3.drew fun e w' => (∃ v, e = .returned v) ∧ MacTo W0 M w3.drew (doneM ⟨(o : Int), i1, i2, i3, i4⟩ m1) (doneE ⟨(o : Int), i1, i2, i3, i4⟩ m1 ⟨k, false, hw, en⟩) w') := HDO
        clear HDO
        refine wp_noThrow (wp_region_held_drew (S := fun w' => w'.cell? ⟨B, 0, none⟩ = some (.int .i64 (o : Int)) ∧ w'.cell? ⟨B, 1, none⟩ = some (.int .i64 i1) ∧ w'.cell? ⟨B, 2, none⟩ = some (.int .i64 i2) ∧ w'.cell? ⟨B, 3, none⟩ = some (.int .i64 i3) ∧ w'.cell? ⟨B, 4, none⟩ = some (.int .i64 i4) ∧ w'.cell? ⟨FB, o, none⟩ = some (.func (.func F) #[] #[])) (by kernel_rfl) ⟨x0, x1, x2, x3, x4, xf⟩ (fun hHeld => ?_))
        refine wpAnyH_take (i := 0) (oi := { dst := some 33, op := Go.Op.fieldAddr 25 (Go.Operand.tmp 5) 0, type := 0, pos := "l14_machine.go:157", after := #[], guard := none }) (v := ?_) rfl (by kernel_rfl) (by kernel_rfl) (by kernel_rfl) (fun _ _ _ h => h) (Or.inl ⟨by rfl, ?_⟩) (by assumption) ?_
        rotate_left
        · intro w hSw
          (try dsimp only at hSw)
          go_simp
          (try with_reducible rfl)
        try simp only [Act.put, List.setIfInBounds_toArray, List.set_cons_zero, List.set_cons_succ]
        refine wpAnyH_take (i := 1) (oi := { dst := some 34, op := Go.Op.load 3 (Go.Operand.tmp 33), type := 3, pos := "l14_machine.go:157", after := #[{ on := 0, ground := Go.Ground.data }], guard := none }) (v := ?_) rfl (by kernel_rfl) (by kernel_rfl) (by kernel_rfl) (fun _ _ _ h => h) (Or.inl ⟨by rfl, ?_⟩) (by assumption) ?_
        rotate_left
        · intro w hSw
          (try dsimp only at hSw)
          go_simp
          (try with_reducible rfl)
        try simp only [Act.put, List.setIfInBounds_toArray, List.set_cons_zero, List.set_cons_succ]
        refine wpAnyH_take (i := 2) (oi := { dst := some 35, op := Go.Op.indexAddr 90 (Go.Operand.tmp 4) (Go.Operand.tmp 34), type := 0, pos := "l14_machine.go:157", after := #[{ on := 1, ground := Go.Ground.data }], guard := none }) (v := ?_) rfl (by kernel_rfl) (by kernel_rfl) (by kernel_rfl) (fun _ _ _ h => h) (Or.inl ⟨by rfl, ?_⟩) (by assumption) ?_
        rotate_left
        · intro w hSw
          (try dsimp only at hSw)
          go_simp
          (try with_reducible rfl)
        try simp only [Act.put, List.setIfInBounds_toArray, List.set_cons_zero, List.set_cons_succ]
        refine wpAnyH_take (i := 3) (oi := { dst := some 36, op := Go.Op.load 89 (Go.Operand.tmp 35), type := 89, pos := "l14_machine.go:157", after := #[{ on := 2, ground := Go.Ground.data }], guard := none }) (v := ?_) rfl (by kernel_rfl) (by kernel_rfl) (by kernel_rfl) (fun _ _ _ h => h) (Or.inl ⟨by rfl, ?_⟩) (by assumption) ?_
        rotate_left
        · intro w hSw
          (try dsimp only at hSw)
          go_simp
          (try with_reducible rfl)
        try simp only [Act.put, List.setIfInBounds_toArray, List.set_cons_zero, List.set_cons_succ]
        refine wpAnyH_take (i := 4) (oi := { dst := some 37, op := Go.Op.move (Go.Operand.tmp 0), type := 71, pos := "l14_machine.go:157", after := #[], guard := none }) (v := ?_) rfl (by kernel_rfl) (by kernel_rfl) (by kernel_rfl) (fun _ _ _ h => h) (Or.inl ⟨by rfl, ?_⟩) (by assumption) ?_
        rotate_left
        · intro w hSw
          (try dsimp only at hSw)
          go_simp
          (try with_reducible rfl)
        try simp only [Act.put, List.setIfInBounds_toArray, List.set_cons_zero, List.set_cons_succ]
        refine wpAnyH_take (i := 5) (oi := { dst := some 38, op := Go.Op.load 25 (Go.Operand.tmp 5), type := 25, pos := "l14_machine.go:157", after := #[], guard := none }) (v := ?_) rfl (by kernel_rfl) (by kernel_rfl) (by kernel_rfl) (fun _ _ _ h => h) (Or.inl ⟨by rfl, ?_⟩) (by assumption) ?_
        rotate_left
        · intro w hSw
          (try dsimp only at hSw)
          go_simp
          (try with_reducible rfl)
        try simp only [Act.put, List.setIfInBounds_toArray, List.set_cons_zero, List.set_cons_succ]
        refine ckAnyH_oneK (i := 6) (o := { dst := some 39, op := Go.Op.call { callee := Go.Callee.value (Go.Operand.tmp 36), args := #[Go.Operand.tmp 37, Go.Operand.tmp 38], argTypes := #[71, 25] }, type := 0, pos := "l14_machine.go:157", after := #[{ on := 3, ground := Go.Ground.data }, { on := 4, ground := Go.Ground.data }, { on := 5, ground := Go.Ground.data }], guard := none }) rfl rfl (by kernel_rfl) (fun K9 hK9 => ?_)
        refine wp_call_of (f := F) (args := #[.pointer (some ⟨M, 0, none⟩), .agg #[.int .i64 (o : Int), .int .i64 i1, .int .i64 i2, .int .i64 i3, .int .i64 i4]]) (runCallV rfl (by kernel_rfl) (by kernel_rfl) (by kernel_rfl) HEN.out _) HDOH.out ?_
        rintro e w4 ⟨⟨r4, rfl⟩, h4, f4⟩
        have hb4 := f4.box (B := B) HBX.out hMB hMB (by decide)
        have hf4 := f4.box (B := FB) HF3.out hFM hFM (by decide)
        have HM4 : Hid (MacIs W0 w4 M (doneM ⟨(o : Int), i1, i2, i3, i4⟩ m1) (doneE ⟨(o : Int), i1, i2, i3, i4⟩ m1 ⟨k, false, hw, en⟩)) := h4
        have HF4 : Hid (w4.heap[FB]? = some (.cells c1 90 (0, 0))) := hf4
        refine ⟨_, rfl, hK9 _ _ ⟨⟨by simp [World.cell?, hb4], by simp [World.cell?, hb4], by simp [World.cell?, hb4], by simp [World.cell?, hb4], by simp [World.cell?, hb4], HFC.out w4 hf4⟩, ?_⟩⟩
        clear hK9 hb4 hf4 h4 f4 hHeld
        refine wpAnyH_done (by kernel_rfl) ?_ _
        simp only [noThrow, Act.put, List.setIfInBounds_toArray, List.set_cons_succ, List.set_cons_zero]
        show Exit.inBlock _ (Exit.then _ _) Exit.normal _ _
        simp only [Exit.inBlock, Exit.then]
        have HSR := step_res (hw := hw) (en := en) HI.out HOK.out HRES.out HTL.out
        have HFQ : Hid (fuelOf M w4 = k) := (fuelOf_is HM4.out).trans (doneE_fuel _ _ _)
        have HAL : Hid (AllSt W0 w4 M FB l res) := ⟨_, _, HM4.out, by rw [HC1.out]; exact HF4.out, HSR.1, HSR.2⟩
        clear HSR
        go_roundw
        case rel => first | exact HAL.out | ((repeat apply Exists.intro); exact ⟨HAL.out, rfl⟩)
        case measure =>
          rw [HFQ.out, HFU.out]
          omega
end Go.Proofs.YtebcocehdjoafaaDoor
