/- The table of those that dominate: rounds till the table stays. -/
import Derived.Test.YtlmkipmkanhcfaaRound
import Derived.Test.YtlmkipmkanhcfaaSetEq
import Derived.Test.YtlmkipmkanhcfaaWalk
namespace Go.Proofs.Ytlmkipmkanhcfaa
open Go.ChangeShapes Go.WideShapes Go.ChangeAt Go.RowKit Go.Shelf
set_option linter.unusedVariables false

/-- The table in a block, as it is read. -/
def tabOf (w : World) (B : Nat) : Tab := fun b a => match w.cell? ⟨B, b * 16 + a, none⟩ with | some (.bool x) => x | _ => false
theorem TabAt.read {w : World} {B : Nat} {T : Tab} (h : TabAt w B T) : TEq (tabOf w B) T := fun b a hb ha => by
  have e := tabC_at T (k := b * 16 + a) (by omega)
  have e1 : (b * 16 + a) / 16 = b := by omega
  have e2 : (b * 16 + a) % 16 = a := by omega
  rw [e1, e2] at e
  simp [tabOf, World.cell?, show w.heap[B]? = _ from h, e]
theorem cnt_congr {T U : Tab} (h : TEq T U) : cnt T = cnt U := by
  unfold cnt
  congr 1
  refine List.filter_congr (fun k hk => ?_)
  have : k < 256 := by simpa using hk
  exact h _ _ (by omega) (by omega)
theorem startL_start {F : FnD} (hS : FnShape F) : startL (wayOf F).2.reverse = start (wayOf F).1 := by
  funext b a
  have h : ∀ x : Nat, inL (wayOf F).2.reverse x = decide (x ∈ (wayOf F).1) := fun x => by
    unfold inL
    have := wayOf_same F x
    simp [this]
  unfold startL putT start
  simp only [h]

theorem wpList_load_tab {ops : Array Oper} {rest : List Oper} {o : Oper} {a : Act} {w : World} {Q : Exit → Act → World → Prop} (hg : o.guard = none) (x : Operand) (ho : o.op = .load 83 x) (B : Nat) (hx : a.eval x = .pointer (some ⟨B, 0, none⟩)) (T : Tab) (hT : TabAt w B T)
    (h : wpList Try.prog ops Q rest (a.put o.dst (tabV T)) w) : wpList Try.prog ops Q (o :: rest) a w :=
  wpList_plain hg fun K hK => wp_load_tab x ho B hx T hT (hK _ _ h)
theorem wpList_store_tab {ops : Array Oper} {rest : List Oper} {o : Oper} {a : Act} {w : World} {Q : Exit → Act → World → Prop} (hg : o.guard = none) (x y : Operand) (ho : o.op = .store 83 x y) (B : Nat) (hx : a.eval x = .pointer (some ⟨B, 0, none⟩)) (T U : Tab) (hy : a.eval y = tabV U) (hT : TabAt w B T)
    (h : wpList Try.prog ops Q rest (a.put o.dst undef) (w.setRow B (tabC U).toArray)) : wpList Try.prog ops Q (o :: rest) a w :=
  wpList_plain hg fun K hK => wp_store_tab x y ho B hx T U hy hT (hK _ _ h)
theorem tab_alloc (w : World) : TabAt (w.alloc (.cells Try.zeroCells83 83)) w.heap.size (fun _ _ => false) := by
  rw [zeroCells_tab]
  exact World.alloc_heap_new _ _
theorem tab_neq (T U : Tab) (w : World) : (binOp .neq 83 (tabV T) (tabV U)).run Try.prog w = .ok (.bool (!sameT T U)) w := by
  have h := tab_equal T U 9997 w
  unfold tabV at h ⊢
  rw [run_neq_struct, h]
  rfl
theorem tab_guard (op : BinOp) (x y : Operand) (T U : Tab) (w : World) : (eqGuard op 83 x y (tabV T) (tabV U)).run Try.prog w = .ok () w := run_eqGuard_agg w op _ x y _ _ Try.eqGuardType83
theorem set_eql (f g : Nat → Bool) (w : World) : (binOp .eql 81 (setV f) (setV g)).run Try.prog w = .ok (.bool (sameS f g)) w := by
  have h := set_equal f g 9998 w
  unfold setV at h ⊢
  rw [run_eql_struct, h]
  rfl
theorem set_guard (op : BinOp) (x y : Operand) (f g : Nat → Bool) (w : World) : (eqGuard op 81 x y (setV f) (setV g)).run Try.prog w = .ok () w := run_eqGuard_agg w op _ x y _ _ Try.eqGuardType81

set_option maxRecDepth 100000 in
set_option maxHeartbeats 4000000 in
theorem domsOf_any (v : Value) (F : FnD) (w : World) (hF : FnAt w v F) (hS : FnShape F) :
    Calls Try.prog 51 #[v] w fun e w' => GivesTab w (fun b a => domB F a b) e w' := by
  have HF : Hid (FnAt w v F) := hF
  have HS : Hid (FnShape F) := hS
  obtain ⟨n, HN⟩ : ∃ n, Hid (F.blocks.length = n) := ⟨_, rfl⟩
  obtain ⟨vals, HV⟩ : ∃ x, Hid (F.values = x) := ⟨_, rfl⟩
  obtain ⟨ba, bcap, rfl⟩ := hF.out HN.out HV.out
  have h16 : n ≤ 16 := by rw [← HN.out]; exact hS.2.1
  clear hF hS
  obtain ⟨o, HO⟩ : ∃ o, Hid ((wayOf F).2.reverse = o) := ⟨_, rfl⟩
  have HR : Hid (∀ x ∈ o, 0 ≤ x ∧ x < (F.blocks.length : Int)) := fun x hx => by
    rw [← HO.out] at hx
    exact (wayOf_len HS.out).2.2 x (by simpa using hx)
  obtain ⟨E, HE⟩ : ∃ E, Hid (edges (succsN F) o = E) := ⟨_, rfl⟩
  have HI0 : Hid (TInv F (startL o)) := by rw [← HO.out, startL_start HS.out]; exact TInv.start HS.out
  have HIN : Hid (∀ T, TInv F T → TInv F (rfold E T)) := fun T h => by
    rw [← HE.out, ← HO.out]
    exact TInv.fold HS.out _ h (edges_ok HS.out)
  have HEND : Hid (∀ T, TInv F T → TEq (rfold E T) T → TEq T (fun b a => domB F a b)) := fun T h hf b a hb ha => by
    rw [← HE.out, ← HO.out] at hf
    exact TInv.ends HS.out h hf hb ha
  go_enter Try.func51, Try.ntmps51
  go_wp2_with fail
  obtain ⟨wA, hwA⟩ : ∃ wA, (w.alloc (.cells #[.slice ba n bcap, .int .i64 vals] 26)).alloc (.cells Try.zeroCells83 83) = wA := ⟨_, rfl⟩
  have hsA : wA.heap.size = w.heap.size + 2 := by rw [← hwA]; simp
  have BA : Hid (Below w.heap.size w wA) := by rw [← hwA]; repeat (first | exact Below.refl _ _ | apply Below.drew | refine Below.alloc ?_ (by simp <;> omega) _ | refine Below.setCell ?_ (by simp <;> omega) _)
  have XA : Hid (wA.heap[w.heap.size]? = some (.cells #[.slice ba n bcap, .int .i64 vals] 26 (0, 0))) := by
    rw [← hwA]
    exact (Below.heap_alloc _ _ _ (by simp)).trans (World.alloc_heap_new _ _)
  have RA : Hid (TabAt wA (w.heap.size + 1) (fun _ _ => false)) := by
    rw [← hwA, zeroCells_tab]
    exact heap_last (by simp)
  try rw [hwA]
  clear hwA
  refine (impl_order _ F _ (HF.out.later BA.out)).mono ?_
  rintro e w1 ⟨ov, rfl, o1, b1⟩
  rw [orderOf_yes HS.out, HO.out] at o1
  have O1 : Hid (IntsAt w1 ov o) := o1.at
  have HOB : Hid (∀ k, ov.ownBlock = some k → k < w1.heap.size) := fun k hk => (World.ownsRow.lt o1 k hk).2
  have B1 : Hid (Below w.heap.size w w1) := Bel.after BA.out b1
  have X1 : Hid (w1.heap[w.heap.size]? = some (.cells #[.slice ba n bcap, .int .i64 vals] 26 (0, 0))) := (b1.block _ (by omega)).trans XA.out
  have R1 : Hid (TabAt w1 (w.heap.size + 1) (fun _ _ => false)) := RA.out.keep b1
  have hs1 : w.heap.size + 2 ≤ w1.heap.size := by have := b1.size; omega
  clear b1 o1 BA XA RA
  go_wp2_with fail
  refine (domStart_any ov o _ O1.out (fun x hx => by have := HR.out x hx; rw [HN.out] at this; omega)).mono ?_
  rintro e w2 ⟨rfl, b2⟩
  have O2 : Hid (IntsAt w2 ov o) := O1.out.keep b2
  have B2 : Hid (Below w.heap.size w w2) := Bel.after B1.out b2
  have X2 : Hid (w2.heap[w.heap.size]? = some (.cells #[.slice ba n bcap, .int .i64 vals] 26 (0, 0))) := (b2.block _ (by omega)).trans X1.out
  have R2 : Hid (TabAt w2 (w.heap.size + 1) (fun _ _ => false)) := R1.out.keep b2
  have hs2 : w.heap.size + 2 ≤ w2.heap.size := by have := b2.size; omega
  have HOB2 : Hid (∀ k, ov.ownBlock = some k → k < w2.heap.size) := fun k hk => Nat.lt_of_lt_of_le (HOB.out k hk) b2.size
  clear HOB b2 O1 B1 X1 R1 hs1 hsA
  go_wp2_with (first
    | (refine wpList_store_tab rfl _ _ rfl w2.heap.size rfl (fun _ _ => false) (startL o) rfl (tab_alloc w2) ?_; obtain ⟨w3, hw3⟩ : ∃ w3, (w2.alloc (.cells Try.zeroCells83 83)).setRow w2.heap.size (tabC (startL o)).toArray = w3 := ⟨_, rfl⟩; have b3 : Below w2.heap.size w2 w3 := (by rw [← hw3]; exact below_setRow (Bel.alloc _ _) (Nat.le_refl _) _); have T3 : Hid (TabAt w3 w2.heap.size (startL o)) := (by rw [← hw3]; exact (tab_alloc w2).put); have hs3 : w3.heap.size = w2.heap.size + 1 := (by rw [← hw3]; simp); have O3 : Hid (IntsAt w3 ov o) := O2.out.keep b3; have B3 : Hid (Below w.heap.size w w3) := Bel.after B2.out b3; have x3 : w3.heap[w.heap.size]? = some (.cells #[.slice ba n bcap, .int .i64 vals] 26 (0, 0)) := (b3.block _ (by omega)).trans X2.out; have X3 : Hid (w3.heap[w.heap.size]? = some (.cells #[.slice ba n bcap, .int .i64 vals] 26 (0, 0))) := x3; have R3 : Hid (TabAt w3 (w.heap.size + 1) (fun _ _ => false)) := R2.out.keep b3; have c0 : w3.cell? ⟨w.heap.size, 0, none⟩ = some (.slice ba n bcap) := (by simp [World.cell?, x3]); have c1 : w3.cell? ⟨w.heap.size, 1, none⟩ = some (.int .i64 vals) := (by simp [World.cell?, x3]); rw [hw3]; clear hw3 b3 x3 O2 B2 X2 R2)
    | refine wpList_load_tab rfl _ rfl w2.heap.size rfl (startL o) T3.out ?_)
  refine (domRound_any _ ov F o (startL o) _ (HF.out.later B3.out) HS.out O3.out HR.out).mono ?_
  rw [HE.out]
  rintro e w4 ⟨rfl, b4⟩
  have O4 : Hid (IntsAt w4 ov o) := O3.out.keep b4
  have B4 : Hid (Below w.heap.size w w4) := Bel.after B3.out b4
  have X4 : Hid (w4.heap[w.heap.size]? = some (.cells #[.slice ba n bcap, .int .i64 vals] 26 (0, 0))) := (b4.block _ (by omega)).trans X3.out
  have R4 : Hid (TabAt w4 (w.heap.size + 1) (fun _ _ => false)) := R3.out.keep b4
  have T4 : Hid (TabAt w4 w2.heap.size (startL o)) := T3.out.keep b4
  have hs4 : w2.heap.size + 1 ≤ w4.heap.size := by have := b4.size; omega
  clear b4 O3 B3 X3 R3 T3 c0 c1 hs3
  go_wp2_with (refine wpList_store_tab rfl _ _ rfl w4.heap.size rfl (fun _ _ => false) (rfold E (startL o)) rfl (tab_alloc w4) ?_; obtain ⟨w5, hw5⟩ : ∃ w5, (w4.alloc (.cells Try.zeroCells83 83)).setRow w4.heap.size (tabC (rfold E (startL o))).toArray = w5 := ⟨_, rfl⟩; have b5 : Below w4.heap.size w4 w5 := (by rw [← hw5]; exact below_setRow (Bel.alloc _ _) (Nat.le_refl _) _); have N5 : Hid (TabAt w5 w4.heap.size (rfold E (startL o))) := (by rw [← hw5]; exact (tab_alloc w4).put); have O5 : Hid (IntsAt w5 ov o) := O4.out.keep b5; have B5 : Hid (Below w.heap.size w w5) := Bel.after B4.out b5; have X5 : Hid (w5.heap[w.heap.size]? = some (.cells #[.slice ba n bcap, .int .i64 vals] 26 (0, 0))) := (b5.block _ (by omega)).trans X4.out; have R5 : Hid (TabAt w5 (w.heap.size + 1) (fun _ _ => false)) := R4.out.keep b5; have T5 : Hid (TabAt w5 w2.heap.size (startL o)) := T4.out.keep b5; rw [hw5]; clear hw5 b5 O4 B4 X4 R4 T4)
  obtain ⟨TB, hTB⟩ : ∃ x, w2.heap.size = x := ⟨_, rfl⟩
  obtain ⟨NB, hNB⟩ : ∃ x, w4.heap.size = x := ⟨_, rfl⟩
  rw [hTB] at T5 hs2 hs4 ⊢
  rw [hNB] at N5 hs4 ⊢
  rw [hTB] at HOB2
  clear hTB hNB
  dsimp only [Act.put]
  have HIO : Hid (∀ wr, Below TB w5 wr → IntsAt wr ov o) := fun wr hb => O5.out.under hb HOB2.out
  have HIX : Hid (∀ wr, Below TB w5 wr → wr.heap[w.heap.size]? = some (.cells #[.slice ba n bcap, .int .i64 vals] 26 (0, 0))) := fun wr hb => (hb.block _ (by omega)).trans X5.out
  have HIR : Hid (∀ wr, Below TB w5 wr → TabAt wr (w.heap.size + 1) (fun _ _ => false)) := fun wr hb => (hb.block _ (by omega)).trans R5.out
  have HIB : Hid (∀ wr, Below TB w5 wr → Below w.heap.size w wr) := fun wr hb => B5.out.trans (hb.mono (by omega))
  clear O5 X5 R5 B5 HOB2
  go_loopw [16] (fun _ wr => ∃ T, TInv F T ∧ TabAt wr TB T ∧ TabAt wr NB (rfold E T) ∧ Below TB w5 wr) (fun _ wr => cnt (tabOf wr TB))
  case atStart => exact ⟨startL o, HI0.out, T5.out, N5.out, Below.refl _ _⟩
  case round =>
    obtain ⟨T, hI, hT, hN, hB⟩ := hrel
    have HI : Hid (TInv F T) := hI
    have HT : Hid (TabAt wr TB T) := hT
    have HNX : Hid (TabAt wr NB (rfold E T)) := hN
    have HB : Hid (Below TB w5 wr) := hB
    have x0 := HIX.out wr hB
    have c0 : wr.cell? ⟨w.heap.size, 0, none⟩ = some (.slice ba n bcap) := by simp [World.cell?, x0]
    have c1 : wr.cell? ⟨w.heap.size, 1, none⟩ = some (.int .i64 vals) := by simp [World.cell?, x0]
    have hq := tab_neq (rfold E T) T
    have hgd := fun x y => tab_guard .neq x y (rfold E T) T
    clear hI hT hN hB x0
    cases hs : sameT (rfold E T) T with
    | false =>
      have HNE : Hid (¬ TEq (rfold E T) T) := fun h => by rw [sameT_iff.2 h] at hs; cases hs
      rw [hs] at hq
      clear hs
      go_wp2_with (first
        | refine wpList_load_tab rfl _ rfl NB rfl _ HNX.out ?_
        | refine wpList_load_tab rfl _ rfl TB rfl _ HT.out ?_
        | (refine wpList_store_tab rfl _ _ rfl TB rfl _ (rfold E T) rfl HT.out ?_; obtain ⟨w6, hw6⟩ : ∃ w6, wr.setRow TB (tabC (rfold E T)).toArray = w6 := ⟨_, rfl⟩; have B6 : Hid (Below TB w5 w6) := (by rw [← hw6]; exact below_setRow HB.out (Nat.le_refl _) _); have T6 : Hid (TabAt w6 TB (rfold E T)) := (by rw [← hw6]; exact HT.out.put); have N6 : Hid (TabAt w6 NB (rfold E T)) := (by rw [← hw6]; exact HNX.out.far (by omega) _); rw [hw6]; have x6 := HIX.out w6 B6.out; have d0 : w6.cell? ⟨w.heap.size, 0, none⟩ = some (.slice ba n bcap) := (by simp [World.cell?, x6]); have d1 : w6.cell? ⟨w.heap.size, 1, none⟩ = some (.int .i64 vals) := (by simp [World.cell?, x6]); clear hw6 x6)
        | refine wpList_load_tab rfl _ rfl TB rfl _ T6.out ?_)
      refine (domRound_any _ ov F o (rfold E T) _ (HF.out.later (HIB.out _ B6.out)) HS.out (HIO.out _ B6.out) HR.out).mono ?_
      rw [HE.out]
      rintro e w7 ⟨rfl, b7⟩
      have hT6 := T6.out.lt
      have B7 : Hid (Below TB w5 w7) := B6.out.trans (b7.mono (by omega))
      have T7 : Hid (TabAt w7 TB (rfold E T)) := T6.out.keep b7
      have N7 : Hid (TabAt w7 NB (rfold E T)) := N6.out.keep b7
      clear b7 d0 d1 c0 c1 hT6
      go_wp2_with (refine wpList_store_tab rfl _ _ rfl NB rfl _ (rfold E (rfold E T)) rfl N7.out ?_)
      dsimp only [Act.put]
      go_roundw
      case rel => exact ⟨rfold E T, HIN.out T HI.out, T7.out.far (by omega) _, N7.out.put, below_setRow B7.out (by omega) _⟩
      case measure =>
        rw [cnt_congr (T7.out.far (by omega) _).read, cnt_congr HT.out.read]
        exact cnt_lt (fun x a h => rfold_le E h) HNE.out
    | true =>
      have HEQ : Hid (TEq (rfold E T) T) := sameT_iff.1 hs
      rw [hs] at hq
      clear hs
      have RR : Hid (TabAt wr (w.heap.size + 1) (fun _ _ => false)) := HIR.out wr HB.out
      have BB : Hid (Below w.heap.size w wr) := HIB.out wr HB.out
      go_wp2_with (first
        | refine wpList_load_tab rfl _ rfl NB rfl _ HNX.out ?_
        | refine wpList_load_tab rfl _ rfl TB rfl _ HT.out ?_
        | refine wpList_store_tab rfl _ _ rfl (w.heap.size + 1) rfl _ T rfl RR.out ?_)
      refine bodyPost_ret (v := tabV T) (row_results rfl rfl RR.out.put Try.underlying83 rfl (by rw [List.size_toArray, tabC_len]; exact info_tab)) rfl ?_
      refine ⟨?_, below_setRow BB.out (by omega) _⟩
      unfold tabV
      rw [tabC_congr (HEND.out T HI.out HEQ.out)]
end Go.Proofs.Ytlmkipmkanhcfaa
