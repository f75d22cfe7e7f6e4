/- A table of sets of blocks: an array of arrays by value, in a block of memory; rows out of it and into it. -/
import Derived.Test.YtlmkipmkanhcfaaSets
import Derived.Test.YtlmkipmkanhcfaaDom
namespace Go.Proofs.Ytlmkipmkanhcfaa
open Go.ChangeShapes Go.WideShapes Go.ChangeAt Go.RowKit Go.Shelf
set_option linter.unusedVariables false

/-- The cells of a table. -/
def tabC (T : Tab) : List Value := (List.range 256).map (fun k => Value.bool (T (k / 16) (k % 16)))
theorem tabC_len (T : Tab) : (tabC T).length = 256 := by simp [tabC]
theorem tabC_at (T : Tab) {k : Nat} (h : k < 256) : (tabC T)[k]? = some (.bool (T (k / 16) (k % 16))) := by simp [tabC, h]
theorem tabC_one (T : Tab) : ∀ v ∈ tabC T, v.oneCell' = true := by
  intro v hv
  obtain ⟨a, _, rfl⟩ := List.mem_map.1 hv
  rfl
theorem tabC_congr {T U : Tab} (h : TEq T U) : tabC T = tabC U := List.map_congr_left (fun k hk => by
  have : k < 256 := by simpa using hk
  rw [h (k / 16) (k % 16) (by omega) (by omega)])
theorem tabC_inj {T U : Tab} (h : tabC T = tabC U) : TEq T U := fun b a hb ha => by
  have h1 := tabC_at T (k := 16 * b + a) (by omega)
  have h2 := tabC_at U (k := 16 * b + a) (by omega)
  rw [h, h2] at h1
  have e1 : (16 * b + a) / 16 = b := by omega
  have e2 : (16 * b + a) % 16 = a := by omega
  rw [e1, e2] at h1
  simpa using h1.symm
/-- A row of a table put. -/
def putT (T : Tab) (b : Nat) (f : Nat → Bool) : Tab := fun x a => if x = b then f a else T x a
theorem tabC_put (T : Tab) {b : Nat} (hb : b < 16) (f : Nat → Bool) : (tabC T).take (b * 16) ++ rowC f ++ (tabC T).drop (b * 16 + 16) = tabC (putT T b f) := by
  apply List.ext_getElem?
  intro i
  have hl : ((tabC T).take (b * 16)).length = b * 16 := by rw [List.length_take, tabC_len]; omega
  by_cases h1 : i < b * 16
  · rw [List.append_assoc, List.getElem?_append_left (by omega), List.getElem?_take, if_pos h1, tabC_at T (by omega), tabC_at _ (by omega)]
    have : i / 16 ≠ b := by omega
    simp [putT, this]
  · by_cases h2 : i < b * 16 + 16
    · rw [List.getElem?_append_left (by rw [List.length_append, hl, rowC_len]; omega), List.getElem?_append_right (by omega), hl, rowC_at f (by omega), tabC_at _ (by omega)]
      have e1 : i / 16 = b := by omega
      have e2 : i % 16 = i - b * 16 := by omega
      simp [putT, e1, e2]
    · rw [List.getElem?_append_right (by rw [List.length_append, hl, rowC_len]; omega), List.length_append, hl, rowC_len, List.getElem?_drop]
      have e : b * 16 + 16 + (i - (b * 16 + 16)) = i := by omega
      rw [e]
      by_cases h3 : i < 256
      · rw [tabC_at T h3, tabC_at _ h3]
        have : i / 16 ≠ b := by omega
        simp [putT, this]
      · rw [List.getElem?_eq_none (by rw [tabC_len]; omega), List.getElem?_eq_none (by rw [tabC_len]; omega)]
def tabV (T : Tab) : Value := .agg (tabC T).toArray
/-- A table, a set in a block of memory. -/
def TabAt (w : World) (B : Nat) (T : Tab) : Prop := w.heap[B]? = some (.cells (tabC T).toArray 83 (0, 0))
def SetAt (w : World) (B : Nat) (f : Nat → Bool) : Prop := w.heap[B]? = some (.cells (rowC f).toArray 81 (0, 0))
theorem TabAt.lt {w : World} {B : Nat} {T : Tab} (h : TabAt w B T) : B < w.heap.size := (Array.getElem?_eq_some_iff.1 h).1
theorem SetAt.lt {w : World} {B : Nat} {f : Nat → Bool} (h : SetAt w B f) : B < w.heap.size := (Array.getElem?_eq_some_iff.1 h).1
theorem TabAt.keep {w w' : World} {B : Nat} {T : Tab} (h : TabAt w B T) (hb : Below w.heap.size w w') : TabAt w' B T := (hb.block B h.lt).trans h
theorem SetAt.keep {w w' : World} {B : Nat} {f : Nat → Bool} (h : SetAt w B f) (hb : Below w.heap.size w w') : SetAt w' B f := (hb.block B h.lt).trans h
theorem TabAt.row {w : World} {B : Nat} {T : Tab} (h : TabAt w B T) {b : Nat} (hb : b < 16) : w.rangeAt B (b * 16) (rowC (T b)) := fun j v hv => by
  have hj : j < 16 := by have := (List.getElem?_eq_some_iff.1 hv).1; rw [rowC_len] at this; exact this
  rw [rowC_at _ hj] at hv
  have e := tabC_at T (k := b * 16 + j) (by omega)
  have e1 : (b * 16 + j) / 16 = b := by omega
  have e2 : (b * 16 + j) % 16 = j := by omega
  rw [e1, e2] at e
  rw [← hv, ← e]
  simp [World.cell?, show w.heap[B]? = _ from h]
theorem info_tab : (Try.prog.info? 83).map (·.size) = some 256 := by kernel_rfl
theorem zero_tab : (Try.prog.info? 83).map (fun i => (i.zero, i.size)) = some (some (.agg (tabC (fun _ _ => false)).toArray), 256) := by kernel_rfl
theorem zero_tab_run (w : World) : (zeroValue 83).run Try.prog w = .ok (.agg (tabC (fun _ _ => false)).toArray) w := (zero_of_info zero_tab).1 w
/-- A table is given. -/
def GivesTab (w : World) (T : Tab) (e : Ending) (w' : World) : Prop := e = .returned (tabV T) ∧ Below w.heap.size w w'

/-- A part of a row into its block. -/
theorem wpList_store_part {P : Program} {ops : Array Oper} {rest : List Oper} {op : Oper} {a : Act} {w : World} {Q : Exit → Act → World → Prop} (hgd : op.guard = none) (ty : TypeId) (x y : Operand) (ho : op.op = .store ty x y)
    (b o : Nat) (c : Array Value) (vs : List Value) (t : TypeId) (hx : a.eval x = .pointer (some ⟨b, o, none⟩)) (hy : a.eval y = .agg vs.toArray) (hc : w.heap[b]? = some (.cells c t (0, 0)))
    (hi : (P.info? ty).map (·.size) = some vs.length) (hs : o + vs.length ≤ c.size) (h1 : ∀ v ∈ vs, v.oneCell' = true)
    (h : wpList P ops Q rest (a.put op.dst undef) (w.setRow b (c.toList.take o ++ vs ++ c.toList.drop (o + vs.length)).toArray)) : wpList P ops Q (op :: rest) a w :=
  wpList_plain hgd fun _ hK => by
    have hst := run_storeCells_at (P := P) b o t vs 0 c w hc (by simp; omega) h1
    simp only [Nat.add_zero] at hst
    have hsv : (storeVar ty ⟨b, o, none⟩ (.agg vs.toArray)).run P w = .ok () (w.setRow b (c.toList.take o ++ vs ++ c.toList.drop (o + vs.length)).toArray) := by
      cases hq : P.info? ty with
      | none => simp [hq] at hi
      | some i =>
        have hs : vs.length = i.size := by simp [hq] at hi; omega
        simp [storeVar, sizeOf, typeInfo, hq, Value.cells, hs, hst]
    unfold Oper.wp execOp
    simp only [ho, hx, hy, Instr.storeAt, Instr.sureAddr, Sem.run_bind, Sem.run_pure, Result.andThen_ok, hsv]
    exact hK _ _ h
/-- A row into a table. -/
theorem wpList_put_row {ops : Array Oper} {rest : List Oper} {op : Oper} {a : Act} {w : World} {Q : Exit → Act → World → Prop} (hgd : op.guard = none) (x y : Operand) (ho : op.op = .store 81 x y)
    (B b : Nat) (T : Tab) (f : Nat → Bool) (hb : b < 16) (hx : a.eval x = .pointer (some ⟨B, b * 16, none⟩)) (hy : a.eval y = setV f) (hc : TabAt w B T)
    (h : wpList Try.prog ops Q rest (a.put op.dst undef) (w.setRow B (tabC (putT T b f)).toArray)) : wpList Try.prog ops Q (op :: rest) a w := by
  refine wpList_store_part hgd 81 x y ho B (b * 16) (tabC T).toArray (rowC f) 83 hx hy hc (by rw [rowC_len]; exact info_set) (by rw [rowC_len, List.size_toArray, tabC_len]; omega) (rowC_one f) ?_
  rw [rowC_len]
  simpa [tabC_put T hb f] using h
theorem TabAt.put {w : World} {B : Nat} {T U : Tab} (h : TabAt w B T) : TabAt (w.setRow B (tabC U).toArray) B U := setRow_heap w B _ _ _ _ h
theorem TabAt.far {w : World} {B C : Nat} {T : Tab} (h : TabAt w B T) (hne : B ≠ C) (c : Array Value) : TabAt (w.setRow C c) B T := (setRow_other w C B c hne).trans h
theorem SetAt.far {w : World} {B C : Nat} {f : Nat → Bool} (h : SetAt w B f) (hne : B ≠ C) (c : Array Value) : SetAt (w.setRow C c) B f := (setRow_other w C B c hne).trans h
theorem SetAt.put {w : World} {B : Nat} {f g : Nat → Bool} (h : SetAt w B f) : SetAt (w.setRow B (rowC g).toArray) B g := setRow_heap w B _ _ _ _ h

theorem SetAt.congr {w : World} {B : Nat} {f g : Nat → Bool} (h : SetAt w B f) (e : ∀ a, a < 16 → f a = g a) : SetAt w B g := by
  unfold SetAt at *
  rw [h, rowC_congr e]
theorem TabAt.congr {w : World} {B : Nat} {T U : Tab} (h : TabAt w B T) (e : TEq T U) : TabAt w B U := by
  unfold TabAt at *
  rw [h, tabC_congr e]
theorem zeroCells_tab : Try.zeroCells83 = (tabC (fun _ _ => false)).toArray := by kernel_rfl
theorem getD_mem {l : List Int} {k : Nat} (h : k < l.length) : l.getD k 0 ∈ l := by
  have : l.getD k 0 = l[k] := by simp [List.getD, h]
  rw [this]
  exact List.getElem_mem h
theorem take_nextI {l : List Int} {k : Nat} (h : k < l.length) : l.take (k + 1) = l.take k ++ [l.getD k 0] := by
  rw [List.take_add_one]
  simp [List.getD, h]
/-- Blocks of a list. -/
def inL (l : List Int) : Nat → Bool := fun a => decide ((a : Int) ∈ l)
theorem inL_next {l : List Int} {k xn : Nat} (h : k < l.length) (hx : l.getD k 0 = (xn : Int)) (a : Nat) : (inL (l.take k) a || decide (a = xn)) = inL (l.take (k + 1)) a := by
  unfold inL
  rw [take_nextI h, hx]
  by_cases e : a = xn <;> simp [e, Int.ofNat_inj]
/-- The table with which rounds begin, by a list. -/
def startL (o : List Int) : Tab := putT (fun b a => inL o b && inL o a) 0 (fun a => decide (a = 0))
/-- Numbers of a list, wherever what lay stays. -/
theorem IntsAt.cells {w : World} {oa : Option Addr} {n ocap : Nat} {o : List Int} (h : IntsAt w (.slice oa n ocap) o) : ∀ wr, Below w.heap.size w wr → ∀ k, k < n → ∃ b off, oa = some ⟨b, off, none⟩ ∧ wr.cell? ⟨b, off + k, none⟩ = some (.int .i64 (o.getD k 0)) := by
  intro wr hb k hk
  obtain ⟨a, cap, e, _, hc⟩ := h.keep hb
  simp at e
  obtain ⟨rfl, rfl, rfl⟩ := e
  obtain ⟨b, off, rfl, hd⟩ := hc (by omega)
  exact ⟨b, off, rfl, hd k hk⟩
set_option maxRecDepth 100000 in
set_option maxHeartbeats 4000000 in
theorem domStart_any (ov : Value) (o : List Int) (w : World) (ho : IntsAt w ov o) (hr : ∀ x ∈ o, 0 ≤ x ∧ x < 16) :
    Calls Try.prog 72 #[ov] w fun e w' => GivesTab w (startL o) e w' := by
  have HR : Hid (∀ x ∈ o, 0 ≤ x ∧ x < 16) := hr
  have HO : Hid (IntsAt w ov o) := ho
  obtain ⟨oa, ocap, rfl, hmx, _⟩ := ho
  have HC := HO.out.cells
  obtain ⟨n, HN⟩ : ∃ n, Hid (o.length = n) := ⟨_, rfl⟩
  rw [HN.out] at hmx HC ⊢
  have HOC : Hid (∀ wr, Below w.heap.size w wr → ∀ k, k < n → ∃ b off, oa = some ⟨b, off, none⟩ ∧ wr.cell? ⟨b, off + k, none⟩ = some (.int .i64 (o.getD k 0))) := HC
  have HEL : Hid (∀ k, k < n → ∃ xn : Nat, o.getD k 0 = (xn : Int) ∧ xn < 16) := fun k hk => by
    have := HR.out _ (getD_mem (by rw [HN.out]; exact hk))
    exact ⟨(o.getD k 0).toNat, by omega, by omega⟩
  clear hr HC
  go_enter Try.func72, Try.ntmps72
  go_wp2_with fail
  go_loopw [11] (fun i wr => ∃ k : Nat, k ≤ n ∧ i = .int .i64 k ∧ Below w.heap.size w wr ∧ TabAt wr w.heap.size (fun _ _ => false) ∧ SetAt wr (w.heap.size + 1) (inL (o.take k))) (fun i _ => n - (intOf i).toNat)
  case atStart =>
    refine ⟨0, Nat.zero_le _, rfl, by repeat (first | exact Below.refl _ _ | apply Below.drew | refine Below.alloc ?_ (by simp <;> omega) _ | refine Below.setCell ?_ (by simp <;> omega) _), ?_, ?_⟩
    · rw [zeroCells_tab]
      exact (Below.heap_alloc _ _ _ (by simp)).trans (World.alloc_heap_new _ _)
    · exact heap_last (by simp)
  case round =>
    obtain ⟨k, hk, rfl, hB, hT, hS⟩ := hrel
    have HB : Hid (Below w.heap.size w wr) := hB
    have HT : Hid (TabAt wr w.heap.size (fun _ _ => false)) := hT
    have HS : Hid (SetAt wr (w.heap.size + 1) (inL (o.take k))) := hS
    clear hB hT hS
    by_cases hlt : (k : Int) < (n : Int)
    · obtain ⟨b, off, rfl, q1⟩ := HOC.out wr HB.out k (by omega)
      obtain ⟨xn, hx, hx16⟩ := HEL.out k (by omega)
      rw [hx] at q1
      have HX : Hid (o.getD k 0 = (xn : Int)) := hx
      clear hx
      go_wp2_with (refine wpList_load_row rfl 81 _ rfl (w.heap.size + 1) rfl _ _ _ _ HS.out Try.underlying81 rfl (by rw [List.size_toArray, rowC_len]; exact info_set) ?_)
      refine (with_any (inL (o.take k)) xn hx16 _).mono ?_
      rintro e w1 ⟨rfl, b1⟩
      have S1 : Hid (SetAt w1 (w.heap.size + 1) (inL (o.take k))) := HS.out.keep b1
      have T1 : Hid (TabAt w1 w.heap.size (fun _ _ => false)) := HT.out.keep b1
      have B1 : Hid (Below w.heap.size w w1) := Bel.after HB.out b1
      clear b1 q1
      unfold setV
      go_wp2_with (refine wpList_store_row rfl 81 _ _ rfl (w.heap.size + 1) _ _ _ rfl rfl S1.out (by rw [List.size_toArray, rowC_len]; exact info_set) (by simp [rowC_len]) (all_oneCell_toArray (rowC_one _)) ?_)
      go_roundw
      case rel => exact ⟨k + 1, by omega, by go_num, below_setRow B1.out (by omega) _, T1.out.far (by omega) _, (S1.out.put).congr (fun a _ => inL_next (by rw [HN.out]; omega) HX.out a)⟩
      case measure => simp [intOf]; omega
    · have hkn : k = n := by omega
      subst hkn
      have HS2 : Hid (SetAt wr (w.heap.size + 1) (inL o)) := by
        have := HS.out
        rw [← HN.out, List.take_length] at this
        exact this
      clear HS
      have hNw : w.heap.size + 2 ≤ wr.heap.size := by have := HS2.out.lt; omega
      go_wp2_with fail
      obtain ⟨wT, hwT⟩ : ∃ wT, wr.alloc (.cells Try.zeroCells83 83) = wT := ⟨_, rfl⟩
      have BT : Hid (Below w.heap.size w wT) := by rw [← hwT]; exact Bel.after HB.out (Bel.alloc _ _)
      have TT : Hid (TabAt wT w.heap.size (fun _ _ => false)) := by rw [← hwT]; exact HT.out.keep (Bel.alloc _ _)
      have ST : Hid (SetAt wT (w.heap.size + 1) (inL o)) := by rw [← hwT]; exact HS2.out.keep (Bel.alloc _ _)
      have NT : Hid (TabAt wT wr.heap.size (fun _ _ => false)) := by
        rw [← hwT, zeroCells_tab]
        exact World.alloc_heap_new _ _
      rw [hwT]
      clear hwT HB HT HS2
      obtain ⟨TB, hTB⟩ : ∃ TB, wr.heap.size = TB := ⟨_, rfl⟩
      rw [hTB] at hNw NT ⊢
      clear hTB
      go_loopw [21] (fun i wx => ∃ j : Nat, j ≤ k ∧ i = .int .i64 j ∧ Below w.heap.size w wx ∧ TabAt wx w.heap.size (fun _ _ => false) ∧ SetAt wx (w.heap.size + 1) (inL o) ∧ TabAt wx TB (fun b a => inL (o.take j) b && inL o a)) (fun i _ => k - (intOf i).toNat)
      case atStart => exact ⟨0, Nat.zero_le _, rfl, BT.out, TT.out, ST.out, NT.out.congr (fun b a _ _ => by simp [inL])⟩
      case round =>
        obtain ⟨j, hj, rfl, hB, hT, hS, hX⟩ := hrel
        have HB : Hid (Below w.heap.size w wr) := hB
        have HT : Hid (TabAt wr w.heap.size (fun _ _ => false)) := hT
        have HS : Hid (SetAt wr (w.heap.size + 1) (inL o)) := hS
        have HX : Hid (TabAt wr TB (fun b a => inL (o.take j) b && inL o a)) := hX
        clear hB hT hS hX
        by_cases hlt2 : (j : Int) < (k : Int)
        · obtain ⟨b, off, rfl, q1⟩ := HOC.out wr HB.out j (by omega)
          obtain ⟨xn, hx, hx16⟩ := HEL.out j (by omega)
          rw [hx] at q1
          have HE : Hid (o.getD j 0 = (xn : Int)) := hx
          clear hx
          go_wp2_with (first
            | refine wpList_load_row rfl 81 _ rfl (w.heap.size + 1) rfl _ _ _ _ HS.out Try.underlying81 rfl (by rw [List.size_toArray, rowC_len]; exact info_set) ?_
            | refine wpList_put_row rfl _ _ rfl TB xn _ (inL o) hx16 rfl rfl HX.out ?_)
          go_roundw
          case rel =>
            refine ⟨j + 1, by omega, by go_num, below_setRow HB.out (by omega) _, HT.out.far (by omega) _, HS.out.far (by omega) _, (HX.out.put).congr (fun b a _ _ => ?_)⟩
            rw [← inL_next (by rw [HN.out]; omega) HE.out b]
            unfold putT
            by_cases e : b = xn <;> simp [e]
          case measure => simp [intOf]; omega
        · have hjk : j = k := by omega
          subst hjk
          have HX2 : Hid (TabAt wr TB (fun b a => inL o b && inL o a)) := by
            have := HX.out
            rw [← HN.out, List.take_length] at this
            exact this
          clear HX
          go_wp2_with fail
          rw [zero_set]
          refine (with_any (fun _ => false) 0 (by omega) _).mono ?_
          rintro e w1 ⟨rfl, b1⟩
          have T1 : Hid (TabAt w1 w.heap.size (fun _ _ => false)) := HT.out.keep b1
          have X1 : Hid (TabAt w1 TB (fun b a => inL o b && inL o a)) := HX2.out.keep b1
          have B1 : Hid (Below w.heap.size w w1) := Bel.after HB.out b1
          clear b1
          unfold setV
          go_wp2_with (first
            | refine wpList_put_row rfl _ _ rfl TB 0 _ _ (by omega) rfl rfl X1.out ?_
            | refine wpList_load_row rfl 83 _ rfl TB rfl _ _ _ _ (X1.out.put) Try.underlying83 rfl (by rw [List.size_toArray, tabC_len]; exact info_tab) ?_
            | refine wpList_store_row rfl 83 _ _ rfl w.heap.size _ _ _ rfl rfl (T1.out.far (by omega) _) (by rw [List.size_toArray, tabC_len]; exact info_tab) (by simp [tabC_len]) (all_oneCell_toArray (tabC_one _)) ?_)
          refine bodyPost_ret (v := tabV (startL o)) (row_results rfl rfl (setRow_heap _ _ _ _ _ _ (T1.out.far (by omega) _)) Try.underlying83 rfl (by rw [List.size_toArray, tabC_len]; exact info_tab)) rfl ?_
          exact ⟨rfl, below_setRow (below_setRow B1.out (by omega) _) (Nat.le_refl _) _⟩
end Go.Proofs.Ytlmkipmkanhcfaa
