/- Sets of blocks: an array of bools by value, and its methods. -/
import Derived.Test.YtlmkipmkanhcfaaOwn
import Derived.Deep.MidRow
import Derived.Deep.WholeRow
import Derived.Laws.ResultCell
import Derived.Laws.CopyOwn
namespace Go.Proofs.Ytlmkipmkanhcfaa
open Go.ChangeShapes Go.WideShapes Go.ChangeAt Go.RowKit
set_option linter.unusedVariables false

theorem heap_last {w : World} {o : Obj} {k : Nat} (h : w.heap.size = k) : (w.alloc o).heap[k]? = some o := by subst h; exact World.alloc_heap_new w o
/-- A whole row out of its block. -/
theorem range_of_row {w : World} {b : Nat} {c : Array Value} {t : TypeId} {z : Nat × Nat} (h : w.heap[b]? = some (.cells c t z)) : w.rangeAt b 0 c.toList := fun j v hv => by
  simp [World.cell?, h]
  simpa using hv
theorem wpList_load_row {P : Program} {ops : Array Oper} {rest : List Oper} {op : Oper} {a : Act} {w : World} {Q : Exit → Act → World → Prop} (hgd : op.guard = none) (ty : TypeId) (x : Operand) (ho : op.op = .load ty x)
    (b : Nat) (hx : a.eval x = .pointer (some ⟨b, 0, none⟩)) (c : Array Value) (t : TypeId) (z : Nat × Nat) (d : TypeDesc) (hc : w.heap[b]? = some (.cells c t z))
    (hu : P.underlying ty = some d) (hd : d.isRow = true) (hi : (P.info? ty).map (·.size) = some c.size)
    (h : wpList P ops Q rest (a.put op.dst (.agg c)) w) : wpList P ops Q (op :: rest) a w :=
  wpList_load_mid hgd ty x ho b 0 hx c.toList d (range_of_row hc) hu hd (by simpa using hi) (by simpa using h)
/-- A whole row into its block. -/
theorem wpList_store_row {P : Program} {ops : Array Oper} {rest : List Oper} {op : Oper} {a : Act} {w : World} {Q : Exit → Act → World → Prop} (hgd : op.guard = none) (ty : TypeId) (x y : Operand) (ho : op.op = .store ty x y)
    (b : Nat) (c c' : Array Value) (t : TypeId) (hx : a.eval x = .pointer (some ⟨b, 0, none⟩)) (hy : a.eval y = .agg c') (hc : w.heap[b]? = some (.cells c t (0, 0)))
    (hi : (P.info? ty).map (·.size) = some c'.size) (hs : c.size = c'.size) (h1 : c'.all (·.oneCell') = true)
    (h : wpList P ops Q rest (a.put op.dst undef) (w.setRow b c')) : wpList P ops Q (op :: rest) a w :=
  wpList_plain hgd fun _ hK => by
    unfold Oper.wp execOp
    simp only [ho, hx, hy, Instr.storeAt, Instr.sureAddr, Sem.run_bind, Sem.run_pure, Result.andThen_ok, run_storeVar_row w b t ty c c' hc hi hs h1]
    exact hK _ _ h

theorem results_cell1 {fn : Func} {p : Tmp} {ty : TypeId} (h : fn.results = #[.cell p ty]) (tmps : Array Value) (P : Program) (w : World) :
    (results fn tmps).run P w = ((asAddr (tmps.getD p undef)).run P w).andThen fun a w₁ => (loadVar ty a).run P w₁ := by
  simp only [results, h]
  simp [Sem.run_bind, Result.andThen]
/-- A row that is handed back out of its block. -/
theorem row_results {P : Program} {fn : Func} {p : Tmp} {ty : TypeId} (h : fn.results = #[.cell p ty]) {tmps : Array Value} {w : World} {b : Nat} (hp : tmps.getD p undef = .pointer (some ⟨b, 0, none⟩)) {c : Array Value} {t : TypeId} {z : Nat × Nat} (hb : w.heap[b]? = some (.cells c t z)) {d : TypeDesc}
    (hu : P.underlying ty = some d) (hd : d.isRow = true) (hi : (P.info? ty).map (·.size) = some c.size) : (results fn tmps).run P w = .ok (.agg c) w := by
  rw [results_cell1 h, hp]
  have := run_loadVar_mid (P := P) w b 0 ty c.toList d (range_of_row hb) hu hd (by simpa using hi)
  simp only [Array.toArray_toList] at this
  simp [asAddr, Result.andThen, this]

/-- The cells of a set. -/
def rowC (f : Nat → Bool) : List Value := (List.range 16).map (fun a => Value.bool (f a))
theorem rowC_len (f : Nat → Bool) : (rowC f).length = 16 := by simp [rowC]
theorem rowC_at (f : Nat → Bool) {a : Nat} (h : a < 16) : (rowC f)[a]? = some (.bool (f a)) := by simp [rowC, h]
theorem rowC_one (f : Nat → Bool) : ∀ v ∈ rowC f, v.oneCell' = true := by
  intro v hv
  obtain ⟨a, _, rfl⟩ := List.mem_map.1 hv
  rfl
theorem rowC_congr {f g : Nat → Bool} (h : ∀ a, a < 16 → f a = g a) : rowC f = rowC g := List.map_congr_left (fun a ha => by rw [h a (by simpa using ha)])
theorem rowC_set (f : Nat → Bool) (b : Nat) (v : Bool) : (rowC f).toArray.setIfInBounds b (.bool v) = (rowC (fun a => if a = b then v else f a)).toArray := by
  apply Array.ext
  · simp [rowC]
  · intro i h1 h2
    have hi : i < 16 := by simpa [rowC] using h1
    rw [Array.getElem_setIfInBounds (by simpa [rowC] using hi)]
    by_cases e : b = i
    · subst e
      simp [rowC]
    · have e2 : ¬ i = b := fun h => e h.symm
      simp [rowC, e, e2]
def setV (f : Nat → Bool) : Value := .agg (rowC f).toArray
theorem info_set : (Try.prog.info? 81).map (·.size) = some 16 := by kernel_rfl
theorem zero_set : (#[Value.bool false, .bool false, .bool false, .bool false, .bool false, .bool false, .bool false, .bool false, .bool false, .bool false, .bool false, .bool false, .bool false, .bool false, .bool false, .bool false] : Array Value) = (rowC (fun _ => false)).toArray := rfl
/-- A set is given. -/
def GivesSet (w : World) (f : Nat → Bool) (e : Ending) (w' : World) : Prop := e = .returned (setV f) ∧ Below w.heap.size w w'

set_option maxHeartbeats 1000000 in
theorem with_any (f : Nat → Bool) (bn : Nat) (hb : bn < 16) (w : World) :
    Calls Try.prog 90 #[setV f, .int .i64 bn] w fun e w' => GivesSet w (fun a => f a || decide (a = bn)) e w' := by
  obtain ⟨c, hc⟩ : ∃ c, (rowC f).toArray = c := ⟨_, rfl⟩
  have hcs : c.size = 16 := by rw [← hc]; simp [rowC_len]
  obtain ⟨c', hc'⟩ : ∃ c', (rowC (fun a => f a || decide (a = bn))).toArray = c' := ⟨_, rfl⟩
  have hcs' : c'.size = 16 := by rw [← hc']; simp [rowC_len]
  have hset : c.setIfInBounds bn (.bool true) = c' := by
    rw [← hc, ← hc', rowC_set, rowC_congr]
    intro a _
    by_cases e : a = bn <;> simp [e]
  have H1 : Hid (c'.all (·.oneCell') = true) := by
    show c'.all (·.oneCell') = true
    rw [← hc']; exact all_oneCell_toArray (rowC_one _)
  have HR : Hid ((rowC (fun a => f a || decide (a = bn))).toArray = c') := hc'
  unfold setV
  rw [hc]
  clear hc hc'
  go_enter Try.func90, Try.ntmps90
  go_wp2_with (first
    | refine wpList_load_row rfl 81 _ rfl w.heap.size rfl c' 81 (0, 0) _ ((Below.heap_alloc _ _ _ (by simp)).trans (World.alloc_heap_new _ _)) Try.underlying81 rfl (by rw [hcs']; exact info_set) ?_
    | refine wpList_store_row rfl 81 _ _ rfl (w.heap.size + 1) _ c' _ rfl rfl (heap_last (by simp)) (by rw [hcs']; exact info_set) (by rw [hcs']; rfl) H1.out ?_)
  refine bodyPost_ret (v := .agg c') (row_results rfl rfl (setRow_heap _ _ _ _ _ _ (heap_last (by simp))) Try.underlying81 rfl (by rw [hcs']; exact info_set)) rfl ?_
  refine ⟨by rw [setV, HR.out], below_setRow ?_ (by omega) _⟩
  repeat (first | exact Below.refl _ _ | apply Below.drew | refine Below.alloc ?_ (by simp <;> omega) _ | refine Below.setCell ?_ (by simp <;> omega) _)

/-- The first k of both. -/
def bothUp (f g : Nat → Bool) (k : Nat) : Nat → Bool := fun a => if a < k then f a && g a else f a
set_option maxHeartbeats 2000000 in
theorem both_any (f g : Nat → Bool) (w : World) :
    Calls Try.prog 91 #[setV f, setV g] w fun e w' => GivesSet w (fun a => f a && g a) e w' := by
  have e0 : f = bothUp f g 0 := by funext a; simp [bothUp]
  have HE0 : Hid (f = bothUp f g 0) := e0
  clear e0
  obtain ⟨d, hd⟩ : ∃ d, (rowC g).toArray = d := ⟨_, rfl⟩
  have hds : d.size = 16 := by rw [← hd]; simp [rowC_len]
  have HD : Hid ((rowC g).toArray = d) := hd
  obtain ⟨c, hc⟩ : ∃ c, (rowC f).toArray = c := ⟨_, rfl⟩
  have hcs : c.size = 16 := by rw [← hc]; simp [rowC_len]
  have HC : Hid ((rowC f).toArray = c) := hc
  unfold setV
  rw [hc, hd]
  clear hc hd
  go_enter Try.func91, Try.ntmps91
  go_wp2_with fail
  go_loopw [6] (fun i wr => ∃ k : Nat, k ≤ 16 ∧ i = .int .i64 k ∧ wr = ((w.alloc (.cells (rowC (bothUp f g k)).toArray 81)).alloc (.cells d 81)).alloc (.cells (rowC (fun _ => false)).toArray 81)) (fun i _ => (16 - intOf i).toNat)
  case atStart => exact ⟨0, Nat.zero_le _, rfl, by rw [← HE0.out, HC.out]; rfl⟩
  case round =>
    obtain ⟨k, hk, rfl, hwr⟩ := hrel
    obtain ⟨ck, hck⟩ : ∃ ck, (rowC (bothUp f g k)).toArray = ck := ⟨_, rfl⟩
    have HCK : Hid ((rowC (bothUp f g k)).toArray = ck) := hck
    obtain ⟨z, hz⟩ : ∃ z, (rowC (fun _ => false)).toArray = z := ⟨_, rfl⟩
    have HZ : Hid ((rowC (fun _ => false)).toArray = z) := hz
    have hzs : z.size = 16 := by rw [← hz]; simp [rowC_len]
    have hcks : ck.size = 16 := by rw [← hck]; simp [rowC_len]
    rw [hck, hz] at hwr
    clear hck hz
    subst hwr
    by_cases hlt : (k : Int) < 16
    · have hk16 : k < 16 := by omega
      obtain ⟨x, hx⟩ : ∃ x, f k = x := ⟨_, rfl⟩
      obtain ⟨y, hy⟩ : ∃ y, g k = y := ⟨_, rfl⟩
      have q1 : ∀ h, ck[k]'h = .bool x := fun h => by
        have := rowC_at (bothUp f g k) hk16
        have h2 : ck[k]? = some (.bool x) := by rw [← HCK.out, ← hx]; simpa [bothUp] using this
        rw [Array.getElem?_eq_getElem h] at h2
        simpa using h2
      have q2 : ∀ h, d[k]'h = .bool y := fun h => by
        have := rowC_at g hk16
        have h2 : d[k]? = some (.bool y) := by rw [← HD.out, ← hy]; simpa using this
        rw [Array.getElem?_eq_getElem h] at h2
        simpa using h2
      have HX : Hid (f k = x) := hx
      have HY : Hid (g k = y) := hy
      clear hx hy
      have hend : ∀ v : Bool, v = (x && y) → ck.setIfInBounds k (.bool v) = (rowC (bothUp f g (k + 1))).toArray := fun v hv => by
        rw [← HCK.out, rowC_set, rowC_congr]
        intro a _
        by_cases e : a = k
        · subst e
          simp [bothUp, hv, HX.out, HY.out]
        · by_cases h2 : a < k
          · simp [bothUp, e, h2, show a < k + 1 from by omega]
          · simp [bothUp, e, h2, show ¬ a < k + 1 from by omega]
      have HEND : Hid (∀ v : Bool, v = (x && y) → ck.setIfInBounds k (.bool v) = (rowC (bothUp f g (k + 1))).toArray) := hend
      clear hend
      cases x
      · go_wp2_with fail
        go_roundw
        case rel => exact ⟨k + 1, by omega, by go_num, by rw [HEND.out false rfl, HZ.out]⟩
        case measure => simp [intOf]; omega
      · go_wp2_with fail
        go_roundw
        case rel => exact ⟨k + 1, by omega, by go_num, by rw [HEND.out y rfl, HZ.out]⟩
        case measure => simp [intOf]; omega
    · have hk16 : k = 16 := by omega
      subst hk16
      have H1 : Hid (ck.all (·.oneCell') = true) := by
        show ck.all (·.oneCell') = true
        rw [← HCK.out]; exact all_oneCell_toArray (rowC_one _)
      go_wp2_with (first
        | refine wpList_load_row rfl 81 _ rfl w.heap.size rfl ck 81 (0, 0) _ ((Below.heap_alloc _ _ _ (by simp; omega)).trans ((Below.heap_alloc _ _ _ (by simp)).trans (World.alloc_heap_new _ _))) Try.underlying81 rfl (by rw [hcks]; exact info_set) ?_
        | refine wpList_store_row rfl 81 _ _ rfl (w.heap.size + 1 + 1) _ ck _ rfl rfl (heap_last (by simp)) (by rw [hcks]; exact info_set) (by rw [hcks, hzs]) H1.out ?_)
      refine bodyPost_ret (v := .agg ck) (row_results rfl rfl (setRow_heap _ _ _ _ _ _ (heap_last (by simp))) Try.underlying81 rfl (by rw [hcks]; exact info_set)) rfl ?_
      refine ⟨?_, below_setRow ?_ (by omega) _⟩
      · rw [setV, ← HCK.out, rowC_congr (f := bothUp f g 16) (g := fun a => f a && g a)]
        intro a ha
        simp [bothUp, ha]
      · repeat (first | exact Below.refl _ _ | apply Below.drew | refine Below.alloc ?_ (by simp <;> omega) _ | refine Below.setCell ?_ (by simp <;> omega) _)

end Go.Proofs.Ytlmkipmkanhcfaa
