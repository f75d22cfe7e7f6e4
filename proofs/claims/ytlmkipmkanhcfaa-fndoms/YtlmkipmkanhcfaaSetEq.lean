/- Sets and tables of blocks, each held against another as a whole. -/
import Derived.Test.YtlmkipmkanhcfaaTab
import Derived.ChangeKeysEq
import Derived.Laws.StructEq
namespace Go.Proofs.Ytlmkipmkanhcfaa
open Go.ChangeShapes Go.WideShapes Go.ChangeAt Go.RowKit Go.Shelf
set_option linter.unusedVariables false

theorem run_items {P : Program} (w : World) (d : Nat) (e : TypeId) (c : Nat) (xs ys : Array Value) (X Y : Nat → Value) (E : Nat → Bool) : ∀ is : List Nat,
    (∀ i ∈ is, (part e xs (i * c)).run P w = .ok (X i) w) → (∀ i ∈ is, (part e ys (i * c)).run P w = .ok (Y i) w) → (∀ i ∈ is, (Op.equalIn d e (X i) (Y i)).run P w = .ok (E i) w) →
    (Op.eqItems d e c xs ys is).run P w = .ok (is.all E) w
  | [], _, _, _ => by simp [Op.eqItems]
  | i :: is, hx, hy, hE => by
    have ih := run_items w d e c xs ys X Y E is (fun j hj => hx j (by simp [hj])) (fun j hj => hy j (by simp [hj])) (fun j hj => hE j (by simp [hj]))
    simp only [Op.eqItems, Sem.run_bind, hx i (by simp), hy i (by simp), hE i (by simp), Result.andThen_ok, List.all_cons]
    cases E i
    · simp
    · simpa using ih

/-- Two sets, two tables are one. -/
def sameS (f g : Nat → Bool) : Bool := (List.range 16).all (fun a => f a == g a)
def sameT (T U : Tab) : Bool := (List.range 16).all (fun b => sameS (T b) (U b))
theorem sameS_iff {f g : Nat → Bool} : sameS f g = true ↔ ∀ a, a < 16 → f a = g a := by simp [sameS]
theorem sameT_iff {T U : Tab} : sameT T U = true ↔ TEq T U := by
  unfold sameT TEq
  rw [List.all_eq_true]
  constructor
  · intro h b a hb ha
    exact sameS_iff.1 (h b (List.mem_range.2 hb)) a ha
  · intro h b hb
    exact sameS_iff.2 (fun a ha => h b a (List.mem_range.1 hb) ha)

theorem info_bool1 : (Try.prog.info? 4).map (·.size) = some 1 := by kernel_rfl
theorem info_bool : ∃ i, Try.prog.info? 4 = some i := by
  have := info_bool1
  cases h : Try.prog.info? 4 with
  | some i => exact ⟨i, rfl⟩
  | none => rw [h] at this; cases this

theorem cells_bool : Try.prog.cellsOf 4 = 1 := by kernel_rfl
theorem cells_set : Try.prog.cellsOf 81 = 16 := by kernel_rfl
theorem part_bool (f : Nat → Bool) {i : Nat} (hi : i < 16) (w : World) : (part 4 (rowC f).toArray (i * 1)).run Try.prog w = .ok (.bool (f i)) w := by
  have := rowC_at f hi
  simp [part, Try.isAgg4, this]
theorem tabC_part (T : Tab) {b : Nat} (hb : b < 16) : (tabC T).toArray.extract (b * 16) (b * 16 + 16) = (rowC (T b)).toArray := by
  apply Array.toList_inj.1
  apply List.ext_getElem?
  intro i
  rw [Array.toList_extract, List.extract_eq_take_drop]
  simp only [List.getElem?_take, List.getElem?_drop]
  by_cases h : i < 16
  · rw [if_pos (by omega), tabC_at T (by omega), rowC_at _ h]
    have e1 : (b * 16 + i) / 16 = b := by omega
    have e2 : (b * 16 + i) % 16 = i := by omega
    rw [e1, e2]
  · rw [if_neg (by omega), List.getElem?_eq_none (by rw [rowC_len]; omega)]
theorem part_set (T : Tab) {b : Nat} (hb : b < 16) (w : World) : (part 81 (tabC T).toArray (b * 16)).run Try.prog w = .ok (setV (T b)) w := by
  simp only [part, Sem.run_bind, Try.isAgg81, Result.andThen_ok, if_true, Try.sizeOf81, tabC_part T hb, Sem.run_pure]
  rfl
theorem info_set2 : ∃ i, Try.prog.info? 81 = some i := by
  have := info_set
  cases h : Try.prog.info? 81 with
  | some i => exact ⟨i, rfl⟩
  | none => rw [h] at this; cases this
theorem set_equal (f g : Nat → Bool) (d : Nat) (w : World) : (Op.equalIn (d + 2) 81 (setV f) (setV g)).run Try.prog w = .ok (sameS f g) w := by
  obtain ⟨i, hi⟩ := info_bool
  unfold setV
  rw [run_equalIn_array w (d + 1) _ _ Try.underlying81 hi, cells_bool]
  refine run_items w (d + 1) _ 1 _ _ (fun a => .bool (f a)) (fun a => .bool (g a)) (fun a => f a == g a) (List.range 16) (fun a ha => part_bool f (List.mem_range.1 ha) w) (fun a ha => part_bool g (List.mem_range.1 ha) w) (fun a _ => ?_)
  exact run_equalIn_bool' w d 4 (f a) (g a) Try.underlying4
theorem tab_equal (T U : Tab) (d : Nat) (w : World) : (Op.equalIn (d + 3) 83 (tabV T) (tabV U)).run Try.prog w = .ok (sameT T U) w := by
  obtain ⟨i, hi⟩ := info_set2
  unfold tabV
  rw [run_equalIn_array w (d + 2) _ _ Try.underlying83 hi, cells_set]
  exact run_items w (d + 2) _ 16 _ _ (fun b => setV (T b)) (fun b => setV (U b)) (fun b => sameS (T b) (U b)) (List.range 16) (fun b hb => part_set T (List.mem_range.1 hb) w) (fun b hb => part_set U (List.mem_range.1 hb) w) (fun b _ => set_equal (T b) (U b) d w)
end Go.Proofs.Ytlmkipmkanhcfaa
