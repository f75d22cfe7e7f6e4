/- Which values are needed ahead of each place of a block, as ascending lists, by those that are needed at its end. -/
import Derived.Test.YtjfogpbhacadbaaLSetAK
import Derived.Test.YtjfogpbhacadbaaKGraph
namespace Go.Proofs.Ytjfogpbhacadbaa
set_option linter.unusedVariables false

def norm80 (m : List Int) : List Int := ((List.range 80).map (fun (j : Nat) => (j : Int))).filter (fun x => decide (x ∈ m))
theorem norm_mem (m : List Int) (x : Int) : x ∈ norm80 m ↔ x ∈ m ∧ 0 ≤ x ∧ x < 80 := by
  unfold norm80
  rw [List.mem_filter]
  simp only [List.mem_map, List.mem_range, decide_eq_true_eq]
  constructor
  · rintro ⟨⟨j, hj, rfl⟩, h⟩
    exact ⟨h, by omega, by omega⟩
  · rintro ⟨h, h0, h1⟩
    exact ⟨⟨x.toNat, by omega, by omega⟩, h⟩
theorem norm_asc (m : List Int) : Asc (norm80 m) := by
  unfold norm80 Asc
  refine List.Pairwise.filter _ ?_
  rw [List.pairwise_map]
  exact List.pairwise_lt_range.imp (fun h => by omega)
theorem norm_in (m : List Int) : In80 (norm80 m) := fun x hx => ((norm_mem m x).1 hx).2
theorem norm_eq {l m : List Int} (ha : Asc l) (hi : In80 l) (h : ∀ x, x ∈ l ↔ x ∈ m) : l = norm80 m := asc_ext ha (norm_asc m) (fun x => by rw [norm_mem, ← h x]; exact ⟨fun h => ⟨h, hi x h⟩, fun h => h.1⟩)
theorem norm_len (m : List Int) : (norm80 m).length ≤ 80 := asc_small (norm_asc m) (norm_in m)

def endS (t : TermD) (o : List Int) : List Int := norm80 (o ++ endsV t.k t.a)
def backS (y : InsD) (l : List Int) : List Int := norm80 (l.filter (fun x => decide (x ≠ insDefV y.op y.d)) ++ usesV y.op y.a y.b)
/-- What is needed ahead of place j (as many as there are: ahead of the end). -/
def atS (x : BlockD) (o : List Int) (j : Nat) : List Int := (x.list.drop j).foldr backS (endS x.term o)
theorem atS_end (x : BlockD) (o : List Int) : atS x o x.list.length = endS x.term o := by simp [atS]
theorem atS_step {x : BlockD} {o : List Int} {j : Nat} {y : InsD} (h : x.list[j]? = some y) : atS x o j = backS y (atS x o (j + 1)) := by
  obtain ⟨hj, e⟩ := List.getElem?_eq_some_iff.1 h
  unfold atS
  rw [List.drop_eq_getElem_cons hj, e]
  rfl
theorem atS_ok (x : BlockD) (o : List Int) (j : Nat) : Asc (atS x o j) ∧ In80 (atS x o j) := by
  by_cases hj : j < x.list.length
  · rw [atS_step (List.getElem?_eq_getElem hj)]
    exact ⟨norm_asc _, norm_in _⟩
  · unfold atS
    rw [List.drop_of_length_le (by omega)]
    exact ⟨norm_asc _, norm_in _⟩
theorem atS_len (x : BlockD) (o : List Int) (j : Nat) : (atS x o j).length ≤ 80 := asc_small (atS_ok x o j).1 (atS_ok x o j).2
/-- What a block takes is below 80. -/
structure Takes80 (x : BlockD) : Prop where
  uses : ∀ y ∈ x.list, In80 (usesV y.op y.a y.b)
  ends : In80 (endsV x.term.k x.term.a)
/-- The numbers of the places, from the end on, and how many are needed there. -/
def lensDown (x : BlockD) (o : List Int) (k : Nat) : List (Int × Nat) := (List.range k).map (fun i => (((x.list.length - i : Nat) : Int), (atS x o (x.list.length - i)).length))
theorem lensDown_next (x : BlockD) (o : List Int) (k : Nat) : lensDown x o (k + 1) = lensDown x o k ++ [(((x.list.length - k : Nat) : Int), (atS x o (x.list.length - k)).length)] := by simp [lensDown, List.range_succ]
end Go.Proofs.Ytjfogpbhacadbaa
