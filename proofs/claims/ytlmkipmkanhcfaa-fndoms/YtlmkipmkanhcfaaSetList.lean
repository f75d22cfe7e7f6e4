/- A set of blocks as a list of numbers. -/
import Derived.Test.YtlmkipmkanhcfaaSets
import Derived.Test.YtlmkipmkanhcfaaPreds
namespace Go.Proofs.Ytlmkipmkanhcfaa
open Go.ChangeShapes Go.WideShapes Go.ChangeAt Go.RowKit Go.Shelf
set_option linter.unusedVariables false

theorem run_index_bool (c : Array Value) (k : Nat) (hk : k < 16) (x : Bool) (h : c[k]? = some (.bool x)) (w : World) : (Instr.index 81 (.agg c) (.int .i64 (k : Int))).run Try.prog w = .ok (.bool x) w := by
  have h2 : (k : Int) < 16 := by omega
  simp [Instr.index, asIntOf, Sem.run_bind, part, Try.isAgg4, Try.sizeOf4, h]
  intro hh
  omega

/-- The numbers of a set, ascending, the first k of them. -/
def listUp (f : Nat → Bool) (k : Nat) : List Int := ((List.range k).filter f).map (fun (p : Nat) => (p : Int))
theorem listUp_zero (f : Nat → Bool) : listUp f 0 = [] := rfl
theorem listUp_yes {f : Nat → Bool} {k : Nat} (h : f k = true) : listUp f (k + 1) = listUp f k ++ [(k : Int)] := by simp [listUp, List.range_succ, h]
theorem listUp_not {f : Nat → Bool} {k : Nat} (h : f k = false) : listUp f (k + 1) = listUp f k := by simp [listUp, List.range_succ, h]
theorem listUp_len (f : Nat → Bool) (k : Nat) : (listUp f k).length ≤ k := by
  unfold listUp
  rw [List.length_map]
  exact Nat.le_trans (List.length_filter_le _ _) (by simp)
set_option maxRecDepth 100000 in
set_option maxHeartbeats 2000000 in
theorem list_any (f : Nat → Bool) (w : World) :
    Calls Try.prog 52 #[setV f] w fun e w' => GivesOwn w (listUp f 16) e w' := by
  obtain ⟨c, hc⟩ : ∃ c, (rowC f).toArray = c := ⟨_, rfl⟩
  have hcs : c.size = 16 := by rw [← hc]; simp [rowC_len]
  have HC : Hid ((rowC f).toArray = c) := hc
  unfold setV
  rw [hc]
  clear hc
  go_enter Try.func52, Try.ntmps52
  go_wp2_with (refine wpList_load_row rfl 81 _ rfl w.heap.size rfl c 81 (0, 0) _ ((Below.heap_alloc _ _ _ (by simp)).trans (World.alloc_heap_new _ _)) Try.underlying81 rfl (by rw [hcs]; exact info_set) ?_)
  have hmx : 100 ≤ maxLen := by decide
  obtain ⟨i0, hi, hz0, hz1, hz2⟩ := info_parts info_int
  go_loopw [3, 8] (fun s i wr => ∃ k : Nat, k ≤ 16 ∧ i = .int .i64 k ∧ OwnInts wr w.heap.size s (listUp f k) ∧ Below w.heap.size w wr) (fun _ i _ => (16 - intOf i).toNat)
  case atStart => exact ⟨0, Nat.zero_le _, rfl, ownInts_nil (by simp) (by omega), by repeat (first | exact Below.refl _ _ | apply Below.drew | refine Below.alloc ?_ (by simp <;> omega) _ | refine Below.setCell ?_ (by simp <;> omega) _)⟩
  case round =>
    obtain ⟨k, hk, rfl, ho, hB⟩ := hrel
    have HO : Hid (OwnInts wr w.heap.size u3 (listUp f k)) := ho
    have HB : Hid (Below w.heap.size w wr) := hB
    have hpl := listUp_len f k
    clear ho hB
    by_cases hlt2 : (k : Int) < 16
    · have hk16 : k < 16 := by omega
      obtain ⟨x, hx⟩ : ∃ x, f k = x := ⟨_, rfl⟩
      have q1 := run_index_bool c k hk16 x (by rw [← HC.out, ← hx]; simpa using rowC_at f hk16)
      have HX : Hid (f k = x) := hx
      clear hx
      cases x
      · go_wp2_with fail
        go_roundw
        case rel => exact ⟨k + 1, by omega, by go_num, by rw [listUp_not HX.out]; exact HO.out, HB.out⟩
        case measure => simp [intOf]; omega
      · go_wp2_with (at_builtin; refine wpList_append_own _ rfl _ _ 29 rfl w.heap.size 3 i0 (.int .i64 0) 1 8 Try.underlying29 hi hz0 hz1 hz2 rfl (by decide) _ _ _ rfl (World.ownsRow.alloc HO.out _) ⟨wr.heap.size, 0, none⟩ 1 1 [.int .i64 (k : Int)] rfl rfl (cell_one_new _ _ _) (by simp [Value.oneCell']) (by omega) (by omega) (by have := HB.out.size; simp; omega) ?_; intro v' wa hown' hgrow _; have HO' : Hid (OwnInts wa w.heap.size v' (listUp f k ++ [(k : Int)])) := OwnInts.next hown'; have HG : Hid (World.grownBy _ _ _) := hgrow; clear hown' hgrow)
        go_roundw
        case rel => exact ⟨k + 1, by omega, by go_num, by rw [listUp_yes HX.out]; exact HO'.out, HB.out.trans (HO.out.grown HB.out.size HG.out)⟩
        case measure => simp [intOf]; omega
    · have hkn : k = 16 := by omega
      subst hkn
      go_wp2_with fail
      go_ret
      exact ⟨_, rfl, HO.out, HB.out⟩
end Go.Proofs.Ytlmkipmkanhcfaa
