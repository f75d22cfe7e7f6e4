/- A list of numbers that came in is copied: the laws' toIntS; a program that was marked, with a bound. -/
import Derived.Test.YtebcocehdjoafaaDoorSpecNew
import Derived.Test.YtebcocehdjoafaaDoorDraw
import Derived.Test.YtebcocehdjoafaaDoorMark2
import Derived.Test.YtebcocehdjoafaaDoorOwnMore
namespace Go.Proofs.YtebcocehdjoafaaDoor
open Go.ChangeShapes Go.WideShapes Go.ChangeAt Go.RowKit Go.Shelf
set_option linter.unusedVariables false

theorem OwnInts.reads {w : World} {lo : Nat} {v : Value} {l : List Int} (h : OwnInts w lo v l) : ReadsAt w v l := by
  have hmm : maxLen ≤ 9223372036854775807 := by decide
  obtain ⟨h0, h1⟩ := id h
  rcases h1 with ⟨rfl, hz⟩ | ⟨g, cap, cur, rfl, hlo, hg, hc1, hc2, hc3, hc4⟩
  · refine ⟨none, 0, by rw [hz], by omega, by omega, fun hp => absurd hp (by omega)⟩
  · refine ⟨some ⟨g, 0, none⟩, cap, rfl, hc1, by omega, fun hp => ⟨g, 0, rfl, fun i hi => ?_⟩⟩
    rw [Nat.zero_add]
    exact OwnInts.cellAt h hi
/-- The first k of l, then noughts. -/
def partL (l : List Int) (k : Nat) : Nat → Int := fun i => if i < k then l.getD i 0 else 0
theorem partL_next (l : List Int) (k : Nat) : updN (partL l k) k (l.getD k 0) = partL l (k + 1) := by
  funext i
  unfold updN partL
  by_cases h : i = k
  · subst h
    simp
  · by_cases h2 : i < k
    · have : i < k + 1 := by omega
      simp [h, h2, this]
    · have : ¬ i < k + 1 := by omega
      simp [h, h2, this]
theorem partL_all (l : List Int) : listN l.length (partL l l.length) = l := by
  apply List.ext_getElem?
  intro i
  by_cases hi : i < l.length
  · simp [listN, partL, hi, List.getD]
  · rw [List.getElem?_eq_none (by simp [listN]; omega), List.getElem?_eq_none (by omega)]
theorem getD_take {l : List Int} {n i : Nat} (h : i < n) : (l.take n).getD i 0 = l.getD i 0 := by
  rw [List.getD_eq_getElem?_getD, List.getD_eq_getElem?_getD, List.getElem?_take]
  simp [h]

set_option maxHeartbeats 2000000 in
theorem toIntS_any (a : Option Addr) (len cap : Nat) (zs : List Int) (w : World) (h : IsRow .i64 w a len cap zs) (hl : len ≤ 1048576) :
    Calls Tryd.prog 19 #[.slice a len cap] w fun e w' => GivesOwn w (zs.take len) e w' := by
  obtain ⟨L, HL⟩ : ∃ L, Hid (zs.take len = L) := ⟨_, rfl⟩
  have HLN : Hid (L.length = len) := by
    show L.length = len
    rw [← HL.out, List.length_take]
    rcases h with ⟨_, h1, _, h2⟩ | ⟨_, _, h1, _, h2, _⟩
    · rw [h2, h1]; rfl
    · omega
  have HC : Hid (0 < len → ∃ x, a = some x ∧ x.block < w.heap.size ∧ ∀ i, i < len → w.cell? (x.add i) = some (.int .i64 (L.getD i 0))) := fun h0 => by
    rcases h with ⟨_, h1, _⟩ | ⟨x, h1, h2, h3, h4, h5, _⟩
    · omega
    · have h6 : ∀ i, i < len → w.cell? (x.add i) = some (.int .i64 (L.getD i 0)) := fun i hi => by
        rw [← HL.out, getD_take hi]
        exact h5 i (by omega)
      refine ⟨x, h1, ?_, h6⟩
      have := World.block_lt_of_cell? w _ (h6 0 h0)
      rw [add_block] at this
      exact this
  rw [HL.out]
  clear h
  go_enter Tryd.func19, Tryd.ntmps19
  have mk := make_ints len hl w
  go_wp2_with fail
  have O1 : Hid (OwnInts (w.alloc (.cells (madeCells #[.int .i64 0] len) 3)) w.heap.size (.slice (some ⟨w.heap.size, 0, none⟩) len len) (listN len (partL L 0))) := own_made len hl (Nat.le_refl _)
  have B1 : Hid (Below w.heap.size w (w.alloc (.cells (madeCells #[.int .i64 0] len) 3))) := Bel.alloc _ _
  clear mk
  generalize w.alloc (.cells (madeCells #[.int .i64 0] len) 3) = w1 at O1 B1 ⊢
  obtain ⟨G, HG⟩ : ∃ G, Hid (w.heap.size = G) := ⟨_, rfl⟩
  rw [HG.out] at O1 ⊢
  go_loopw [4] (fun i wr => ∃ k : Nat, k ≤ len ∧ i = .int .i64 (k : Int) ∧ OwnInts wr G (.slice (some ⟨G, 0, none⟩) len len) (listN len (partL L k)) ∧ Below w.heap.size w wr) (fun i _ => len - (intOf i).toNat)
  case atStart => exact ⟨0, Nat.zero_le _, rfl, O1.out, B1.out⟩
  case round =>
    obtain ⟨k, hk, rfl, ho, hb⟩ := hrel
    have HO : Hid (OwnInts wr G (.slice (some ⟨G, 0, none⟩) len len) (listN len (partL L k))) := ho
    have HB : Hid (Below w.heap.size w wr) := hb
    by_cases hlt : (k : Int) < (len : Int)
    · have hkl : k < len := by omega
      obtain ⟨x, rfl, hxb, hx⟩ := HC.out (by omega)
      have c1 := Bel.keeps hb (hx k hkl)
      have c2 := ho.cellAt hkl
      have fz := frozen_of_cells ho.heapOf k
      clear ho hb hx
      go_wp2_with fail
      go_roundw
      case rel =>
        refine ⟨k + 1, by omega, by go_num, ?_, HB.out.setCell (p := ⟨G, k, none⟩) (by show w.heap.size ≤ G; rw [HG.out]; exact Nat.le_refl _) _⟩
        have h9 := HO.out.setAt hkl (L.getD k 0)
        rw [listN_set, partL_next] at h9
        exact h9
      case measure => simp [intOf]; omega
    · have hkl : k = len := by omega
      subst hkl
      clear ho hb
      go_wp2_with fail
      go_ret
      refine ⟨_, rfl, ?_, HB.out⟩
      have h9 := HO.out
      have h8 := partL_all L
      rw [HLN.out] at h8
      rw [h8] at h9
      rw [HG.out]
      exact h9

theorem IsRow.after {k : IntKind} {w w' : World} {a : Option Addr} {len cap : Nat} {zs : List Int} (h : IsRow k w a len cap zs) (hb : Below w.heap.size w w') : IsRow k w' a len cap zs := by
  rcases h with h | ⟨x, h1, h2, h3, h4, h5, h6⟩
  · exact .inl h
  · exact .inr ⟨x, h1, h2, h3, h4, fun i hi => Bel.keeps hb (h5 i hi), h6⟩

set_option maxHeartbeats 1000000 in
theorem markIntS_apart (lo : Nat) (v : Value) (l : List Int) (q : Int) (w : World) (hr : OwnInts w lo v l) (hlo : lo ≤ w.heap.size) (hq : 0 ≤ q) (hq2 : q + l.length ≤ 9223372036854775807) :
    Calls Tryd.prog 23 #[v, .int .i64 q] w fun e w' => e = .returned (.int .i64 (q + l.length)) ∧ Below lo w w' ∧ IntsAt w' v (marks q l.length) ∧ ∀ b, v.ownBlock ≠ some b → w'.heap[b]? = w.heap[b]? := by
  have hs := hr.small
  have hmx : l.length ≤ 9223372036854775807 := by
    have : maxLen ≤ 9223372036854775807 := by decide
    omega
  obtain ⟨a, cap, rfl, hc⟩ := hr.row
  obtain ⟨n, HN⟩ : ∃ n, Hid (l.length = n) := ⟨_, rfl⟩
  rw [HN.out] at hmx hq2 hc ⊢
  have HC : Hid (0 < n → ∃ g, a = some ⟨g, 0, none⟩ ∧ lo ≤ g ∧ g < w.heap.size ∧ (∀ i, i < n → w.cell? ⟨g, i, none⟩ = some (.int .i64 (l.getD i 0))) ∧ ∀ i, w.frozen? ⟨g, i, none⟩ = false) := hc
  clear hc hr hs
  go_enter Tryd.func23, Tryd.ntmps23
  go_wp2
  go_loopw [1, 5] (fun kv i wr => ∃ k : Nat, k ≤ n ∧ i = .int .i64 k ∧ kv = .int .i64 (q + k) ∧ Below lo w wr ∧ (∀ b, (Value.slice a n cap).ownBlock ≠ some b → wr.heap[b]? = w.heap[b]?) ∧ ∀ g, a = some ⟨g, 0, none⟩ → ((∀ j, j < k → wr.cell? ⟨g, j, none⟩ = some (.int .i64 (q + j))) ∧ (∀ j, k ≤ j → j < n → ∃ x, wr.cell? ⟨g, j, none⟩ = some (.int .i64 x)) ∧ (∀ j, j < n → wr.frozen? ⟨g, j, none⟩ = false))) (fun _ i _ => n - (intOf i).toNat)
  case atStart =>
    refine ⟨0, Nat.zero_le _, rfl, by go_num, Below.refl _ _, fun _ _ => rfl, fun g hg => ⟨fun j hj => absurd hj (by omega), fun j _ hj => ?_, fun j hj => ?_⟩⟩
    · obtain ⟨g', e, _, _, h1, _⟩ := HC.out (by omega)
      rw [hg] at e
      cases e
      exact ⟨_, h1 j hj⟩
    · obtain ⟨g', e, _, _, _, h2⟩ := HC.out (by omega)
      rw [hg] at e
      cases e
      exact h2 j
  case round =>
    obtain ⟨k, hk, rfl, rfl, hfr, hfo, hdone⟩ := hrel
    have H1 : Hid (Below lo w wr) := hfr
    have H0 : Hid (∀ b, (Value.slice a n cap).ownBlock ≠ some b → wr.heap[b]? = w.heap[b]?) := hfo
    have H2 : Hid (∀ g, a = some ⟨g, 0, none⟩ → ((∀ j, j < k → wr.cell? ⟨g, j, none⟩ = some (.int .i64 (q + j))) ∧ (∀ j, k ≤ j → j < n → ∃ x, wr.cell? ⟨g, j, none⟩ = some (.int .i64 x)) ∧ (∀ j, j < n → wr.frozen? ⟨g, j, none⟩ = false))) := hdone
    clear hfr hfo hdone
    by_cases hlt2 : (k : Int) < (n : Int)
    · obtain ⟨g, rfl, hg, _⟩ := HC.out (by omega)
      obtain ⟨K1, K2, K3⟩ := H2.out g rfl
      obtain ⟨x, q1⟩ := K2 k (Nat.le_refl _) (by omega)
      have q2 := K3 k (by omega)
      have K1' : Hid (∀ j, j < k → wr.cell? ⟨g, j, none⟩ = some (.int .i64 (q + j))) := K1
      have K2' : Hid (∀ j, k ≤ j → j < n → ∃ x, wr.cell? ⟨g, j, none⟩ = some (.int .i64 x)) := K2
      have K3' : Hid (∀ j, j < n → wr.frozen? ⟨g, j, none⟩ = false) := K3
      clear K1 K2 K3
      go_wp2
      go_roundw
      case rel =>
        refine ⟨k + 1, by omega, by go_num, by go_num, H1.out.setCell (p := ⟨g, k, none⟩) hg _, fun b hb => ?_, fun g' e => ?_⟩
        · rw [Below.heap_setCell _ _ _ b (by show b ≠ g; intro e; exact hb (by rw [e]; rfl))]
          exact H0.out b hb
        · cases e
          refine ⟨fun j hj => ?_, fun j hj hj2 => ?_, fun j hj => ?_⟩
          · by_cases hjk : j = k
            · subst hjk
              exact World.cell?_setCell_same _ _ _ q1
            · rw [World.cell?_setCell_other _ _ _ _ (by simp <;> omega)]
              exact K1'.out j (by omega)
          · rw [World.cell?_setCell_other _ _ _ _ (by simp <;> omega)]
            exact K2'.out j (by omega) hj2
          · simpa using K3'.out j hj
      case measure => simp [intOf]; omega
    · have hkn : k = n := by omega
      subst hkn
      go_wp2
      go_ret
      refine ⟨rfl, H1.out, ⟨a, cap, by rw [marks_len], by rw [marks_len]; exact hmx, fun hp => ?_⟩, H0.out⟩
      rw [marks_len] at hp
      obtain ⟨g, rfl, _⟩ := HC.out hp
      refine ⟨g, 0, rfl, fun i hi => ?_⟩
      rw [marks_len] at hi
      rw [marks_at _ _ _ hi]
      simpa using (H2.out g rfl).1 i hi

/-- What lies elsewhere, behind marks in a list of numbers. -/
theorem OwnInts.apartM {w w' : World} {lo : Nat} {v u : Value} {l : List Int} (h : OwnInts w lo u l) (hb : ∀ b, v.ownBlock ≠ some b → w'.heap[b]? = w.heap[b]?) (hne : ∀ b, v.ownBlock = some b → u.ownBlock = some b → False) : OwnInts w' lo u l := by
  obtain ⟨h0, h1⟩ := h
  refine ⟨h0, ?_⟩
  rcases h1 with h1 | ⟨g, cap, cur, rfl, hlo, hg, h2⟩
  · exact .inl h1
  · exact .inr ⟨g, cap, cur, rfl, hlo, (hb g (fun e => hne g e rfl)).trans hg, h2⟩

end Go.Proofs.YtebcocehdjoafaaDoor
