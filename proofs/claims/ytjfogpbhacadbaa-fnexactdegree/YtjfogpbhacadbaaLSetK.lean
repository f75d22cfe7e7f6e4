/- Sets as ascending lists of the call's own, in memory: the library's search, insertion and deletion over them. -/
import Derived.Test.YtjfogpbhacadbaaLSetAK
import Derived.Test.YtjfogpbhacadbaaSetLay
import Derived.Deep.Upon
import Derived.Deep.MidRow
namespace Go.Proofs.Ytjfogpbhacadbaa
open Go.ChangeShapes Go.WideShapes Go.ChangeAt Go.RowKit
set_option linter.unusedVariables false

/-- A list of the call's own, by its cells. -/
theorem ownInts_cells {w : World} {lo g n cap : Nat} {l : List Int} {cur : Array Value} (hl : l.length = n) (hg : lo ≤ g) (hb : w.heap[g]? = some (.cells cur 3 (0, 0))) (hc : cur.size = cap) (hn : n ≤ cap) (hm : cap ≤ maxLen)
    (hx : ∀ j, j < n → w.cell? ⟨g, j, none⟩ = some (.int .i64 (l.getD j 0))) : OwnInts w lo (.slice (some ⟨g, 0, none⟩) n cap) l := by
  subst hl
  refine ⟨by simp, .inr ⟨g, cap, cur, rfl, hg, hb, hn, hm, by omega, ?_⟩⟩
  apply List.ext_getElem?
  intro j
  rw [Nat.mul_one, List.getElem?_take, List.getElem?_map]
  by_cases hj : j < l.length
  · have h := hx j hj
    have hjc : j < cur.size := by omega
    simp [World.cell?, hb, hjc] at h
    simp [hj, hjc, h]
  · have : l[j]? = none := List.getElem?_eq_none (by omega)
    rw [if_neg hj, this]
    rfl
theorem OwnInts.cells {w : World} {lo g n cap : Nat} {l : List Int} (h : OwnInts w lo (.slice (some ⟨g, 0, none⟩) n cap) l) : l.length = n ∧ lo ≤ g ∧ n ≤ cap ∧ cap ≤ maxLen ∧ (∃ cur, w.heap[g]? = some (.cells cur 3 (0, 0)) ∧ cur.size = cap) ∧ ∀ j, j < n → w.cell? ⟨g, j, none⟩ = some (.int .i64 (l.getD j 0)) := by
  rcases h with ⟨_, ⟨h0, _⟩ | ⟨g', cap', cur, hv, hlo, hg, h1, h2, h3, h4⟩⟩
  · cases h0
  · simp at hv
    obtain ⟨rfl, rfl, rfl⟩ := hv
    refine ⟨rfl, hlo, h1, h2, ⟨cur, hg, by omega⟩, fun j hj => ?_⟩
    have e := congrArg (fun m => m[j]?) h4

    rw [Nat.mul_one, List.getElem?_take, if_pos hj, List.getElem?_map] at e
    have hjc : j < cur.size := by omega
    simp [hjc, hj] at e
    simp [World.cell?, hg, hjc, e, hj]
theorem OwnInts.shape {w : World} {lo : Nat} {v : Value} {l : List Int} (h : OwnInts w lo v l) : (v = .slice none 0 0 ∧ l = []) ∨ ∃ g cap, v = .slice (some ⟨g, 0, none⟩) l.length cap := by
  rcases h with ⟨_, ⟨h0, h1⟩ | ⟨g', cap', cur, hv, _⟩⟩
  · exact .inl ⟨h0, List.length_eq_zero_iff.1 h1⟩
  · exact .inr ⟨g', cap', hv⟩

theorem setCells_row (g : Nat) : ∀ (vs : List Value) (o : Nat) (w : World) (cur : Array Value) (e : TypeId) (z : Nat × Nat), w.heap[g]? = some (.cells cur e z) → ∃ cur', (w.setCells g o vs).heap[g]? = some (.cells cur' e z) ∧ cur'.size = cur.size
  | [], o, w, cur, e, z, h => ⟨cur, h, rfl⟩
  | v :: vs, o, w, cur, e, z, h => by
    obtain ⟨hlt, hk⟩ := Array.getElem?_eq_some_iff.1 h
    have h1 : (w.setCell ⟨g, o, none⟩ v).heap[g]? = some (.cells (cur.setIfInBounds o v) e z) := by
      show (w.heap.modify g _)[g]? = _
      rw [Array.getElem?_eq_getElem (by rw [Array.size_modify]; exact hlt), Array.getElem_modify_self, hk]
      rfl
    obtain ⟨cur', h2, h3⟩ := setCells_row g vs (o + 1) (w.setCell ⟨g, o, none⟩ v) _ e z h1
    exact ⟨cur', h2, by rw [h3]; simp⟩
theorem grown_setCells {w : World} {g o : Nat} {vs : List Value} : w.grownBy (w.setCells g o vs) (some g) := by
  refine ⟨World.os_setCells _ _ _ _, ?_, World.output_setCells _ _ _ _, ?_, fun k hk hne => World.heap_setCells_other w g o vs hk (fun e => hne (by rw [e]))⟩
  · induction vs generalizing o w with
    | nil => rfl
    | cons v vs ih => exact (ih (w := w.setCell ⟨g, o, none⟩ v) (o := o + 1)).trans rfl
  · induction vs generalizing o w with
    | nil => exact Nat.le_refl _
    | cons v vs ih =>
      have := ih (w := w.setCell ⟨g, o, none⟩ v) (o := o + 1)
      have e : (w.setCell ⟨g, o, none⟩ v).heap.size = w.heap.size := by show (w.heap.modify _ _).size = _; simp
      rw [e] at this
      exact this
theorem grownBy_trans {a b c : World} {r : Option Nat} (h : a.grownBy b r) (k : b.grownBy c r) : a.grownBy c r :=
  ⟨k.os.trans h.os, k.tape.trans h.tape, k.output.trans h.output, Nat.le_trans h.size k.size, fun i hi hne => (k.block i (Nat.lt_of_lt_of_le hi h.size) hne).trans (h.block i hi hne)⟩
theorem grownBy_drewN (w : World) (q : Nat) (r : Option Nat) : w.grownBy (w.drewN q) r := ⟨rfl, rfl, rfl, Nat.le_refl _, fun _ _ _ => rfl⟩
theorem grownBy_drew (w : World) (r : Option Nat) : w.grownBy w.drew r := ⟨rfl, rfl, rfl, Nat.le_refl _, fun _ _ _ => rfl⟩

/-- The search in a set. -/
theorem search_any (lo : Nat) (sv : Value) (l : List Int) (x : Int) (w : World) (h : OwnInts w lo sv l) (ha : Asc l) (hs : l.length ≤ 80) :
    Calls Try.prog 67 #[sv, .int .i64 x] w fun e w' => e = .returned (.tuple #[.int .i64 (cutOf l x : Nat), .bool (l.contains x)]) ∧ ∃ q, w' = w.drewN q := by
  rcases h.shape with ⟨rfl, rfl⟩ | ⟨g, cap, rfl⟩
  · refine (Any.slices_BinarySearch_int_empty Try.lays25 none 0 x w).mono ?_
    rintro e w' ⟨rfl, rfl⟩
    exact ⟨by simp [cutOf], 0, rfl⟩
  · obtain ⟨_, _, hn, hm, _, hx⟩ := h.cells
    have := Any.slices_BinarySearch_int Try.lays25 g 0 l.length cap l x w (Nat.le_refl _) (by omega) (fun j hj => by rw [Nat.zero_add]; exact hx j hj) (by rw [List.take_length]; exact asc_le ha)
    rw [List.take_length] at this
    exact this

def GivesPut (w : World) (lo : Nat) (sv : Value) (l : List Int) (e : Ending) (w' : World) : Prop := ∃ sv', e = .returned sv' ∧ OwnInts w' lo sv' l ∧ w.grownBy w' sv.ownBlock ∧ (sv'.ownBlock = sv.ownBlock ∨ sv'.ownBlock = some w.heap.size)

theorem getD_put (l : List Int) (k : Nat) (v : Int) (hk : k ≤ l.length) (j : Nat) : (l.take k ++ v :: l.drop k).getD j 0 = if j < k then l.getD j 0 else if j = k then v else l.getD (j - 1) 0 := by
  have hl : (l.take k).length = k := by simp; omega
  simp only [List.getD_eq_getElem?_getD]
  by_cases h : j < k
  · rw [if_pos h, List.getElem?_append_left (by omega), List.getElem?_take, if_pos h]
  · rw [if_neg h, List.getElem?_append_right (by omega), hl]
    by_cases e : j = k
    · subst e
      simp
    · rw [if_neg e]
      obtain ⟨d, rfl⟩ : ∃ d, j = k + 1 + d := ⟨j - k - 1, by omega⟩
      rw [show k + 1 + d - k = d + 1 by omega, List.getElem?_cons_succ, List.getElem?_drop, show k + d = k + 1 + d - 1 by omega]
theorem getD_cut (l : List Int) (k : Nat) (hk : k < l.length) (j : Nat) : (l.take k ++ l.drop (k + 1)).getD j 0 = if j < k then l.getD j 0 else l.getD (j + 1) 0 := by
  have hl : (l.take k).length = k := by simp; omega
  simp only [List.getD_eq_getElem?_getD]
  by_cases h : j < k
  · rw [if_pos h, List.getElem?_append_left (by omega), List.getElem?_take, if_pos h]
  · rw [if_neg h, List.getElem?_append_right (by omega), hl, List.getElem?_drop, show k + 1 + (j - k) = j + 1 by omega]

theorem zeroCells_int_size (n : Nat) : (Builtin.zeroCells (Value.int .i64 0).cells n).size = n := by rw [size_zeroCells]; simp [Value.cells]

/-- The insertion of one number into a list of the call's own. -/
theorem insert_any (lo : Nat) (sv : Value) (l : List Int) (k : Nat) (x : Int) (vb : Nat) (w : World) (h : OwnInts w lo sv l) (hk : k ≤ l.length) (hs : l.length ≤ 80) (hlo : lo ≤ w.heap.size)
    (hb : w.heap[vb]? = some (.cells #[Value.int .i64 x] 3 (0, 0))) (hne : sv.ownBlock ≠ some vb) :
    Calls Try.prog 68 #[sv, .int .i64 k, .slice (some ⟨vb, 0, none⟩) 1 1] w fun e w' => GivesPut w lo sv (l.take k ++ x :: l.drop k) e w' := by
  have hvs : ∀ (j : Nat) v, [Value.int .i64 x][j]? = some v → w.cell? ⟨vb, 0 + j, none⟩ = some v := fun j v hv => by
    match j with
    | 0 => simp at hv; subst hv; simp [World.cell?, hb]
    | j + 1 => simp at hv
  have h1v : ∀ v ∈ [Value.int .i64 x], v.oneCell' = true := fun v hv => by simp at hv; subst hv; rfl
  have hlen : (l.take k ++ x :: l.drop k).length = l.length + 1 := by simp; omega
  have grow0 : ∀ (base : Option Addr) (c : Nat), sv = .slice base l.length c → k = l.length → l.length ≤ c → c < l.length + 1 → (base = none → l.length = 0) → (∀ a, base = some a → ∀ (j : Nat) v, (l.map (Value.int .i64))[j]? = some v → w.cell? (a.add j) = some v) →
      Calls Try.prog 68 #[sv, .int .i64 k, .slice (some ⟨vb, 0, none⟩) 1 1] w fun e w' => GivesPut w lo sv (l.take k ++ x :: l.drop k) e w' := fun base c e1 e2 h1 h2 h3 h4 => by
    subst e1
    subst e2
    refine (Any2.slices_Insert_int_end_grow Try.lays21 base l.length c vb 0 1 1 (l.map (Value.int .i64)) [Value.int .i64 x] w (by omega) h1 h2 (by omega) (by simp) rfl h3 h4 hvs h1v).mono ?_
    rintro e w' ⟨rfl, rfl⟩
    have hge := grownCap_ge w (l.length + 1) c (Try.lays21_ren.t 3)
    have hle := grownCap_le_maxLen w (l.length + 1) c (Try.lays21_ren.t 3) (by unfold maxLen; omega)
    obtain ⟨C, hC⟩ : ∃ C, grownCap w (l.length + 1) c (Try.lays21_ren.t 3) = C := ⟨_, rfl⟩
    rw [hC] at hge hle ⊢
    have hnew := World.alloc_heap_new w.drew (.cells ((l.map (Value.int .i64) ++ [Value.int .i64 x]).toArray ++ Builtin.zeroCells (Value.int .i64 0).cells (C - (l.length + 1))) (Try.lays21_ren.t 3))
    refine ⟨_, rfl, ?_, grownBy_trans (grownBy_drew w _) (World.grownBy_alloc w.drew _ _), .inr rfl⟩
    have ht : Try.lays21_ren.t 3 = 3 := rfl
    have hsz : ((l.map (Value.int .i64) ++ [Value.int .i64 x]).toArray ++ Builtin.zeroCells (Value.int .i64 0).cells (C - (l.length + 1))).size = C := by
      rw [Array.size_append, zeroCells_int_size]; simp; omega
    refine ownInts_cells hlen hlo (by rw [← ht]; exact hnew) hsz hge hle (fun j hj => ?_)
    rw [getD_put l l.length x (Nat.le_refl _)]
    have hjl : j < (l.map (Value.int .i64) ++ [Value.int .i64 x]).length := by simp; omega
    have hc : ((l.map (Value.int .i64) ++ [Value.int .i64 x]).toArray ++ Builtin.zeroCells (Value.int .i64 0).cells (C - (l.length + 1)))[j]? = (l.map (Value.int .i64) ++ [Value.int .i64 x])[j]? := by
      rw [Array.getElem?_append_left (by simpa using hjl)]; simp
    have hw : (w.drew.alloc (.cells ((l.map (Value.int .i64) ++ [Value.int .i64 x]).toArray ++ Builtin.zeroCells (Value.int .i64 0).cells (C - (l.length + 1))) (Try.lays21_ren.t 3))).cell? ⟨w.heap.size, j, none⟩ = (l.map (Value.int .i64) ++ [Value.int .i64 x])[j]? := by
      have hnew' : (w.drew.alloc (.cells ((l.map (Value.int .i64) ++ [Value.int .i64 x]).toArray ++ Builtin.zeroCells (Value.int .i64 0).cells (C - (l.length + 1))) (Try.lays21_ren.t 3))).heap[w.heap.size]? = _ := hnew
      rw [← hc]
      unfold World.cell?
      dsimp only
      rw [hnew']
      rfl
    rw [hw]
    by_cases h : j < l.length
    · rw [if_pos h, List.getElem?_append_left (by simpa using h)]
      simp [h]
    · obtain rfl : j = l.length := by omega
      rw [if_neg h, if_pos rfl, List.getElem?_append_right (by simp)]
      simp
  rcases h.shape with ⟨rfl, rfl⟩ | ⟨g, cap, rfl⟩
  · have : k = 0 := by simpa using hk
    exact grow0 none 0 rfl this (by simp) (by simp) (fun _ => rfl) (fun a ha => by cases ha)
  obtain ⟨_, hg, hn, hm, ⟨cur, hcur, hcs⟩, hx⟩ := h.cells
  have hcl : (l.map (Value.int .i64)).length = l.length := by simp
  have hcell : ∀ (j : Nat) v, (l.map (Value.int .i64))[j]? = some v → w.cell? ⟨g, 0 + j, none⟩ = some v := fun j v hv => by
    rw [List.getElem?_map] at hv
    have hj : j < l.length := by
      rcases Nat.lt_or_ge j l.length with h | h
      · exact h
      · rw [List.getElem?_eq_none h] at hv; cases hv
    rw [Nat.zero_add, hx j hj, ← hv]
    simp [hj]
  have h1c : ∀ v ∈ l.map (Value.int .i64), v.oneCell' = true := fun v hv => by
    obtain ⟨y, _, rfl⟩ := List.mem_map.1 hv
    rfl
  have hsome : ∀ j, j < cap → (w.cell? ⟨g, j, none⟩).isSome = true := fun j hj => by simp [World.cell?, hcur, hcs, hj]
  have hfz : ∀ j, w.frozen? ⟨g, j, none⟩ = false := fun j => by simp [World.frozen?, hcur]
  have hvg : vb ≠ g := fun e => hne (by simp [Value.ownBlock, e])
  by_cases hroom : l.length + 1 ≤ cap
  · by_cases hkn : k = l.length
    · subst hkn
      refine (Any2.slices_Insert_int_end_room Try.lays21 g 0 l.length cap vb 0 1 1 [Value.int .i64 x] w (by omega) hroom (by unfold maxLen at hm; omega) rfl (fun j hj => hsome _ (by omega)) (fun j hj => hfz _) hvs h1v).mono ?_
      rintro e w' ⟨rfl, rfl⟩
      obtain ⟨cur', hc1, hc2⟩ := setCells_row g [Value.int .i64 x] (0 + l.length) w cur _ _ hcur
      refine ⟨_, rfl, ownInts_cells hlen hg hc1 (by omega) hroom hm (fun j hj => ?_), grown_setCells, .inl rfl⟩
      rw [getD_put l l.length x (Nat.le_refl _)]
      by_cases h : j < l.length
      · rw [if_pos h, World.cell?_setCells_out g _ _ w ⟨g, j, none⟩ (fun _ _ => .inl (by show j < 0 + l.length; omega))]
        exact hx j h
      · obtain rfl : j = l.length := by omega
        rw [if_neg h, if_pos rfl]
        have := World.cell?_setCells_in g [Value.int .i64 x] (0 + l.length) w (fun j hj => hsome _ (by simp at hj; omega)) 0 (by simp)
        simpa using this
    · have hsh : w.shape? vb = some (3, 1) := by simp [World.shape?, hb]
      have hsg : w.shape? g = some (3, cap) := by simp [World.shape?, hcur, hcs]
      refine (Any2.slices_Insert_int_shift Try.lays21 g 0 l.length cap k vb 0 1 1 (l.map (Value.int .i64)) [Value.int .i64 x] w (by omega) (by omega) hroom (by unfold maxLen at hm; omega) hvg hcl rfl hcell (fun j hj => hsome _ (by omega)) (fun j hj => hfz _) hvs h1c h1v _ _ _ _ hsh hsg (by omega) (by simp [World.frozen?, hb]) (by simp [World.frozen?, hb])).mono ?_
      rintro e w' ⟨rfl, rfl⟩
      obtain ⟨c1, hc1, hs1⟩ := setCells_row g ((l.map (Value.int .i64)).drop k) (0 + (k + 1)) w.drew cur _ _ hcur
      obtain ⟨c2, hc2, hs2⟩ := setCells_row g [Value.int .i64 x] (0 + k) _ c1 _ _ hc1
      refine ⟨_, rfl, ownInts_cells hlen hg hc2 (by omega) hroom hm (fun j hj => ?_), grownBy_trans (grownBy_drew w _) (grownBy_trans grown_setCells grown_setCells), .inl rfl⟩
      have hdl : ((l.map (Value.int .i64)).drop k).length = l.length - k := by simp
      have hin : ∀ j, j < ((l.map (Value.int .i64)).drop k).length → (w.drew.cell? ⟨g, 0 + (k + 1) + j, none⟩).isSome = true := fun j hj => hsome _ (by omega)
      rw [getD_put l k x hk]
      by_cases h : j < k
      · rw [if_pos h, World.cell?_setCells_out g _ _ _ ⟨g, j, none⟩ (fun _ _ => .inl (by show j < 0 + k; omega)), World.cell?_setCells_out g _ _ _ ⟨g, j, none⟩ (fun _ _ => .inl (by show j < 0 + (k + 1); omega))]
        exact hx j (by omega)
      · rw [if_neg h]
        by_cases e : j = k
        · subst e
          rw [if_pos rfl]
          have := World.cell?_setCells_in g [Value.int .i64 x] (0 + j) (w.drew.setCells g (0 + (j + 1)) ((l.map (Value.int .i64)).drop j)) (fun i hi => World.isSome_setCells g _ _ _ _ (hsome _ (by simp at hi; omega))) 0 (by simp)
          simpa using this
        · rw [if_neg e, World.cell?_setCells_out g _ _ _ ⟨g, j, none⟩ (fun _ _ => .inr (by show 0 + k + 1 ≤ j; omega))]
          obtain ⟨d, rfl⟩ : ∃ d, j = k + 1 + d := ⟨j - k - 1, by omega⟩
          have := World.cell?_setCells_in g ((l.map (Value.int .i64)).drop k) (0 + (k + 1)) w.drew hin d (by omega)
          rw [Nat.zero_add] at this
          rw [Nat.zero_add, this]
          have hkd : k + d < l.length := by omega
          simp [hkd]
  · by_cases hkn : k = l.length
    · refine grow0 (some ⟨g, 0, none⟩) cap rfl hkn hn (by omega) (fun e => by cases e) (fun a ha j v hv => ?_)
      cases ha
      rw [Addr.add_lit]
      exact hcell j v hv
    · refine (Any2.slices_Insert_int_grow Try.lays21 g 0 l.length cap k vb 0 1 1 (l.map (Value.int .i64)) [Value.int .i64 x] w (by omega) (by omega) hn (by omega) (by omega) hcl rfl hcell hvs h1c h1v).mono ?_
      rintro e w' ⟨rfl, rfl⟩
      have hge := grownCap_ge w (l.length + 1) cap (Try.lays21_ren.t 3)
      have hle := grownCap_le_maxLen w (l.length + 1) cap (Try.lays21_ren.t 3) (by unfold maxLen; omega)
      obtain ⟨C, hC⟩ : ∃ C, grownCap w (l.length + 1) cap (Try.lays21_ren.t 3) = C := ⟨_, rfl⟩
      rw [hC] at hge hle ⊢
      obtain ⟨R, hR⟩ : ∃ R, (((l.map (Value.int .i64)).take k).toArray ++ Builtin.zeroCells (Value.int .i64 0).cells (l.length + 1 - k) ++ Builtin.zeroCells (Value.int .i64 0).cells (C - (l.length + 1))) = R := ⟨_, rfl⟩
      have hRs : R.size = C := by rw [← hR, Array.size_append, Array.size_append, zeroCells_int_size, zeroCells_int_size]; simp; omega
      have hRc : ∀ j, j < k → R[j]? = some (.int .i64 (l.getD j 0)) := fun j hj => by
        have hjl : j < l.length := by omega
        rw [← hR, Array.append_assoc, Array.getElem?_append_left (by simp; omega)]
        simp [hj, hjl]
      rw [hR]
      have hnew := World.alloc_heap_new w (.cells R (Try.lays21_ren.t 3))
      obtain ⟨w0, hw0⟩ : ∃ w0, w.alloc (.cells R (Try.lays21_ren.t 3)) = w0 := ⟨_, rfl⟩
      have g0 : w.grownBy w0 (some g) := by rw [← hw0]; exact World.grownBy_alloc w _ _
      have hs0 : w0.heap.size = w.heap.size + 1 := by rw [← hw0]; simp
      rw [hw0] at hnew ⊢
      have hsm : ∀ j, j < C → (w0.cell? ⟨w.heap.size, j, none⟩).isSome = true := fun j hj => by simp [World.cell?, hnew, hRs, hj]
      obtain ⟨c1, hc1, hs1⟩ := setCells_row w.heap.size [Value.int .i64 x] k w0.drew R _ _ hnew
      obtain ⟨c2, hc2, hs2⟩ := setCells_row w.heap.size ((l.map (Value.int .i64)).drop k) (k + 1) (w0.drew.setCells w.heap.size k [Value.int .i64 x]).drew c1 _ _ hc1
      have hdl : ((l.map (Value.int .i64)).drop k).length = l.length - k := by simp
      have gl : ∀ {a b : World}, a.grownBy b (some w.heap.size) → w.grownBy a (some g) → w.grownBy b (some g) := fun h1 h2 => ⟨h1.os.trans h2.os, h1.tape.trans h2.tape, h1.output.trans h2.output, Nat.le_trans h2.size h1.size, fun i hi hne => (h1.block i (Nat.lt_of_lt_of_le hi h2.size) (fun e => by cases e; omega)).trans (h2.block i hi hne)⟩
      refine ⟨_, rfl, ownInts_cells hlen hlo hc2 (by omega) hge hle (fun j hj => ?_), gl grown_setCells (gl (grownBy_drew _ _) (gl grown_setCells (gl (grownBy_drew _ _) g0))), .inr rfl⟩
      rw [getD_put l k x hk]
      by_cases h : j < k
      · rw [if_pos h, World.cell?_setCells_out _ _ _ _ ⟨w.heap.size, j, none⟩ (fun _ _ => .inl (by show j < k + 1; omega))]
        show (w0.drew.setCells w.heap.size k [Value.int .i64 x]).cell? _ = _
        rw [World.cell?_setCells_out _ _ _ _ ⟨w.heap.size, j, none⟩ (fun _ _ => .inl (by show j < k; omega))]
        show w0.cell? _ = _
        have := hRc j h
        have hjR : j < R.size := by omega
        simp [hjR] at this
        simp [World.cell?, hnew, hjR, this]
      · rw [if_neg h]
        by_cases e : j = k
        · subst e
          rw [if_pos rfl, World.cell?_setCells_out _ _ _ _ ⟨w.heap.size, j, none⟩ (fun _ _ => .inl (by show j < j + 1; omega))]
          have := World.cell?_setCells_in w.heap.size [Value.int .i64 x] j w0.drew (fun i hi => hsm _ (by simp at hi; omega)) 0 (by simp)
          simpa using this
        · rw [if_neg e]
          obtain ⟨d, rfl⟩ : ∃ d, j = k + 1 + d := ⟨j - k - 1, by omega⟩
          have := World.cell?_setCells_in w.heap.size ((l.map (Value.int .i64)).drop k) (k + 1) (w0.drew.setCells w.heap.size k [Value.int .i64 x]).drew (fun i hi => World.isSome_setCells _ _ _ _ _ (hsm _ (by omega))) d (by omega)
          rw [this]
          have hkd : k + d < l.length := by omega
          simp [hkd]

/-- The deletion of one number out of a list of the call's own. -/
theorem delete_any (lo : Nat) (sv : Value) (l : List Int) (k : Nat) (w : World) (h : OwnInts w lo sv l) (hk : k < l.length) (hs : l.length ≤ 80) :
    Calls Try.prog 70 #[sv, .int .i64 k, .int .i64 ((k : Int) + 1)] w fun e w' => GivesPut w lo sv (l.take k ++ l.drop (k + 1)) e w' := by
  rcases h.shape with ⟨rfl, rfl⟩ | ⟨g, cap, rfl⟩
  · simp at hk
  obtain ⟨_, hg, hn, hm, ⟨cur, hcur, hcs⟩, hx⟩ := h.cells
  have hlen : (l.take k ++ l.drop (k + 1)).length = l.length - 1 := by simp; omega
  have hfz : ∀ j, w.frozen? ⟨g, j, none⟩ = false := fun j => by simp [World.frozen?, hcur]
  have hc := Any.slices_Delete_int_cells Try.lays23 g 0 l.length cap k (k + 1) l w (Nat.le_refl _) hn (by unfold maxLen at hm; omega) (by omega) (by omega) (fun j hj => by rw [Nat.zero_add]; exact hx j hj) (fun j _ => by rw [Nat.zero_add]; exact hfz j)
  rw [show ((k + 1 : Nat) : Int) = (k : Int) + 1 by omega] at hc
  refine Calls.mono hc ?_
  rintro e w' ⟨rfl, q, rfl⟩
  rw [List.take_length, show k + 1 - k = 1 by omega]
  obtain ⟨c1, hc1, hs1⟩ := setCells_row g ((l.take k ++ l.drop (k + 1) ++ List.replicate 1 0).map (Value.int .i64)) 0 (w.drewN q) cur _ _ hcur
  refine ⟨_, rfl, ownInts_cells hlen hg hc1 (by omega) (by omega) hm (fun j hj => ?_), grownBy_trans (grownBy_drewN w q _) grown_setCells, .inl rfl⟩
  have hcl : ((l.take k ++ l.drop (k + 1) ++ List.replicate 1 0).map (Value.int .i64)).length = l.length := by simp; omega
  have := World.cell?_setCells_in g ((l.take k ++ l.drop (k + 1) ++ List.replicate 1 0).map (Value.int .i64)) 0 (w.drewN q) (fun i hi => by
    have hi' : i < cur.size := by omega
    show (w.cell? _).isSome = true
    simp [World.cell?, hcur, hi']) j (by omega)
  rw [Nat.zero_add] at this
  rw [this, List.getElem_map, List.getElem_append_left (by omega)]
  rw [List.getD_eq_getElem?_getD, List.getElem?_eq_getElem (by omega)]
  rfl
end Go.Proofs.Ytjfogpbhacadbaa
