/- A matrix of flags whose rows are written in place. -/
import Derived.Test.YtjfogpbhacadbaaClDefK
namespace Go.Proofs.Ytjfogpbhacadbaa
open Go.ChangeShapes Go.WideShapes Go.ChangeAt Go.RowKit Go.Shelf
set_option linter.unusedVariables false

structure MatW (w : World) (lo g n V : Nat) (hs : Nat → Nat) (ls : Nat → List Int) : Prop where
  low : lo ≤ g
  box : ∃ cur, w.heap[g]? = some (.cells cur 35 (0, 0)) ∧ n ≤ cur.size ∧ ∀ i, i < n → cur[i]? = some (.slice (some ⟨hs i, 0, none⟩) V V)
  row : ∀ i, i < n → OwnBools w lo (.slice (some ⟨hs i, 0, none⟩) V V) (bitsOf V (ls i))
  inj : ∀ i j, i < n → j < n → hs i = hs j → i = j
theorem MatW.lt {w : World} {lo g n V : Nat} {hs : Nat → Nat} {ls : Nat → List Int} (h : MatW w lo g n V hs ls) : g < w.heap.size := by
  obtain ⟨cur, hc, _⟩ := h.box
  exact (Array.getElem?_eq_some_iff.1 hc).1
theorem MatW.keep {w w' : World} {lo g n V : Nat} {hs : Nat → Nat} {ls : Nat → List Int} (h : MatW w lo g n V hs ls) (hb : Below w.heap.size w w') : MatW w' lo g n V hs ls := by
  obtain ⟨cur, hc, h1⟩ := h.box
  exact ⟨h.low, ⟨cur, (hb.block g h.lt).trans hc, h1⟩, fun i hi => (h.row i hi).keep hb, h.inj⟩
theorem MatW.lower {w : World} {lo lo' g n V : Nat} {hs : Nat → Nat} {ls : Nat → List Int} (h : MatW w lo g n V hs ls) (hl : lo' ≤ lo) : MatW w lo' g n V hs ls :=
  ⟨Nat.le_trans hl h.low, h.box, fun i hi => (h.row i hi).low hl, h.inj⟩
theorem MatW.congr {w : World} {lo g n V : Nat} {hs : Nat → Nat} {ls ls' : Nat → List Int} (h : MatW w lo g n V hs ls) (e : ∀ i, i < n → ∀ j : Nat, j < V → ((j : Int) ∈ ls i ↔ (j : Int) ∈ ls' i)) : MatW w lo g n V hs ls' :=
  ⟨h.low, h.box, fun i hi => by rw [← bits_congr (e i hi)]; exact h.row i hi, h.inj⟩
theorem MatW.head {w : World} {lo g n V : Nat} {hs : Nat → Nat} {ls : Nat → List Int} (h : MatW w lo g n V hs ls) {i : Nat} (hi : i < n) : w.cell? ⟨g, i, none⟩ = some (.slice (some ⟨hs i, 0, none⟩) V V) := by
  obtain ⟨cur, hc, _, h1⟩ := h.box
  simp [World.cell?, hc, h1 i hi]
theorem MatW.bit {w : World} {lo g n V : Nat} {hs : Nat → Nat} {ls : Nat → List Int} (h : MatW w lo g n V hs ls) {i : Nat} (hi : i < n) {j : Nat} (hj : j < V) : w.cell? ⟨hs i, j, none⟩ = some (.bool (decide ((j : Int) ∈ ls i))) ∧ w.frozen? ⟨hs i, j, none⟩ = false := by
  obtain ⟨_, _, _, _, h1, h2⟩ := (h.row i hi).cells
  exact ⟨by rw [h1 j hj, bits_getD _ hj], h2 j⟩
theorem MatW.rowLow {w : World} {lo g n V : Nat} {hs : Nat → Nat} {ls : Nat → List Int} (h : MatW w lo g n V hs ls) {i : Nat} (hi : i < n) : lo ≤ hs i ∧ hs i < w.heap.size := by
  obtain ⟨h1, c, h2⟩ := (h.row i hi).block (k := hs i) rfl
  exact ⟨h1, (Array.getElem?_eq_some_iff.1 h2).1⟩
theorem MatW.notRow {w : World} {lo g n V : Nat} {hs : Nat → Nat} {ls : Nat → List Int} (h : MatW w lo g n V hs ls) {i : Nat} (hi : i < n) : hs i ≠ g := fun e => by
  obtain ⟨_, c, h2⟩ := (h.row i hi).block (k := hs i) rfl
  obtain ⟨cur, hc, _⟩ := h.box
  rw [e, hc] at h2
  simp at h2
/-- A flag is put. -/
theorem MatW.set {w : World} {lo g n V : Nat} {hs : Nat → Nat} {ls : Nat → List Int} (h : MatW w lo g n V hs ls) {a b : Nat} (ha : a < n) (hb : b < V) {x : Bool} {l' : List Int} (hl : ∀ j : Nat, j < V → ((j : Int) ∈ l' ↔ if j = b then x = true else (j : Int) ∈ ls a)) : MatW (w.setCell ⟨hs a, b, none⟩ (.bool x)) lo g n V hs (updL ls a l') := by
  obtain ⟨cur, hc, h1⟩ := h.box
  refine ⟨h.low, ⟨cur, (Below.heap_setCell _ _ _ g (fun e => h.notRow ha e.symm)).trans hc, h1⟩, fun i hi => ?_, h.inj⟩
  by_cases e : i = a
  · subst e
    rw [updL_same, ← bits_set hb hl]
    exact (h.row i hi).setAt hb x
  · rw [updL_other _ _ e]
    refine (h.row i hi).sameB (fun k hk => Below.heap_setCell _ _ _ k (fun e2 => e (h.inj i a hi ha ?_)))
    simp [Value.ownBlock] at hk
    dsimp only at e2
    omega
/-- The matrix while it is built. -/
def HdW (w : World) (lo V : Nat) (mv : Value) (k : Nat) : Prop := ∃ gs : List Nat, w.ownsRow lo 35 1 mv k (gs.map (fun g' => Value.slice (some ⟨g', 0, none⟩) V V)) ∧ gs.Nodup ∧ ∀ g' ∈ gs, g' < w.heap.size ∧ OwnBools w lo (.slice (some ⟨g', 0, none⟩) V V) (bitsOf V [])
theorem hdW_next {wq wM wa : World} {lo V g g' k cap cap' : Nat} {gs : List Nat} {o : Obj} (hrow : wM.ownsRow lo 35 1 (.slice (some ⟨g, 0, none⟩) k cap) k (gs.map (fun g' => Value.slice (some ⟨g', 0, none⟩) V V))) (hnd : gs.Nodup) (hall : ∀ g' ∈ gs, g' < wq.heap.size ∧ OwnBools wM lo (.slice (some ⟨g', 0, none⟩) V V) (bitsOf V [])) (hs : wM.heap.size = wq.heap.size + 1) (hnew : OwnBools wM lo (.slice (some ⟨wq.heap.size, 0, none⟩) V V) (bitsOf V []))
    (hown : wa.ownsRow lo 35 1 (.slice (some ⟨g', 0, none⟩) (k + 1) cap') (k + 1) (gs.map (fun g' => Value.slice (some ⟨g', 0, none⟩) V V) ++ [.slice (some ⟨wq.heap.size, 0, none⟩) V V])) (hg : (wM.alloc o).grownBy wa (Value.slice (some ⟨g, 0, none⟩) k cap).ownBlock) : HdW wa lo V (.slice (some ⟨g', 0, none⟩) (k + 1) cap') (k + 1) := by
  obtain ⟨cur, hcur⟩ : ∃ cur, wM.heap[g]? = some (.cells cur 35 (0, 0)) := by
    rcases hrow.2 with ⟨h0, _⟩ | ⟨g9, c9, cur, hv, _, h9, _⟩
    · cases h0
    · cases hv; exact ⟨cur, h9⟩
  have hcur2 : (wM.alloc o).heap[g]? = some (.cells cur 35 (0, 0)) := (Below.heap_alloc wM o g (Array.getElem?_eq_some_iff.1 hcur).1).trans hcur
  have hsz := hg.size
  have hsa : (wM.alloc o).heap.size = wM.heap.size + 1 := by simp
  refine ⟨gs ++ [wq.heap.size], by rw [List.map_append]; exact hown, ?_, fun x hx => ?_⟩
  · rw [List.nodup_append]
    refine ⟨hnd, by simp, fun a ha b hb e => ?_⟩
    simp at hb
    have := (hall a ha).1
    omega
  · rcases List.mem_append.1 hx with hx | hx
    · exact ⟨by have := (hall x hx).1; omega, ((hall x hx).2.keep (Bel.alloc wM o)).grownRow hg hcur2⟩
    · simp at hx
      subst hx
      exact ⟨by omega, (hnew.keep (Bel.alloc wM o)).grownRow hg hcur2⟩
theorem HdW.mat {w : World} {lo V g n cap : Nat} (h : HdW w lo V (.slice (some ⟨g, 0, none⟩) n cap) n) : ∃ hs, MatW w lo g n V hs (fun _ => []) := by
  obtain ⟨gs, ⟨hl, ⟨h0, _⟩ | ⟨g', cap', cur, hv, hlo, hg, h1, h2, h3, h4⟩⟩, hnd, hr⟩ := h
  · cases h0
  · cases hv
    rw [List.length_map] at hl
    refine ⟨fun i => gs.getD i 0, hlo, ⟨cur, hg, by omega, fun i hi => ?_⟩, fun i hi => ?_, fun i j hi hj e => ?_⟩
    · have hil : i < gs.length := by omega
      have e2 := congrArg (fun m => m[i]?) h4
      rw [List.getElem?_take, if_pos (by omega), List.getElem?_map, List.getElem?_eq_getElem hil] at e2
      rw [List.getD_eq_getElem?_getD, List.getElem?_eq_getElem hil]
      simpa using e2
    · have hil : i < gs.length := by omega
      rw [List.getD_eq_getElem?_getD, List.getElem?_eq_getElem hil]
      exact (hr _ (List.getElem_mem hil)).2
    · have hil : i < gs.length := by omega
      have hjl : j < gs.length := by omega
      simp only [List.getD_eq_getElem?_getD, List.getElem?_eq_getElem hil, List.getElem?_eq_getElem hjl, Option.getD_some] at e
      exact (List.getElem_inj hnd).1 e
def GivesW (w : World) (V : Nat) (S : Int → Int → Prop) (e : Ending) (w' : World) : Prop := ∃ g cap hs, e = .returned (.slice (some ⟨g, 0, none⟩) V cap) ∧ MatW w' w.heap.size g V V hs (setL S) ∧ Below w.heap.size w w'
/-- Two flags are put: both ways round. -/
theorem MatW.hit {w : World} {lo g V : Nat} {hs : Nat → Nat} {S T : Int → Int → Prop} (h : MatW w lo g V V hs (setL S)) (h80 : V ≤ 80) {d v : Nat} (hd : d < V) (hv : v < V) (hT : ∀ a c : Int, T a c ↔ S a c ∨ (a = d ∧ c = v) ∨ (a = v ∧ c = d)) : MatW ((w.setCell ⟨hs d, v, none⟩ (.bool true)).setCell ⟨hs v, d, none⟩ (.bool true)) lo g V V hs (setL T) := by
  have h1 := h.set (a := d) (b := v) (x := true) (l' := (v : Int) :: setL S d) hd hv (fun j hj => by
    by_cases e : j = v
    · subst e; simp
    · rw [if_neg e]
      simp
      omega)
  have h2 := h1.set (a := v) (b := d) (x := true) (l' := (d : Int) :: updL (setL S) d ((v : Int) :: setL S d) v) hv hd (fun j hj => by
    by_cases e : j = d
    · subst e; simp
    · rw [if_neg e]
      simp
      omega)
  refine h2.congr (fun i hi j hj => ?_)
  rw [setL_mem, hT]
  unfold updL
  have hm : ∀ x : Nat, ((j : Int) ∈ setL S x ↔ S (x : Int) j) := fun x => by
    rw [setL_mem]
    exact ⟨fun h => h.1, fun h => ⟨h, by omega, by omega⟩⟩
  have hj8 : (0 : Int) ≤ (j : Int) ∧ (j : Int) < 80 := by omega
  by_cases e1 : i = v
  · subst e1
    by_cases e2 : i = d
    · subst e2
      by_cases hS : S (i : Int) (j : Int) <;> simp [hm, hS, hj8] <;> omega
    · by_cases hS : S (i : Int) (j : Int) <;> simp [hm, hS, hj8, e2] <;> omega
  · by_cases e2 : i = d
    · subst e2
      by_cases hS : S (i : Int) (j : Int) <;> simp [hm, hS, hj8, e1] <;> omega
    · by_cases hS : S (i : Int) (j : Int) <;> simp [hm, hS, hj8, e1, e2] <;> omega
end Go.Proofs.Ytjfogpbhacadbaa
