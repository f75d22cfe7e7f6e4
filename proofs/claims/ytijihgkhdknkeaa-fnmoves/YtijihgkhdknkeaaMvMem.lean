/- Lists of moves: of the call's own, read, compared, marked, held against the marks, copied from the laws' own. -/
import Derived.Test.YtijihgkhdknkeaaOwn
import Derived.Test.YtijihgkhdknkeaaDeep
import Derived.Test.YtijihgkhdknkeaaDrawC
import Derived.Maps.AppendAt
import Derived.Deep.OwnRows
import Derived.Handy
import Derived.Deep.RegionWith
import Derived.BigRegion
import Derived.Deep.QuietTactic
import Derived.BigQuiet
namespace Go.Proofs.Ytijihgkhdknkeaa
open Go.ChangeShapes Go.WideShapes Go.ChangeAt Go.RowKit
set_option linter.unusedVariables false

theorem info_int : (Try.prog.info? 3).map (fun i => (i.zero, i.size, i.bytes)) = some (some (.int .i64 0), 1, 8) := by kernel_rfl
theorem info_move : (Try.prog.info? 44).map (fun i => (i.zero, i.size, i.bytes)) = some (some (.agg #[.int .i64 0, .int .i64 0]), 2, 16) := by kernel_rfl
def GivesTrue (w : World) (e : Ending) (w' : World) : Prop := e = .returned (.bool true) ∧ Below w.heap.size w w'
def GivesBool (w : World) (b : Bool) (e : Ending) (w' : World) : Prop := e = .returned (.bool b) ∧ Below w.heap.size w w'
theorem ownInts_nil {w : World} {g lo : Nat} (hg : w.heap.size = g) (hl : lo ≤ g) : OwnInts (w.alloc (.cells #[] 3)) lo (.slice (some ⟨g, 0, none⟩) 0 0) [] := by
  subst hg
  exact (ownInts_new w).low hl
theorem OwnInts.not_box {w : World} {lo : Nat} {v : Value} {l : List Int} (h : OwnInts w lo v l) {B : Nat} {c : Array Value} {t : TypeId} {z : Nat × Nat} (hB : w.heap[B]? = some (.cells c t z)) (ht : t ≠ 3) : some B ≠ v.ownBlock := by
  rcases h.2 with ⟨rfl, _⟩ | ⟨g, cap, cur, rfl, _, hgb, _⟩
  · simp [Value.ownBlock]
  · intro e'
    obtain rfl : B = g := by simpa [Value.ownBlock] using e'
    rw [hgb] at hB
    simp at hB
    exact ht hB.2.1.symm
theorem OwnInts.next {w : World} {lo : Nat} {v : Value} {l : List Int} {x : Int} (h : w.ownsRow lo 3 1 v (l.length + 1) (l.map (fun x => Value.int .i64 x) ++ [Value.int .i64 x])) : OwnInts w lo v (l ++ [x]) := by
  unfold OwnInts
  simpa using h
theorem ownsRow_under {w w1 : World} {lo : Nat} {t : TypeId} {s n : Nat} {v : Value} {xs : List Value} (h : w.ownsRow lo t s v n xs) (hlo : lo ≤ w.heap.size) (hg : w.grownBy w1 v.ownBlock) : Below lo w w1 := by
  refine (Below.refl lo w).grown hg hlo fun j ej => ?_
  rcases h.2 with ⟨rfl, _⟩ | ⟨g, cap, cur, rfl, hb, _, _⟩
  · simp [Value.ownBlock] at ej
  · simp [Value.ownBlock] at ej
    subst ej
    exact hb

/-- The cells of a list of moves (of each: from, to). -/
def moveC : List ArmD → List Value
  | [] => []
  | e :: l => .int .i64 e.fr :: .int .i64 e.v :: moveC l
theorem moveC_len (l : List ArmD) : (moveC l).length = l.length * 2 := by
  induction l with
  | nil => rfl
  | cons e l ih => simp only [moveC, List.length_cons, ih]; omega
theorem moveC_at (l : List ArmD) : ∀ {i : Nat} {x : ArmD}, l[i]? = some x → (moveC l)[i * 2]? = some (.int .i64 x.fr) ∧ (moveC l)[i * 2 + 1]? = some (.int .i64 x.v) := by
  induction l with
  | nil => intro i x h; simp at h
  | cons e l ih =>
    intro i x h
    cases i with
    | zero =>
      simp at h
      subst h
      exact ⟨rfl, rfl⟩
    | succ i =>
      simp at h
      have := ih h
      rw [show (i + 1) * 2 = i * 2 + 1 + 1 by omega]
      simpa [moveC] using this
theorem moveC_app (l m : List ArmD) : moveC (l ++ m) = moveC l ++ moveC m := by
  induction l with
  | nil => rfl
  | cons e l ih => simp [moveC, ih]
/-- A list of moves in memory of the call's own, in blocks from lo on. -/
def OwnMoves (w : World) (lo : Nat) (v : Value) (l : List ArmD) : Prop := w.ownsRow lo 44 2 v l.length (moveC l)
/-- A slice that reads as the moves l. -/
def MovesAt (w : World) (v : Value) (l : List ArmD) : Prop := ListAt 0 2 ArmAt w v l
theorem OwnMoves.small {w : World} {lo : Nat} {v : Value} {l : List ArmD} (h : OwnMoves w lo v l) : l.length ≤ maxLen := by
  rcases h.2 with ⟨_, h0⟩ | ⟨g, cap, cur, _, _, _, h1, h2, _⟩
  · rw [h0]; exact Nat.zero_le _
  · omega
theorem OwnMoves.row {w : World} {lo : Nat} {v : Value} {l : List ArmD} (h : OwnMoves w lo v l) :
    ∃ a cap, v = .slice a l.length cap ∧ (0 < l.length → ∃ g, a = some ⟨g, 0, none⟩ ∧ lo ≤ g ∧ g < w.heap.size ∧ (∀ i x, l[i]? = some x → ArmAt w g (i * 2) x) ∧ ∀ i, w.frozen? ⟨g, i, none⟩ = false) := by
  rcases h.2 with ⟨rfl, h0⟩ | ⟨g, cap, cur, rfl, hlo, hg, h1, h2, h3, h4⟩
  · exact ⟨none, 0, by rw [h0], fun hp => absurd hp (by omega)⟩
  · refine ⟨_, cap, rfl, fun hp => ⟨g, rfl, hlo, (Array.getElem?_eq_some_iff.1 hg).1, fun i x hx => ?_, fun i => ?_⟩⟩
    · have hi : i < l.length := (List.getElem?_eq_some_iff.1 hx).1
      obtain ⟨c0, c1⟩ := moveC_at l hx
      have e0 : cur[i * 2]? = some (.int .i64 x.fr) := by
        have e1 : (cur.toList.take (l.length * 2))[i * 2]? = cur[i * 2]? := by rw [List.getElem?_take]; simp; omega
        rw [← e1, h4]
        exact c0
      have e2 : cur[i * 2 + 1]? = some (.int .i64 x.v) := by
        have e1 : (cur.toList.take (l.length * 2))[i * 2 + 1]? = cur[i * 2 + 1]? := by rw [List.getElem?_take]; simp; omega
        rw [← e1, h4]
        exact c1
      exact ⟨by simp [World.cell?, hg, e0], by simp [World.cell?, hg, e2]⟩
    · simp [World.frozen?, hg]
theorem OwnMoves.at {w : World} {lo : Nat} {v : Value} {l : List ArmD} (h : OwnMoves w lo v l) : MovesAt w v l := by
  have hs := h.small
  obtain ⟨a, cap, rfl, hc⟩ := h.row
  refine ⟨a, cap, rfl, by have : maxLen ≤ 9223372036854775807 := by decide
                          omega, fun hp => ?_⟩
  obtain ⟨g, rfl, _, _, hd, _⟩ := hc hp
  exact ⟨g, 0, rfl, Nat.zero_le _, fun i x hx => by simpa using hd i x hx⟩
theorem OwnMoves.keep {w w' : World} {lo : Nat} {v : Value} {l : List ArmD} (h : OwnMoves w lo v l) (hb : Below w.heap.size w w') : OwnMoves w' lo v l := ownsRow_later h hb
theorem OwnMoves.low {w : World} {lo lo' : Nat} {v : Value} {l : List ArmD} (h : OwnMoves w lo v l) (hl : lo' ≤ lo) : OwnMoves w lo' v l := ownsRow_low h hl
theorem OwnMoves.lt {w : World} {b : Nat} {v : Value} {l : List ArmD} (h : OwnMoves w b v l) : ∀ g, v.ownBlock = some g → b ≤ g ∧ g < w.heap.size := World.ownsRow.lt h
theorem MovesAt.keep {w w' : World} {v : Value} {l : List ArmD} (h : MovesAt w v l) (hb : Below w.heap.size w w') : MovesAt w' v l := ListAt.keep h (fun b o z hb2 h => h.keep (Keeps.of_below hb 0) hb2)
theorem MovesAt.under {w w' : World} {v : Value} {l : List ArmD} (h : MovesAt w v l) {lo : Nat} (hb : Below lo w w') (hv : ∀ a, v.ownBlock = some a → a < lo) : MovesAt w' v l := by
  obtain ⟨a, cap, rfl, hm, hc⟩ := h
  refine ⟨a, cap, rfl, hm, fun hp => ?_⟩
  obtain ⟨b, off, rfl, h0, hd⟩ := hc hp
  exact ⟨b, off, rfl, h0, fun i x hx => ⟨(hb.cell (p := ⟨b, off + i * 2, none⟩) (hv b rfl)).trans (hd i x hx).1, (hb.cell (p := ⟨b, off + i * 2 + 1, none⟩) (hv b rfl)).trans (hd i x hx).2⟩⟩
/-- A list of moves is given, in new memory. -/
def GivesMoves (w : World) (l : List ArmD) (e : Ending) (w' : World) : Prop := ∃ v, e = .returned v ∧ OwnMoves w' w.heap.size v l ∧ Below w.heap.size w w'
theorem ownMoves_nil {w w' : World} {lo g : Nat} (hg : w'.heap[g]? = some (.cells #[] 44 (0, 0))) (hl : lo ≤ g) : OwnMoves w' lo (.slice (some ⟨g, 0, none⟩) 0 0) [] :=
  ⟨rfl, .inr ⟨g, 0, #[], rfl, hl, hg, Nat.le_refl _, Nat.zero_le _, rfl, rfl⟩⟩
theorem OwnMoves.next {w : World} {lo : Nat} {v : Value} {l : List ArmD} {x : ArmD} (h : w.ownsRow lo 44 2 v (l.length + 1) (moveC l ++ [Value.int .i64 x.fr, Value.int .i64 x.v])) : OwnMoves w lo v (l ++ [x]) := by
  unfold OwnMoves
  rw [moveC_app, List.length_append]
  exact h
theorem OwnMoves.more {w : World} {lo : Nat} {v : Value} {l m : List ArmD} (h : w.ownsRow lo 44 2 v (l.length + m.length) (moveC l ++ moveC m)) : OwnMoves w lo v (l ++ m) := by
  unfold OwnMoves
  rw [moveC_app, List.length_append]
  exact h
theorem OwnMoves.not_box {w : World} {lo : Nat} {v : Value} {l : List ArmD} (h : OwnMoves w lo v l) {B : Nat} {c : Array Value} {t : TypeId} {z : Nat × Nat} (hB : w.heap[B]? = some (.cells c t z)) (ht : t ≠ 44) : some B ≠ v.ownBlock := by
  rcases h.2 with ⟨rfl, _⟩ | ⟨g, cap, cur, rfl, _, hgb, _⟩
  · simp [Value.ownBlock]
  · intro e'
    obtain rfl : B = g := by simpa [Value.ownBlock] using e'
    rw [hgb] at hB
    simp at hB
    exact ht hB.2.1.symm


def updN (f : Nat → Int) (k : Nat) (x : Int) : Nat → Int := fun i => if i = k then x else f i
theorem cell_of_heap {w w' : World} {b : Nat} (h : w'.heap[b]? = w.heap[b]?) (o : Nat) : w'.cell? ⟨b, o, none⟩ = w.cell? ⟨b, o, none⟩ := by simp [World.cell?, h]
theorem frozen_of_cells {w : World} {b : Nat} {t : TypeId} (h : ∃ c, w.heap[b]? = some (.cells c t (0, 0))) (o : Nat) : w.frozen? ⟨b, o, none⟩ = false := by
  obtain ⟨c, h⟩ := h
  simp [World.frozen?, h]
/-- The first n of f. -/
def listN (n : Nat) (f : Nat → Int) : List Int := (List.range n).map f
theorem listN_len (n : Nat) (f : Nat → Int) : (listN n f).length = n := by simp [listN]
theorem listN_at (n : Nat) (f : Nat → Int) {i : Nat} (h : i < n) : (listN n f).getD i 0 = f i := by simp [listN, List.getD, h]
theorem listN_set (n : Nat) (f : Nat → Int) (d : Nat) (x : Int) : (listN n f).set d x = listN n (updN f d x) := by
  apply List.ext_getElem?
  intro i
  by_cases hi : i < n
  · by_cases e : d = i
    · subst e
      simp [listN, updN, hi]
    · have e2 : ¬ i = d := fun h => e h.symm
      simp [listN, updN, hi, e, e2]
  · rw [List.getElem?_eq_none (by simp [listN]; omega), List.getElem?_eq_none (by simp [listN]; omega)]

theorem OwnInts.heapOf {w : World} {lo g n cap : Nat} {l : List Int} (h : OwnInts w lo (.slice (some ⟨g, 0, none⟩) n cap) l) : ∃ c, w.heap[g]? = some (.cells c 3 (0, 0)) := by
  rcases h.2 with ⟨h0, _⟩ | ⟨g', cap', cur, h0, _, hg, _⟩
  · cases h0
  · cases h0
    exact ⟨cur, hg⟩
theorem OwnInts.len {w : World} {lo g n cap : Nat} {l : List Int} (h : OwnInts w lo (.slice (some ⟨g, 0, none⟩) n cap) l) : n = l.length := by
  rcases h.2 with ⟨h0, _⟩ | ⟨g', cap', cur, h0, _, hg, _⟩
  · cases h0
  · cases h0
    rfl
theorem OwnInts.setAt {w : World} {lo g n cap : Nat} {l : List Int} (h : OwnInts w lo (.slice (some ⟨g, 0, none⟩) n cap) l) {d : Nat} (hd : d < n) (x : Int) : OwnInts (w.setCell ⟨g, d, none⟩ (.int .i64 x)) lo (.slice (some ⟨g, 0, none⟩) n cap) (l.set d x) := by
  have hn := h.len
  rcases h with ⟨h00, h⟩
  rcases h with ⟨h0, _⟩ | ⟨g', cap', cur, h0, hlo, hg, h1, h2, h3, h4⟩
  · cases h0
  · cases h0
    refine ⟨by simp, .inr ⟨g, cap, cur.setIfInBounds d (.int .i64 x), by simp, hlo, heap_setCell_same _ _ _ _ _ _ hg, by simpa using h1, by simpa using h2, by simpa using h3, ?_⟩⟩
    have e : (cur.setIfInBounds d (Value.int .i64 x)).toList = cur.toList.set d (.int .i64 x) := by simp
    rw [e, List.length_set, List.take_set, h4, List.map_set]
theorem OwnInts.apartSet {w : World} {lo : Nat} {v : Value} {l : List Int} (h : OwnInts w lo v l) {g d : Nat} (hg : v.ownBlock ≠ some g) (x : Value) : OwnInts (w.setCell ⟨g, d, none⟩ x) lo v l := by
  obtain ⟨h0, h1⟩ := h
  refine ⟨h0, ?_⟩
  rcases h1 with h1 | ⟨g', cap, cur, rfl, hlo, hh, h2⟩
  · exact .inl h1
  · refine .inr ⟨g', cap, cur, rfl, hlo, ?_, h2⟩
    rw [heap_setCell_other _ _ _ _ (fun e => hg (by simp [Value.ownBlock]; exact e))]
    exact hh
theorem OwnInts.cellAt {w : World} {lo g n cap : Nat} {l : List Int} (h : OwnInts w lo (.slice (some ⟨g, 0, none⟩) n cap) l) {i : Nat} (hi : i < n) : w.cell? ⟨g, i, none⟩ = some (.int .i64 (l.getD i 0)) := by
  have hn := h.len
  obtain ⟨a, c, e, hc⟩ := h.row
  obtain ⟨g', e2, _, _, h1, _⟩ := hc (by omega)
  subst e2
  simp at e
  obtain ⟨rfl, _, _⟩ := e
  exact h1 i (by omega)

theorem make_ints (n : Nat) (hn : n ≤ 1048576) (w : World) : (Instr.makeSlice 25 (.int .i64 (n : Int)) (.int .i64 (n : Int))).run Try.prog w = .ok (.slice (some ⟨w.heap.size, 0, none⟩) n n) (w.alloc (.cells (madeCells #[.int .i64 0] n) 3)) :=
  run_make_row' 25 3 (.int .i64 0) 8 Try.underlying25 (by kernel_rfl) rfl .i64 .i64 n (by omega) (by omega) w
theorem own_made {w : World} {lo : Nat} (n : Nat) (hn : n ≤ 1048576) (hlo : lo ≤ w.heap.size) : OwnInts (w.alloc (.cells (madeCells #[.int .i64 0] n) 3)) lo (.slice (some ⟨w.heap.size, 0, none⟩) n n) (listN n (fun _ => 0)) := by
  have hm : n ≤ maxLen := by have : 1048576 ≤ maxLen := by decide
                             omega
  refine ⟨by simp [listN_len], .inr ⟨w.heap.size, n, madeCells #[.int .i64 0] n, by rw [listN_len], hlo, World.alloc_heap_new w _, by rw [listN_len]; exact Nat.le_refl _, hm, by simp [size_madeCells], ?_⟩⟩
  rw [toList_madeCells_one, listN_len]
  simp [listN]
  exact (List.eq_replicate_iff.2 ⟨by simp, by simp⟩).symm

/-- So they are marked. -/
def mmarks (q : Int) (n : Nat) : List ArmD := (List.range n).map (fun i : Nat => ⟨q + (i : Int) * 2, q + (i : Int) * 2 + 1⟩)
theorem mmarks_len (q : Int) (n : Nat) : (mmarks q n).length = n := by simp [mmarks]
theorem mmarks_at (q : Int) {n i : Nat} (h : i < n) : (mmarks q n)[i]? = some ⟨q + (i : Int) * 2, q + (i : Int) * 2 + 1⟩ := by simp [mmarks, h]

theorem eqMove_same (a b : Int) (w : World) :
    Calls Try.prog 41 #[.agg #[.int .i64 a, .int .i64 b], .agg #[.int .i64 a, .int .i64 b]] w fun e w' => GivesTrue w e w' := by
  have na : (a != a) = false := by simp
  have nb : (b != b) = false := by simp
  go_enter Try.func41, Try.ntmps41
  go_wp2
  go_ret
  exact ⟨rfl, by repeat (first | exact Below.refl _ _ | apply Below.drew | refine Below.alloc ?_ (by simp <;> omega) _ | refine Below.setCell ?_ (by simp <;> omega) _)⟩

set_option maxHeartbeats 4000000 in
theorem eqMoveS_same (va vb : Value) (l : List ArmD) (w : World) (ha : MovesAt w va l) (hb : MovesAt w vb l) :
    Calls Try.prog 24 #[va, vb] w fun e w' => GivesTrue w e w' := by
  obtain ⟨aa, ca, rfl, hm, hca⟩ := ha
  obtain ⟨ab, cb, rfl, _, hcb⟩ := hb
  obtain ⟨n, HN⟩ : ∃ n, Hid (l.length = n) := ⟨_, rfl⟩
  rw [HN.out] at hm hca hcb ⊢
  have HA : Hid (0 < n → ∃ b off, aa = some ⟨b, off, none⟩ ∧ 0 ≤ b ∧ ∀ i x, l[i]? = some x → ArmAt w b (off + i * 2) x) := hca
  have HB : Hid (0 < n → ∃ b off, ab = some ⟨b, off, none⟩ ∧ 0 ≤ b ∧ ∀ i x, l[i]? = some x → ArmAt w b (off + i * 2) x) := hcb
  clear hca hcb
  have hne : ((n : Int) != (n : Int)) = false := by simp
  go_enter Try.func24, Try.ntmps24
  go_wp2
  go_loopw [5] (fun i wr => ∃ k : Nat, k ≤ n ∧ i = .int .i64 k ∧ Below w.heap.size w wr) (fun i _ => n - (intOf i).toNat)
  case atStart => exact ⟨0, Nat.zero_le _, rfl, Below.refl _ _⟩
  case round =>
    obtain ⟨k, hk, rfl, hb3⟩ := hrel
    have H1 : Hid (Below w.heap.size w wr) := hb3
    clear hb3
    by_cases hlt : (k : Int) < (n : Int)
    · obtain ⟨b, off, rfl, _, hc1⟩ := HA.out (by omega)
      obtain ⟨b', off', rfl, _, hc2⟩ := HB.out (by omega)
      have hkl : k < l.length := by have := HN.out; omega
      obtain ⟨x, HX⟩ : ∃ x, Hid (l[k]? = some x) := ⟨l[k], List.getElem?_eq_getElem hkl⟩
      obtain ⟨c0, c1⟩ := (hc1 k x HX.out).keep (Keeps.of_below H1.out 0) (Nat.zero_le _)
      obtain ⟨d0, d1⟩ := (hc2 k x HX.out).keep (Keeps.of_below H1.out 0) (Nat.zero_le _)
      clear hc1 hc2 hkl
      obtain ⟨x0, x1⟩ := x
      go_wp2
      go_region_with (go_at_call 41; refine (eqMove_same x0 x1 _).mono ?_; rintro e w1 ⟨rfl, b1⟩)
      all_goals
        go_wp2
        go_roundw
        case rel => exact ⟨k + 1, by omega, by go_num, by first | exact Bel.after H1.out.drew (by assumption) | exact Bel.after H1.out (by assumption)⟩
        case measure => simp [intOf]; omega
    · go_wp2
      go_ret
      exact ⟨rfl, H1.out⟩

set_option maxHeartbeats 2000000 in
theorem markMoveS_apart (lo : Nat) (v : Value) (l : List ArmD) (q : Int) (w : World) (hr : OwnMoves w lo v l) (hlo : lo ≤ w.heap.size) (hq : 0 ≤ q) (hq2 : q + l.length * 2 ≤ 9223372036854775807) :
    Calls Try.prog 27 #[v, .int .i64 q] w fun e w' => e = .returned (.int .i64 (q + l.length * 2)) ∧ Below lo w w' ∧ MovesAt w' v (mmarks q l.length) ∧ ∀ b, v.ownBlock ≠ some b → w'.heap[b]? = w.heap[b]? := by
  have hs := hr.small
  have hmx : l.length ≤ 9223372036854775807 := by
    have : maxLen ≤ 9223372036854775807 := by decide
    omega
  obtain ⟨a, cap, rfl, hc⟩ := hr.row
  obtain ⟨n, HN⟩ : ∃ n, Hid (l.length = n) := ⟨_, rfl⟩
  rw [HN.out] at hmx hq2 hc ⊢
  have HC : Hid (0 < n → ∃ g, a = some ⟨g, 0, none⟩ ∧ lo ≤ g ∧ g < w.heap.size ∧ (∀ i x, l[i]? = some x → ArmAt w g (i * 2) x) ∧ ∀ i, w.frozen? ⟨g, i, none⟩ = false) := hc
  clear hc hr hs
  go_enter Try.func27, Try.ntmps27
  go_wp2
  go_loopw [1, 5] (fun kv i wr => ∃ k : Nat, k ≤ n ∧ i = .int .i64 k ∧ kv = .int .i64 (q + k * 2) ∧ Below lo w wr ∧ (∀ b, (Value.slice a n cap).ownBlock ≠ some b → wr.heap[b]? = w.heap[b]?) ∧ ∀ g, a = some ⟨g, 0, none⟩ → ((∀ j : Nat, j < k * 2 → wr.cell? ⟨g, j, none⟩ = some (.int .i64 (q + j))) ∧ (∀ j : Nat, k * 2 ≤ j → j < n * 2 → ∃ x, wr.cell? ⟨g, j, none⟩ = some (.int .i64 x)) ∧ (∀ j : Nat, j < n * 2 → wr.frozen? ⟨g, j, none⟩ = false))) (fun _ i _ => n - (intOf i).toNat)
  case atStart =>
    refine ⟨0, Nat.zero_le _, rfl, by go_num, Below.refl _ _, fun _ _ => rfl, fun g hg => ⟨fun j hj => absurd hj (by omega), fun j _ hj => ?_, fun j hj => ?_⟩⟩
    · obtain ⟨g', e, _, _, h1, _⟩ := HC.out (by omega)
      rw [hg] at e
      cases e
      obtain ⟨x, hx⟩ : ∃ x, l[j / 2]? = some x := ⟨_, List.getElem?_eq_getElem (by have := HN.out; omega)⟩
      obtain ⟨y0, y1⟩ := h1 (j / 2) x hx
      rcases Nat.mod_two_eq_zero_or_one j with h | h
      · rw [show j / 2 * 2 = j by omega] at y0
        exact ⟨_, y0⟩
      · rw [show j / 2 * 2 + 1 = j by omega] at y1
        exact ⟨_, y1⟩
    · obtain ⟨g', e, _, _, _, h2⟩ := HC.out (by omega)
      rw [hg] at e
      cases e
      exact h2 j
  case round =>
    obtain ⟨k, hk, rfl, rfl, hfr, hfo, hdone⟩ := hrel
    have H1 : Hid (Below lo w wr) := hfr
    have H0 : Hid (∀ b, (Value.slice a n cap).ownBlock ≠ some b → wr.heap[b]? = w.heap[b]?) := hfo
    have H2 : Hid (∀ g, a = some ⟨g, 0, none⟩ → ((∀ j : Nat, j < k * 2 → wr.cell? ⟨g, j, none⟩ = some (.int .i64 (q + j))) ∧ (∀ j : Nat, k * 2 ≤ j → j < n * 2 → ∃ x, wr.cell? ⟨g, j, none⟩ = some (.int .i64 x)) ∧ (∀ j : Nat, j < n * 2 → wr.frozen? ⟨g, j, none⟩ = false))) := hdone
    clear hfr hfo hdone
    by_cases hlt2 : (k : Int) < (n : Int)
    · obtain ⟨g, rfl, hg, _⟩ := HC.out (by omega)
      obtain ⟨K1, K2, K3⟩ := H2.out g rfl
      obtain ⟨x0, c0⟩ := K2 (k * 2) (Nat.le_refl _) (by omega)
      obtain ⟨x1, c1⟩ := K2 (k * 2 + 1) (by omega) (by omega)
      have f0 := K3 (k * 2) (by omega)
      have f1 := K3 (k * 2 + 1) (by omega)
      have K1' : Hid (∀ j : Nat, j < k * 2 → wr.cell? ⟨g, j, none⟩ = some (.int .i64 (q + j))) := K1
      have K2' : Hid (∀ j : Nat, k * 2 ≤ j → j < n * 2 → ∃ x, wr.cell? ⟨g, j, none⟩ = some (.int .i64 x)) := K2
      have K3' : Hid (∀ j : Nat, j < n * 2 → wr.frozen? ⟨g, j, none⟩ = false) := K3
      have C0 : Hid (wr.cell? ⟨g, k * 2, none⟩ = some (.int .i64 x0)) := c0
      have C1 : Hid (wr.cell? ⟨g, k * 2 + 1, none⟩ = some (.int .i64 x1)) := c1
      clear K1 K2 K3
      go_wp2
      go_roundw
      case rel =>
        refine ⟨k + 1, by omega, by go_num, by go_num, (H1.out.setCell (p := ⟨g, k * 2, none⟩) hg _).setCell (p := ⟨g, k * 2 + 1, none⟩) hg _, fun b hb => ?_, fun g' e => ?_⟩
        · rw [Below.heap_setCell _ _ _ b (by show b ≠ g; intro e; exact hb (by rw [e]; rfl)), Below.heap_setCell _ _ _ b (by show b ≠ g; intro e; exact hb (by rw [e]; rfl))]
          exact H0.out b hb
        cases e
        refine ⟨fun j hj => ?_, fun j hj hj2 => ?_, fun j hj => ?_⟩
        · by_cases hj1 : j = k * 2 + 1
          · subst hj1
            rw [World.cell?_setCell_same _ _ _ ((World.cell?_setCell_other _ _ _ _ (by simp)).trans C1.out)]
            congr 2
            omega
          · rw [World.cell?_setCell_other _ _ _ _ (by simp <;> omega)]
            by_cases hjk : j = k * 2
            · subst hjk
              rw [World.cell?_setCell_same _ _ _ C0.out]
              congr 2
            · rw [World.cell?_setCell_other _ _ _ _ (by simp <;> omega)]
              exact K1'.out j (by omega)
        · rw [World.cell?_setCell_other _ _ _ _ (by simp <;> omega), World.cell?_setCell_other _ _ _ _ (by simp <;> omega)]
          exact K2'.out j (by omega) hj2
        · simpa using K3'.out j hj
      case measure => simp [intOf]; omega
    · have hkn : k = n := by omega
      subst hkn
      go_wp2
      go_ret
      refine ⟨rfl, H1.out, ⟨a, cap, by rw [mmarks_len], by rw [mmarks_len]; exact hmx, fun hp => ?_⟩, H0.out⟩
      rw [mmarks_len] at hp
      obtain ⟨g, rfl, _⟩ := HC.out hp
      refine ⟨g, 0, rfl, Nat.zero_le _, fun i x hx => ?_⟩
      have hi : i < k := by have := (List.getElem?_eq_some_iff.1 hx).1; rw [mmarks_len] at this; exact this
      rw [mmarks_at q hi] at hx
      cases hx
      have h1 := (H2.out g rfl).1 (i * 2) (by omega)
      have h2 := (H2.out g rfl).1 (i * 2 + 1) (by omega)
      refine ⟨?_, ?_⟩
      · rw [Nat.zero_add, h1]
        congr 2
      · rw [Nat.zero_add, h2]
        congr 2
        show _ = q + (i : Int) * 2 + 1
        omega

set_option maxHeartbeats 2000000 in
theorem heldMoveS_any (v : Value) (n : Nat) (q : Int) (w : World) (hr : MovesAt w v (mmarks q n)) (hq : 0 ≤ q) (hq2 : q + n * 2 ≤ 9223372036854775807) :
    Calls Try.prog 30 #[v, .int .i64 q] w fun e w' => e = .returned (.int .i64 (q + n * 2)) ∧ w' = w := by
  obtain ⟨a, cap, rfl, hm, hc⟩ := hr
  rw [mmarks_len] at hm hc ⊢
  have HC : Hid (0 < n → ∃ b off, a = some ⟨b, off, none⟩ ∧ 0 ≤ b ∧ ∀ i x, (mmarks q n)[i]? = some x → ArmAt w b (off + i * 2) x) := hc
  clear hc
  go_enter Try.func30, Try.ntmps30
  go_wp2
  go_loop [1, 5] (fun kv i => ∃ k : Nat, k ≤ n ∧ i = .int .i64 k ∧ kv = .int .i64 (q + k * 2)) (fun _ i => n - (intOf i).toNat)
  case atStart => exact ⟨0, Nat.zero_le _, rfl, by go_num⟩
  case round =>
    obtain ⟨k, hk, rfl, rfl⟩ := hrel
    by_cases hlt2 : (k : Int) < (n : Int)
    · obtain ⟨b, off, rfl, _, hc1⟩ := HC.out (by omega)
      obtain ⟨q1, q2⟩ := hc1 k _ (mmarks_at q (by omega))
      dsimp only at q1 q2
      clear hc1
      go_wp2
      go_round
      case rel => exact ⟨k + 1, by omega, by go_num, by go_num⟩
      case measure => simp [intOf]; omega
    · have hkn : k = n := by omega
      subst hkn
      go_wp2
      go_ret
      exact ⟨rfl, rfl⟩

/-- The first k of l, then noughts. -/
def partL (l : List Int) (k : Nat) : Nat → Int := fun i => if i < k then l.getD i 0 else 0
theorem partL_next (l : List Int) (k : Nat) : updN (partL l k) k (l.getD k 0) = partL l (k + 1) := by
  funext i
  unfold updN partL
  by_cases h : i = k
  · subst h
    simp
  · by_cases h2 : i < k
    · have : i < k + 1 := by omega
      simp [h, h2, this]
    · have : ¬ i < k + 1 := by omega
      simp [h, h2, this]
theorem partL_all (l : List Int) : listN l.length (partL l l.length) = l := by
  apply List.ext_getElem?
  intro i
  by_cases hi : i < l.length
  · simp [listN, partL, hi, List.getD]
  · rw [List.getElem?_eq_none (by simp [listN]; omega), List.getElem?_eq_none (by omega)]
theorem getD_take {l : List Int} {n i : Nat} (h : i < n) : (l.take n).getD i 0 = l.getD i 0 := by
  rw [List.getD_eq_getElem?_getD, List.getD_eq_getElem?_getD, List.getElem?_take]
  simp [h]

set_option maxHeartbeats 2000000 in
theorem toIntS_any (a : Option Addr) (len cap : Nat) (zs : List Int) (w : World) (h : IsRow .i64 w a len cap zs) (hl : len ≤ 1048576) :
    Calls Try.prog 25 #[.slice a len cap] w fun e w' => GivesOwn w (zs.take len) e w' := by
  obtain ⟨L, HL⟩ : ∃ L, Hid (zs.take len = L) := ⟨_, rfl⟩
  have HLN : Hid (L.length = len) := by
    show L.length = len
    rw [← HL.out, List.length_take]
    rcases h with ⟨_, h1, _, h2⟩ | ⟨_, _, h1, _, h2, _⟩
    · rw [h2, h1]; rfl
    · omega
  have HC : Hid (0 < len → ∃ x, a = some x ∧ x.block < w.heap.size ∧ ∀ i, i < len → w.cell? (x.add i) = some (.int .i64 (L.getD i 0))) := fun h0 => by
    rcases h with ⟨_, h1, _⟩ | ⟨x, h1, h2, h3, h4, h5, _⟩
    · omega
    · have h6 : ∀ i, i < len → w.cell? (x.add i) = some (.int .i64 (L.getD i 0)) := fun i hi => by
        rw [← HL.out, getD_take hi]
        exact h5 i (by omega)
      refine ⟨x, h1, ?_, h6⟩
      have := World.block_lt_of_cell? w _ (h6 0 h0)
      rw [add_block] at this
      exact this
  rw [HL.out]
  clear h
  go_enter Try.func25, Try.ntmps25
  have mk := make_ints len hl w
  go_wp2_with fail
  have O1 : Hid (OwnInts (w.alloc (.cells (madeCells #[.int .i64 0] len) 3)) w.heap.size (.slice (some ⟨w.heap.size, 0, none⟩) len len) (listN len (partL L 0))) := own_made len hl (Nat.le_refl _)
  have B1 : Hid (Below w.heap.size w (w.alloc (.cells (madeCells #[.int .i64 0] len) 3))) := Bel.alloc _ _
  clear mk
  generalize w.alloc (.cells (madeCells #[.int .i64 0] len) 3) = w1 at O1 B1 ⊢
  obtain ⟨G, HG⟩ : ∃ G, Hid (w.heap.size = G) := ⟨_, rfl⟩
  rw [HG.out] at O1 ⊢
  go_loopw [4] (fun i wr => ∃ k : Nat, k ≤ len ∧ i = .int .i64 (k : Int) ∧ OwnInts wr G (.slice (some ⟨G, 0, none⟩) len len) (listN len (partL L k)) ∧ Below w.heap.size w wr) (fun i _ => len - (intOf i).toNat)
  case atStart => exact ⟨0, Nat.zero_le _, rfl, O1.out, B1.out⟩
  case round =>
    obtain ⟨k, hk, rfl, ho, hb⟩ := hrel
    have HO : Hid (OwnInts wr G (.slice (some ⟨G, 0, none⟩) len len) (listN len (partL L k))) := ho
    have HB : Hid (Below w.heap.size w wr) := hb
    by_cases hlt : (k : Int) < (len : Int)
    · have hkl : k < len := by omega
      obtain ⟨x, rfl, hxb, hx⟩ := HC.out (by omega)
      have c1 := Bel.keeps hb (hx k hkl)
      have c2 := OwnInts.cellAt ho hkl
      have fz := frozen_of_cells ho.heapOf k
      clear ho hb hx
      go_wp2_with fail
      go_roundw
      case rel =>
        refine ⟨k + 1, by omega, by go_num, ?_, HB.out.setCell (p := ⟨G, k, none⟩) (by show w.heap.size ≤ G; rw [HG.out]; exact Nat.le_refl _) _⟩
        have h9 := OwnInts.setAt HO.out hkl (L.getD k 0)
        rw [listN_set, partL_next] at h9
        exact h9
      case measure => simp [intOf]; omega
    · have hkl : k = len := by omega
      subst hkl
      clear ho hb
      go_wp2_with fail
      go_ret
      refine ⟨_, rfl, ?_, HB.out⟩
      have h9 := HO.out
      have h8 := partL_all L
      rw [HLN.out] at h8
      rw [h8] at h9
      rw [HG.out]
      exact h9

theorem IsRow.after {k : IntKind} {w w' : World} {a : Option Addr} {len cap : Nat} {zs : List Int} (h : IsRow k w a len cap zs) (hb : Below w.heap.size w w') : IsRow k w' a len cap zs := by
  rcases h with h | ⟨x, h1, h2, h3, h4, h5, h6⟩
  · exact .inl h
  · exact .inr ⟨x, h1, h2, h3, h4, fun i hi => Bel.keeps hb (h5 i hi), h6⟩

set_option maxHeartbeats 1000000 in
theorem markIntS_apart (lo : Nat) (v : Value) (l : List Int) (q : Int) (w : World) (hr : OwnInts w lo v l) (hlo : lo ≤ w.heap.size) (hq : 0 ≤ q) (hq2 : q + l.length ≤ 9223372036854775807) :
    Calls Try.prog 28 #[v, .int .i64 q] w fun e w' => e = .returned (.int .i64 (q + l.length)) ∧ Below lo w w' ∧ IntsAt w' v (marks q l.length) ∧ ∀ b, v.ownBlock ≠ some b → w'.heap[b]? = w.heap[b]? := by
  have hs := hr.small
  have hmx : l.length ≤ 9223372036854775807 := by
    have : maxLen ≤ 9223372036854775807 := by decide
    omega
  obtain ⟨a, cap, rfl, hc⟩ := hr.row
  obtain ⟨n, HN⟩ : ∃ n, Hid (l.length = n) := ⟨_, rfl⟩
  rw [HN.out] at hmx hq2 hc ⊢
  have HC : Hid (0 < n → ∃ g, a = some ⟨g, 0, none⟩ ∧ lo ≤ g ∧ g < w.heap.size ∧ (∀ i, i < n → w.cell? ⟨g, i, none⟩ = some (.int .i64 (l.getD i 0))) ∧ ∀ i, w.frozen? ⟨g, i, none⟩ = false) := hc
  clear hc hr hs
  go_enter Try.func28, Try.ntmps28
  go_wp2
  go_loopw [1, 5] (fun kv i wr => ∃ k : Nat, k ≤ n ∧ i = .int .i64 k ∧ kv = .int .i64 (q + k) ∧ Below lo w wr ∧ (∀ b, (Value.slice a n cap).ownBlock ≠ some b → wr.heap[b]? = w.heap[b]?) ∧ ∀ g, a = some ⟨g, 0, none⟩ → ((∀ j, j < k → wr.cell? ⟨g, j, none⟩ = some (.int .i64 (q + j))) ∧ (∀ j, k ≤ j → j < n → ∃ x, wr.cell? ⟨g, j, none⟩ = some (.int .i64 x)) ∧ (∀ j, j < n → wr.frozen? ⟨g, j, none⟩ = false))) (fun _ i _ => n - (intOf i).toNat)
  case atStart =>
    refine ⟨0, Nat.zero_le _, rfl, by go_num, Below.refl _ _, fun _ _ => rfl, fun g hg => ⟨fun j hj => absurd hj (by omega), fun j _ hj => ?_, fun j hj => ?_⟩⟩
    · obtain ⟨g', e, _, _, h1, _⟩ := HC.out (by omega)
      rw [hg] at e
      cases e
      exact ⟨_, h1 j hj⟩
    · obtain ⟨g', e, _, _, _, h2⟩ := HC.out (by omega)
      rw [hg] at e
      cases e
      exact h2 j
  case round =>
    obtain ⟨k, hk, rfl, rfl, hfr, hfo, hdone⟩ := hrel
    have H1 : Hid (Below lo w wr) := hfr
    have H0 : Hid (∀ b, (Value.slice a n cap).ownBlock ≠ some b → wr.heap[b]? = w.heap[b]?) := hfo
    have H2 : Hid (∀ g, a = some ⟨g, 0, none⟩ → ((∀ j, j < k → wr.cell? ⟨g, j, none⟩ = some (.int .i64 (q + j))) ∧ (∀ j, k ≤ j → j < n → ∃ x, wr.cell? ⟨g, j, none⟩ = some (.int .i64 x)) ∧ (∀ j, j < n → wr.frozen? ⟨g, j, none⟩ = false))) := hdone
    clear hfr hfo hdone
    by_cases hlt2 : (k : Int) < (n : Int)
    · obtain ⟨g, rfl, hg, _⟩ := HC.out (by omega)
      obtain ⟨K1, K2, K3⟩ := H2.out g rfl
      obtain ⟨x, q1⟩ := K2 k (Nat.le_refl _) (by omega)
      have q2 := K3 k (by omega)
      have K1' : Hid (∀ j, j < k → wr.cell? ⟨g, j, none⟩ = some (.int .i64 (q + j))) := K1
      have K2' : Hid (∀ j, k ≤ j → j < n → ∃ x, wr.cell? ⟨g, j, none⟩ = some (.int .i64 x)) := K2
      have K3' : Hid (∀ j, j < n → wr.frozen? ⟨g, j, none⟩ = false) := K3
      clear K1 K2 K3
      go_wp2
      go_roundw
      case rel =>
        refine ⟨k + 1, by omega, by go_num, by go_num, H1.out.setCell (p := ⟨g, k, none⟩) hg _, fun b hb => ?_, fun g' e => ?_⟩
        · rw [Below.heap_setCell _ _ _ b (by show b ≠ g; intro e; exact hb (by rw [e]; rfl))]
          exact H0.out b hb
        · cases e
          refine ⟨fun j hj => ?_, fun j hj hj2 => ?_, fun j hj => ?_⟩
          · by_cases hjk : j = k
            · subst hjk
              exact World.cell?_setCell_same _ _ _ q1
            · rw [World.cell?_setCell_other _ _ _ _ (by simp <;> omega)]
              exact K1'.out j (by omega)
          · rw [World.cell?_setCell_other _ _ _ _ (by simp <;> omega)]
            exact K2'.out j (by omega) hj2
          · simpa using K3'.out j hj
      case measure => simp [intOf]; omega
    · have hkn : k = n := by omega
      subst hkn
      go_wp2
      go_ret
      refine ⟨rfl, H1.out, ⟨a, cap, by rw [marks_len], by rw [marks_len]; exact hmx, fun hp => ?_⟩, H0.out⟩
      rw [marks_len] at hp
      obtain ⟨g, rfl, _⟩ := HC.out hp
      refine ⟨g, 0, rfl, fun i hi => ?_⟩
      rw [marks_len] at hi
      rw [marks_at _ _ _ hi]
      simpa using (H2.out g rfl).1 i hi

/-- What lies elsewhere, behind marks in a list of numbers. -/
theorem OwnInts.apartM {w w' : World} {lo : Nat} {v u : Value} {l : List Int} (h : OwnInts w lo u l) (hb : ∀ b, v.ownBlock ≠ some b → w'.heap[b]? = w.heap[b]?) (hne : ∀ b, v.ownBlock = some b → u.ownBlock = some b → False) : OwnInts w' lo u l := by
  obtain ⟨h0, h1⟩ := h
  refine ⟨h0, ?_⟩
  rcases h1 with h1 | ⟨g, cap, cur, rfl, hlo, hg, h2⟩
  · exact .inl h1
  · exact .inr ⟨g, cap, cur, rfl, hlo, (hb g (fun e => hne g e rfl)).trans hg, h2⟩


theorem OwnMoves.apartM {w w' : World} {lo : Nat} {v u : Value} {l : List ArmD} (h : OwnMoves w lo u l) (hb : ∀ b, v.ownBlock ≠ some b → w'.heap[b]? = w.heap[b]?) (hne : ∀ b, v.ownBlock = some b → u.ownBlock = some b → False) : OwnMoves w' lo u l := by
  obtain ⟨h0, h1⟩ := h
  refine ⟨h0, ?_⟩
  rcases h1 with h1 | ⟨g, cap, cur, rfl, hlo, hg, h2⟩
  · exact .inl h1
  · exact .inr ⟨g, cap, cur, rfl, hlo, (hb g (fun e => hne g e rfl)).trans hg, h2⟩
theorem IntsAt.apartM {w w' : World} {v u : Value} {l : List Int} (h : IntsAt w u l) (hb : ∀ b, v.ownBlock ≠ some b → w'.heap[b]? = w.heap[b]?) (hne : ∀ b, v.ownBlock = some b → u.ownBlock = some b → False) : IntsAt w' u l := by
  obtain ⟨a, cap, rfl, hm, hc⟩ := h
  refine ⟨a, cap, rfl, hm, fun hp => ?_⟩
  obtain ⟨b, off, rfl, hd⟩ := hc hp
  exact ⟨b, off, rfl, fun i hi => by rw [World.cell?_of_block (hb b (fun e => hne b e rfl))]; exact hd i hi⟩
theorem OwnInts.lt {w : World} {b : Nat} {v : Value} {l : List Int} (h : OwnInts w b v l) : ∀ g, v.ownBlock = some g → b ≤ g ∧ g < w.heap.size := World.ownsRow.lt h
theorem OwnMoves.heapOf {w : World} {lo g n cap : Nat} {l : List ArmD} (h : OwnMoves w lo (.slice (some ⟨g, 0, none⟩) n cap) l) : ∃ c, w.heap[g]? = some (.cells c 44 (0, 0)) := by
  rcases h.2 with ⟨h0, _⟩ | ⟨g', cap', cur, h0, _, hg, _⟩
  · cases h0
  · cases h0
    exact ⟨cur, hg⟩

theorem make_of {P : Program} {t e : TypeId} {z : Value} {size bytes : Nat} (ht : P.underlying t = some (.slice e)) (hi : (P.info? e).map (fun i => (i.zero, i.size, i.bytes)) = some (some z, size, bytes)) (n : Nat) (hn : bytes * n ≤ 281474976710656) (hn2 : n ≤ 9223372036854775807) (w : World) :
    (Instr.makeSlice t (.int .i64 (n : Int)) (.int .i64 (n : Int))).run P w = .ok (.slice (some ⟨w.heap.size, 0, none⟩) n n) (w.alloc (.cells (madeCells z.cells (n * size)) e)) := by
  obtain ⟨i, h1, h2, h3, h4⟩ := info_parts hi
  have hb : ((i.bytes : Nat) : Int) * (n : Int) ≤ 281474976710656 := by
    rw [h4]
    have : ((bytes * n : Nat) : Int) ≤ 281474976710656 := by omega
    rwa [Int.natCast_mul] at this
  have h := run_make (P := P) w t e i z ht h1 h2 .i64 .i64 (n : Int) (n : Int) (by omega) (by omega) hb (by omega)
  simpa [h3] using h
theorem make_moves (n : Nat) (hn : n ≤ 1048576) (w : World) :
    (Instr.makeSlice 24 (.int .i64 (n : Int)) (.int .i64 (n : Int))).run Try.prog w = .ok (.slice (some ⟨w.heap.size, 0, none⟩) n n) (w.alloc (.cells (madeCells #[.int .i64 0, .int .i64 0] (n * 2)) 44)) :=
  make_of (z := .agg #[.int .i64 0, .int .i64 0]) (size := 2) (bytes := 16) Try.underlying24 info_move n (by omega) (by omega) w

/-- Block G is a row of m cells of moves that can be written. -/
def MBlk (w : World) (G m : Nat) : Prop := ∃ cur : Array Value, w.heap[G]? = some (.cells cur 44 (0, 0)) ∧ cur.size = m
theorem MBlk.keep {w w' : World} {G m : Nat} (h : MBlk w G m) (hb : Below w.heap.size w w') : MBlk w' G m := by
  obtain ⟨cur, h1, h2⟩ := h
  exact ⟨cur, (hb.block G (Array.getElem?_eq_some_iff.1 h1).1).trans h1, h2⟩
theorem MBlk.cell {w : World} {G m : Nat} (h : MBlk w G m) {j : Nat} (hj : j < m) : (∃ v, w.cell? ⟨G, j, none⟩ = some v) ∧ w.frozen? ⟨G, j, none⟩ = false := by
  obtain ⟨cur, h1, h2⟩ := h
  refine ⟨⟨cur[j]'(by omega), ?_⟩, by simp [World.frozen?, h1]⟩
  simp [World.cell?, h1]
theorem MBlk.set {w : World} {G m : Nat} (h : MBlk w G m) (j : Nat) (v : Value) : MBlk (w.setCell ⟨G, j, none⟩ v) G m := by
  obtain ⟨cur, h1, h2⟩ := h
  exact ⟨_, heap_setCell_same _ _ _ _ _ _ h1, by simpa using h2⟩
theorem MBlk.made (w : World) (z : Array Value) (m : Nat) : MBlk (w.alloc (.cells (madeCells z m) 44)) w.heap.size m := ⟨_, World.alloc_heap_new w _, size_madeCells z m⟩
theorem ownMoves_of {w : World} {lo G n : Nat} {l : List ArmD} (h : MBlk w G (n * 2)) (hl : l.length = n) (hn : n ≤ maxLen) (hlo : lo ≤ G) (hc : ∀ i x, l[i]? = some x → ArmAt w G (i * 2) x) : OwnMoves w lo (.slice (some ⟨G, 0, none⟩) n n) l := by
  obtain ⟨cur, h1, h2⟩ := h
  subst hl
  refine ⟨moveC_len l, .inr ⟨G, l.length, cur, rfl, hlo, h1, Nat.le_refl _, hn, h2, ?_⟩⟩
  apply List.ext_getElem?
  intro j
  by_cases hj : j < l.length * 2
  · rw [List.getElem?_take_of_lt hj]
    obtain ⟨x, hx⟩ : ∃ x, l[j / 2]? = some x := ⟨_, List.getElem?_eq_getElem (by omega)⟩
    obtain ⟨c0, c1⟩ := hc _ _ hx
    obtain ⟨m0, m1⟩ := moveC_at l hx
    have hcell : ∀ i, w.cell? ⟨G, i, none⟩ = cur.toList[i]? := fun i => by simp [World.cell?, h1]
    rcases Nat.mod_two_eq_zero_or_one j with h | h
    · rw [show j / 2 * 2 = j by omega] at c0 m0
      rw [m0, ← hcell]
      exact c0
    · rw [show j / 2 * 2 + 1 = j by omega] at c1 m1
      rw [m1, ← hcell]
      exact c1
  · rw [List.getElem?_eq_none (by rw [List.length_take]; omega), List.getElem?_eq_none (by rw [moveC_len]; omega)]

theorem toMove_any (a b : Int) (w : World) :
    Calls Try.prog 40 #[.agg #[.int .i64 a, .int .i64 b]] w fun e w' => e = .returned (.agg #[.int .i64 a, .int .i64 b]) ∧ Below w.heap.size w w' := by
  go_enter Try.func40, Try.ntmps40
  go_wp2
  refine bodyPost_ret (v := .agg #[.int .i64 a, .int .i64 b]) (by simp [results, Try.results40, go_sem]) rfl ?_
  exact ⟨rfl, by repeat (first | exact Below.refl _ _ | apply Below.drew | refine Below.alloc ?_ (by simp <;> omega) _ | refine Below.setCell ?_ (by simp <;> omega) _)⟩

/-- A cell aside from the one that is written. -/
theorem cell_aside {w : World} {b o o' : Nat} {u v : Value} (h : w.cell? ⟨b, o, none⟩ = some v) (ho : o' ≠ o) : (w.setCell ⟨b, o', none⟩ u).cell? ⟨b, o, none⟩ = some v := by
  rw [World.cell?_setCell_other _ _ _ _ (by intro h; exact ho (by simpa using congrArg (fun (x : Addr) => x.off) h))]
  exact h
theorem cell_there {w : World} {b o : Nat} {u v : Value} (h : w.cell? ⟨b, o, none⟩ = some v) : (w.setCell ⟨b, o, none⟩ u).cell? ⟨b, o, none⟩ = some u := World.cell?_setCell_same _ _ _ h
theorem ArmAt.store {w : World} {b o : Nat} {x : ArmD} (h : ArmAt w b o x) (o' : Nat) (u : Value) (ho : o' < o ∨ o + 2 ≤ o') : ArmAt (w.setCell ⟨b, o', none⟩ u) b o x :=
  ⟨cell_aside h.1 (by omega), cell_aside h.2 (by omega)⟩
theorem arm_put {w : World} {b o : Nat} {x0 x1 : Int} {u0 u1 : Value} (h0 : w.cell? ⟨b, o, none⟩ = some u0) (h1 : w.cell? ⟨b, o + 1, none⟩ = some u1) : ArmAt ((w.setCell ⟨b, o, none⟩ (.int .i64 x0)).setCell ⟨b, o + 1, none⟩ (.int .i64 x1)) b o ⟨x0, x1⟩ :=
  ⟨cell_aside (cell_there h0) (by omega), cell_there (cell_aside h1 (by omega))⟩


set_option maxHeartbeats 2000000 in
theorem toMoveS_any (v : Value) (l : List ArmD) (w : World) (ha : MovesAt w v l) (hs : l.length ≤ 1048576) :
    Calls Try.prog 23 #[v] w fun e w' => GivesMoves w l e w' := by
  obtain ⟨a, cap, rfl, hm, hc⟩ := ha
  obtain ⟨n, HN⟩ : ∃ n, Hid (l.length = n) := ⟨_, rfl⟩
  rw [HN.out] at hm hc hs ⊢
  have HC : Hid (0 < n → ∃ b off, a = some ⟨b, off, none⟩ ∧ 0 ≤ b ∧ ∀ i x, l[i]? = some x → ArmAt w b (off + i * 2) x) := hc
  clear hc
  have hmk := make_moves n hs w
  go_enter Try.func23, Try.ntmps23
  go_wp2
  have HO : Hid (MBlk (w.alloc (.cells (madeCells #[.int .i64 0, .int .i64 0] (n * 2)) 44)) w.heap.size (n * 2)) := MBlk.made _ _ _
  go_loopw [4] (fun i wr => ∃ k : Nat, k ≤ n ∧ i = .int .i64 k ∧ Below w.heap.size w wr ∧ w.heap.size < wr.heap.size ∧ MBlk wr w.heap.size (n * 2) ∧ ∀ j x, j < k → l[j]? = some x → ArmAt wr w.heap.size (j * 2) x) (fun i _ => n - (intOf i).toNat)
  case atStart => exact ⟨0, Nat.zero_le _, rfl, Bel.alloc _ _, by simp, HO.out, fun j x hj => absurd hj (by omega)⟩
  case round =>
    obtain ⟨k, hk, rfl, hb, hsz, ho, hd⟩ := hrel
    have H1 : Hid (Below w.heap.size w wr) := hb
    have H2 : Hid (MBlk wr w.heap.size (n * 2)) := ho
    have H3 : Hid (∀ j x, j < k → l[j]? = some x → ArmAt wr w.heap.size (j * 2) x) := hd
    clear hb ho hd hmk
    by_cases hlt : (k : Int) < (n : Int)
    · obtain ⟨b, off, rfl, _, hc1⟩ := HC.out (by omega)
      have hkl : k < l.length := by have := HN.out; omega
      obtain ⟨x, HX⟩ : ∃ x, Hid (l[k]? = some x) := ⟨l[k], List.getElem?_eq_getElem hkl⟩
      obtain ⟨c0, c1⟩ := (hc1 k x HX.out).keep (Keeps.of_below H1.out 0) (Nat.zero_le _)
      clear hc1 hkl
      obtain ⟨x0, x1⟩ := x
      go_wp2_with fail
      refine (toMove_any x0 x1 _).mono ?_
      rintro e w1 ⟨rfl, b1⟩
      have O1 : Hid (MBlk w1 w.heap.size (n * 2)) := H2.out.keep b1
      have B1 : Hid (Below wr.heap.size wr w1) := b1
      have hsz1 : w.heap.size < w1.heap.size := Nat.lt_of_lt_of_le hsz b1.size
      clear b1
      obtain ⟨⟨u0, q0⟩, f0⟩ := O1.out.cell (j := k * 2) (by omega)
      obtain ⟨⟨u1, q1⟩, f1⟩ := O1.out.cell (j := k * 2 + 1) (by omega)
      go_wp2
      go_roundw
      case rel =>
        refine ⟨k + 1, by omega, by go_num, ((Below.trans H1.out (Below.mono B1.out (Nat.le_of_lt hsz))).setCell (p := ⟨w.heap.size, k * 2, none⟩) (Nat.le_refl _) _).setCell (p := ⟨w.heap.size, k * 2 + 1, none⟩) (Nat.le_refl _) _, by simpa using hsz1, (O1.out.set _ _).set _ _, fun j x hj hx => ?_⟩
        by_cases hjk : j = k
        · subst hjk
          have e := HX.out.symm.trans hx
          simp only [Option.some.injEq] at e
          subst e
          exact arm_put q0 q1
        · exact ((((H3.out j x (by omega) hx).keep (Keeps.of_below B1.out 0) (Nat.zero_le _)).store _ _ (by omega)).store _ _ (by omega))
      case measure => simp [intOf]; omega
    · have hkn : k = n := by omega
      subst hkn
      go_wp2
      go_ret
      refine ⟨_, rfl, ownMoves_of H2.out HN.out (by have : 1048576 ≤ maxLen := by decide
                                                    omega) (Nat.le_refl _) (fun i x hx => H3.out i x ?_ hx), H1.out⟩
      have h1 := HN.out
      have := (List.getElem?_eq_some_iff.1 hx).1
      omega

theorem szMoveS_any (v : Value) (l : List ArmD) (w : World) (ha : MovesAt w v l) :
    Calls Try.prog 22 #[v, .int .i64 1048576] w fun e w' => (∃ r : Int, e = .returned (.int .i64 r) ∧ (0 ≤ r → l.length ≤ 1048576)) ∧ w' = w := by
  obtain ⟨a, cap, rfl, hm, hc⟩ := ha
  clear hc
  obtain ⟨n, HN⟩ : ∃ n, Hid (l.length = n) := ⟨_, rfl⟩
  rw [HN.out] at hm ⊢
  by_cases h : (1048576 : Int) - (n : Int) < 0
  · go_enter Try.func22, Try.ntmps22
    go_wp2
    go_ret
    exact ⟨⟨_, rfl, fun h => by omega⟩, rfl⟩
  · go_enter Try.func22, Try.ntmps22
    go_wp2
    go_ret
    exact ⟨⟨_, rfl, fun h => by omega⟩, rfl⟩

/-- A list of numbers, appended to an empty one. -/
theorem add_ints (lo g : Nat) (v : Value) (l : List Int) (w : World) (hg : w.heap[g]? = some (.cells #[] 3 (0, 0))) (hlo : lo ≤ g) (h : IntsAt w v l) (hn : l.length ≤ 2000000) (ty : TypeId) :
    ∃ v' w', (Builtin.append_ #[25, 25] ty #[.slice (some ⟨g, 0, none⟩) 0 0, v]).run Try.prog w = .ok v' w' ∧ OwnInts w' lo v' l ∧ Below lo w w' ∧ v' ≠ .slice none 0 0 := by
  have hlt : g < w.heap.size := (Array.getElem?_eq_some_iff.1 hg).1
  have hown : w.ownsRow lo 3 1 (.slice (some ⟨g, 0, none⟩) 0 0) 0 [] := ⟨rfl, .inr ⟨g, 0, #[], rfl, hlo, hg, Nat.le_refl _, Nat.zero_le _, rfl, rfl⟩⟩
  obtain ⟨i0, hi, hz0, hz1, hz2⟩ := info_parts info_int
  obtain ⟨a, cap, rfl, hm, hc⟩ := h
  by_cases h0 : l.length = 0
  · have hl0 : l = [] := List.eq_nil_of_length_eq_zero h0
    subst hl0
    refine ⟨.slice (some ⟨g, 0, none⟩) 0 0, w, ?_, hown, Below.refl _ _, by simp⟩
    cases a with
    | none => simp [Builtin.append_, run_underlying Try.underlying25, sizeOf, typeInfo, hi, Builtin.lenOf, Builtin.firstCells, go_sem]
    | some ad => simp [Builtin.append_, run_underlying Try.underlying25, sizeOf, typeInfo, hi, Builtin.lenOf, Builtin.firstCells, go_sem]
  · have hmx : 2000000 ≤ maxLen := by decide
    obtain ⟨b, off, rfl, hE⟩ := hc (by omega)
    obtain ⟨v', w', hrun, ho, hgr, hnil⟩ := run_append_own (P := Try.prog) w lo 25 ty 3 i0 (.int .i64 0) 1 8 Try.underlying25 hi hz0 hz1 hz2 rfl (by decide) (.slice (some ⟨g, 0, none⟩) 0 0) 0 [] hown ⟨b, off, none⟩ l.length cap (l.map (fun x => Value.int .i64 x)) (by simp) (fun j u hu => by
      have hj : j < l.length := by have := (List.getElem?_eq_some_iff.1 hu).1; simpa using this
      rw [addr_add, hE j hj]
      simpa [List.getD, hj] using hu) (by simp [Value.oneCell']) (by omega) (by omega) (by omega)
    refine ⟨v', w', hrun, by simpa [OwnInts] using ho, ownsRow_under hown (by omega) hgr, fun e => ?_⟩
    have := (hnil.1 e).2
    omega
theorem IntsAt.ofRow {w : World} {a : Option Addr} {len cap : Nat} {zs : List Int} (h : IsRow .i64 w a len cap zs) : ∃ l, IntsAt w (.slice a len cap) l ∧ l = zs.take len ∧ l.length = len := by
  rcases h with ⟨rfl, rfl, rfl, rfl⟩ | ⟨x, rfl, hl, hm, hz, hcell, hwz⟩
  · exact ⟨[], ⟨none, 0, rfl, by simp, fun hp => absurd hp (by simp)⟩, rfl, rfl⟩
  · have hlen : (zs.take len).length = len := by rw [List.length_take]; omega
    refine ⟨zs.take len, ⟨some x, cap, by rw [hlen], by rw [hlen]; unfold maxLen at hm; omega, fun hp => ?_⟩, rfl, hlen⟩
    rw [hlen] at hp ⊢
    obtain ⟨b, off, spot⟩ := x
    have hck := hcell 0 (by omega)
    have hspot : spot = none := by simpa [Addr.add] using World.cell?_spot hck
    subst hspot
    refine ⟨b, off, rfl, fun i hi => ?_⟩
    rw [← addr_add, hcell i (by omega), getD_take hi]

theorem cells_int : Try.prog.cellsOf 3 = 1 := by kernel_rfl
theorem cells_lMove : Try.prog.cellsOf 57 = 2 := by kernel_rfl
theorem openMoves {H : Type} {enc : TypeId × Value → H} {w : World} {base : Nat} {spare : Nat → Bool} {held : Bool} {a : Option Addr} {len cap : Nat} {d : DataW H} {p : List MemPlace}
    (h : DataW.Trod enc Try.prog w base spare held 34 (.slice a len cap) d p) : ∃ l, MovesAt w (.slice a len cap) l := by
  obtain ⟨fuel, hf⟩ := h
  exact readList Try.underlying34 cells_lMove (by omega) (fun n cs y b o h hc => by
    obtain ⟨x0, e0, _⟩ := trod_field_int Try.underlying57 Try.underlying3 cells_int h 0 0 rfl
    obtain ⟨x1, e1, _⟩ := trod_field_int Try.underlying57 Try.underlying3 cells_int h 1 1 rfl
    exact ⟨⟨x0, x1⟩, (hc 0 (by omega)).trans e0, (hc 1 (by omega)).trans e1⟩) hf
end Go.Proofs.Ytijihgkhdknkeaa
