/- Lists of lists of flags in memory: compared, marked, held against the marks. -/
import Derived.Test.YtlnpejkahcfkoaaGreatBoolsK
import Derived.Test.YtlnpejkahcfkoaaGreatKMark
import Derived.Deep.RegionWith
import Derived.BigRegion
namespace Go.Proofs.YtlnpejkahcfkoaaGreat
open Go.ChangeShapes Go.WideShapes Go.ChangeAt Go.RowKit Go.Shelf
set_option linter.unusedVariables false

def ApartB (a b : Value) : Prop := ∀ k, a.ownBlock = some k → b.ownBlock ≠ some k
/-- Lists of numbers of the call's own, one for each of n; what leads to them lies in block g. -/
structure OwnBRows (w : World) (lo g n : Nat) (us : Array Value) (ls : Nat → List Bool) : Prop where
  box : w.heap[g]? = some (.cells us 36 (0, 0))
  size : n ≤ us.size
  low : lo ≤ g
  row : ∀ i, i < n → OwnBools w lo (us.getD i (.slice none 0 0)) (ls i)
  apart : ∀ i j, i < n → j < n → i ≠ j → ApartB (us.getD i (.slice none 0 0)) (us.getD j (.slice none 0 0))
theorem OwnBRows.lt {w : World} {lo g n : Nat} {us : Array Value} {ls : Nat → List Bool} (h : OwnBRows w lo g n us ls) : g < w.heap.size := (Array.getElem?_eq_some_iff.1 h.box).1
theorem OwnBRows.keep {w w' : World} {lo g n : Nat} {us : Array Value} {ls : Nat → List Bool} (h : OwnBRows w lo g n us ls) (hb : Below w.heap.size w w') : OwnBRows w' lo g n us ls :=
  ⟨(hb.block g h.lt).trans h.box, h.size, h.low, fun i hi => (h.row i hi).keep hb, h.apart⟩
theorem OwnBRows.lower {w : World} {lo lo' g n : Nat} {us : Array Value} {ls : Nat → List Bool} (h : OwnBRows w lo g n us ls) (hl : lo' ≤ lo) : OwnBRows w lo' g n us ls :=
  ⟨h.box, h.size, Nat.le_trans hl h.low, fun i hi => (h.row i hi).low hl, h.apart⟩
theorem OwnBRows.congr {w : World} {lo g n : Nat} {us : Array Value} {ls ms : Nat → List Bool} (h : OwnBRows w lo g n us ls) (e : ∀ i, i < n → ls i = ms i) : OwnBRows w lo g n us ms :=
  ⟨h.box, h.size, h.low, fun i hi => by rw [← e i hi]; exact h.row i hi, h.apart⟩
theorem OwnBRows.cell {w : World} {lo g n : Nat} {us : Array Value} {ls : Nat → List Bool} (h : OwnBRows w lo g n us ls) {i : Nat} (hi : i < n) : w.cell? ⟨g, i, none⟩ = some (us.getD i (.slice none 0 0)) := by
  have : i < us.size := by have := h.size; omega
  simp [World.cell?, h.box, this]
theorem OwnBRows.frozen {w : World} {lo g n : Nat} {us : Array Value} {ls : Nat → List Bool} (h : OwnBRows w lo g n us ls) (i : Nat) : w.frozen? ⟨g, i, none⟩ = false := by simp [World.frozen?, h.box]
theorem OwnBools.not_boxB {w : World} {lo : Nat} {v : Value} {l : List Bool} (h : OwnBools w lo v l) {g : Nat} {cur : Array Value} {t : TypeId} {z : Nat × Nat} (hb : w.heap[g]? = some (.cells cur t z)) (ht : t ≠ 4) : some g ≠ v.ownBlock := fun e => by
  rcases h with ⟨_, ⟨rfl, _⟩ | ⟨g', cap, cur', rfl, _, h3, _⟩⟩
  · simp [Value.ownBlock] at e
  · simp [Value.ownBlock] at e
    subst e
    rw [hb] at h3
    simp at h3
    exact ht h3.2.1
def OwnBLists (w : World) (lo : Nat) (v : Value) (D : List (List Bool)) : Prop := ∃ g cap us, v = .slice (some ⟨g, 0, none⟩) D.length cap ∧ OwnBRows w lo g D.length us (fun i => D.getD i [])
def GivesBLists (w : World) (D : List (List Bool)) (e : Ending) (w' : World) : Prop := ∃ v, e = .returned v ∧ OwnBLists w' w.heap.size v D ∧ Below w.heap.size w w'
theorem ownBLists_new {w : World} {g lo : Nat} (hg : w.heap.size = g) (hl : lo ≤ g) : OwnBLists (w.alloc (.cells #[] 36)) lo (.slice (some ⟨g, 0, none⟩) 0 0) [] := by
  subst hg
  exact ⟨w.heap.size, 0, #[], rfl, World.alloc_heap_new w _, Nat.le_refl _, hl, fun i hi => absurd hi (by simp), fun i j hi => absurd hi (by simp)⟩
theorem ownBLists_rows {w : World} {lo g n : Nat} {us : Array Value} {ls : Nat → List Bool} (h : OwnBRows w lo g n us ls) : OwnBLists w lo (.slice (some ⟨g, 0, none⟩) n n) ((List.range n).map ls) := by
  refine ⟨g, n, us, by simp, ?_⟩
  rw [List.length_map, List.length_range]
  exact h.congr (fun i hi => by simp [List.getD, hi])

/-- A list of lists, as it is read. -/
def BListsAt (w : World) (v : Value) (D : List (List Bool)) : Prop := ∃ g cap, v = .slice (some ⟨g, 0, none⟩) D.length cap ∧ D.length ≤ 100 ∧ ∀ i, i < D.length → ∃ u, w.cell? ⟨g, i, none⟩ = some u ∧ BoolsAt w u (D.getD i [])
theorem BListsAt.keep {w w' : World} {v : Value} {D : List (List Bool)} (h : BListsAt w v D) (hb : Below w.heap.size w w') : BListsAt w' v D := by
  obtain ⟨g, gcap, rfl, hn, hc⟩ := h
  refine ⟨g, gcap, rfl, hn, fun i hi => ?_⟩
  obtain ⟨u, h1, h2⟩ := hc i hi
  exact ⟨u, Bel.keeps hb h1, h2.keep hb⟩
theorem OwnBLists.at {w : World} {lo : Nat} {v : Value} {D : List (List Bool)} (h : OwnBLists w lo v D) (hn : D.length ≤ 100) : BListsAt w v D := by
  obtain ⟨g, gcap, us, rfl, hr⟩ := h
  exact ⟨g, gcap, rfl, hn, fun i hi => ⟨_, hr.cell hi, (hr.row i hi).at⟩⟩
theorem OwnBLists.keep {w w' : World} {lo : Nat} {v : Value} {D : List (List Bool)} (h : OwnBLists w lo v D) (hb : Below w.heap.size w w') : OwnBLists w' lo v D := by
  obtain ⟨g, gcap, us, rfl, hr⟩ := h
  exact ⟨g, gcap, us, rfl, hr.keep hb⟩
theorem BoolsAt.same {w w' : World} {v : Value} {l : List Bool} (h : BoolsAt w v l) (hs : ∀ b, v.ownBlock = some b → w'.heap[b]? = w.heap[b]?) : BoolsAt w' v l := by
  obtain ⟨a, cap, rfl, hm, hc⟩ := h
  refine ⟨a, cap, rfl, hm, fun hp => ?_⟩
  obtain ⟨b, off, rfl, hd⟩ := hc hp
  exact ⟨b, off, rfl, fun i hi => by rw [World.cell?_of_block (w := w) (w' := w') (a := ⟨b, off + i, none⟩) (hs b rfl)]; exact hd i hi⟩
theorem OwnBools.same {w w' : World} {lo : Nat} {v : Value} {l : List Bool} (h : OwnBools w lo v l) (hs : ∀ b, v.ownBlock = some b → w'.heap[b]? = w.heap[b]?) : OwnBools w' lo v l := by
  obtain ⟨h0, h1⟩ := h
  refine ⟨h0, ?_⟩
  rcases h1 with h1 | ⟨g, cap, cur, rfl, hlo, hg, h2⟩
  · exact .inl h1
  · exact .inr ⟨g, cap, cur, rfl, hlo, (hs g rfl).trans hg, h2⟩
/-- Rows of which every block lies as it lay. -/
theorem OwnBRows.same {w w' : World} {lo g n : Nat} {us : Array Value} {ls : Nat → List Bool} (h : OwnBRows w lo g n us ls) (hg : w'.heap[g]? = w.heap[g]?) (hs : ∀ i, i < n → ∀ b, (us.getD i (.slice none 0 0)).ownBlock = some b → w'.heap[b]? = w.heap[b]?) : OwnBRows w' lo g n us ls :=
  ⟨hg.trans h.box, h.size, h.low, fun i hi => (h.row i hi).same (hs i hi), h.apart⟩
theorem OwnBLists.above {w w' : World} {lo hi b : Nat} {v : Value} {D : List (List Bool)} (h : OwnBLists w b v D) (m : Marked lo hi w w') (hb : hi ≤ b) : OwnBLists w' b v D := by
  obtain ⟨g, gcap, us, rfl, hr⟩ := h
  refine ⟨g, gcap, us, rfl, hr.same (m.above g (Nat.le_trans hb hr.low) hr.lt) (fun i hi k hk => ?_)⟩
  have := World.ownsRow.lt (hr.row i hi) k hk
  exact m.above k (Nat.le_trans hb this.1) this.2
/-- Lists that were made ahead of lo. -/
theorem OwnBLists.below {w0 w w' : World} {lo b : Nat} {v : Value} {D : List (List Bool)} (h0 : OwnBLists w0 b v D) (hl : w0.heap.size ≤ lo) (h : OwnBLists w b v D) (hw : Below w0.heap.size w0 w) (m : Below lo w w') : OwnBLists w' b v D := by
  obtain ⟨g, gcap, us, hv, hr⟩ := h0
  refine ⟨g, gcap, us, hv, ?_⟩
  have hb : Below w0.heap.size w0 w' := hw.trans (m.mono hl)
  exact hr.keep hb

/-- How many numbers there are. -/
def totB (D : List (List Bool)) : Nat := (D.map List.length).sum
theorem totB_next {D : List (List Bool)} {k : Nat} (h : k < D.length) : totB (D.take (k + 1)) = totB (D.take k) + (D.getD k []).length := by
  unfold totB
  rw [List.take_add_one, List.map_append, List.sum_append]
  simp only [List.getElem?_eq_getElem h, Option.toList_some, List.map_cons, List.map_nil, List.sum_cons, List.sum_nil, Nat.add_zero, List.getD, Option.getD_some]
theorem totB_take_le (D : List (List Bool)) (k : Nat) : totB (D.take k) ≤ totB D := by
  have e : totB D = totB (D.take k) + totB (D.drop k) := by
    unfold totB
    rw [← List.sum_append, ← List.map_append, List.take_append_drop]
  omega
theorem totB_le {D : List (List Bool)} {m : Nat} (h : ∀ l ∈ D, l.length ≤ m) : totB D ≤ D.length * m := by
  induction D with
  | nil => simp [totB]
  | cons l D ih =>
    have h1 := h l (by simp)
    have h2 := ih (fun x hx => h x (by simp [hx]))
    have e : totB (l :: D) = l.length + totB D := by simp [totB]
    rw [e, List.length_cons, Nat.succ_mul]
    omega
/-- The marks. -/
def BListMarks (w : World) (v : Value) (D : List (List Bool)) (q : Int) : Prop := ∃ g cap, v = .slice (some ⟨g, 0, none⟩) D.length cap ∧ D.length ≤ 100 ∧ ∀ i, i < D.length → ∃ u, w.cell? ⟨g, i, none⟩ = some u ∧ BoolsAt w u (bmarks (q + totB (D.take i)) (D.getD i []).length)
theorem BListMarks.keep {w w' : World} {v : Value} {D : List (List Bool)} {q : Int} (h : BListMarks w v D q) (hb : Below w.heap.size w w') : BListMarks w' v D q := by
  obtain ⟨g, gcap, rfl, hn, hc⟩ := h
  refine ⟨g, gcap, rfl, hn, fun i hi => ?_⟩
  obtain ⟨u, h1, h2⟩ := hc i hi
  exact ⟨u, Bel.keeps hb h1, h2.keep hb⟩

set_option maxHeartbeats 1000000 in
theorem eqBoolSS_same (va vb : Value) (D : List (List Bool)) (w : World) (ha : BListsAt w va D) (hb : BListsAt w vb D) :
    Calls Tryz.prog 21 #[va, vb] w fun e w' => e = .returned (.bool true) ∧ Below w.heap.size w w' := by
  obtain ⟨ga, gca, rfl, hn, hca⟩ := ha
  obtain ⟨gb, gcb, rfl, _, hcb⟩ := hb
  obtain ⟨n, HN⟩ : ∃ n, Hid (D.length = n) := ⟨_, rfl⟩
  rw [HN.out] at hn hca hcb ⊢
  have HA : Hid (∀ i, i < n → ∃ u, w.cell? ⟨ga, i, none⟩ = some u ∧ BoolsAt w u (D.getD i [])) := hca
  have HB : Hid (∀ i, i < n → ∃ u, w.cell? ⟨gb, i, none⟩ = some u ∧ BoolsAt w u (D.getD i [])) := hcb
  have hne : ((n : Int) != (n : Int)) = false := by simp
  clear hca hcb
  go_enter Tryz.func21, Tryz.ntmps21
  go_wp2_with fail
  go_loopw [5] (fun i wr => ∃ k : Nat, k ≤ n ∧ i = .int .i64 k ∧ Below w.heap.size w wr) (fun i _ => n - (intOf i).toNat)
  case atStart => exact ⟨0, Nat.zero_le _, rfl, Below.refl _ _⟩
  case round =>
    obtain ⟨k, hk, rfl, hB⟩ := hrel
    have HW : Hid (Below w.heap.size w wr) := hB
    clear hB
    by_cases hlt : (k : Int) < (n : Int)
    · obtain ⟨u, hu, iu⟩ := HA.out k (by omega)
      obtain ⟨u', hu', iu'⟩ := HB.out k (by omega)
      have q1 := Bel.keeps HW.out hu
      have q2 := Bel.keeps HW.out hu'
      have I1 : Hid (BoolsAt wr u (D.getD k [])) := iu.keep HW.out
      have I2 : Hid (BoolsAt wr u' (D.getD k [])) := iu'.keep HW.out
      have hd : decide (D.getD k [] = D.getD k []) = true := by simp
      clear iu iu' hu hu'
      go_wp2_with fail
      go_region_with (go_at_call 45; refine (eqBoolS_any _ _ _ _ _ (by exact I1.out) (by exact I2.out)).mono ?_; rintro e w3 ⟨rfl, b3⟩; have B3 : Hid (Below w.heap.size w w3) := Bel.after HW.out (Bel.after (by first | exact (Below.refl _ _).drew | exact Below.refl _ _) b3); clear b3)
      all_goals
        go_wp2_with fail
        go_roundw
        case rel => exact ⟨k + 1, by omega, by go_num, B3.out⟩
        case measure => simp [intOf]; omega
    · have hkn : k = n := by omega
      subst hkn
      go_wp2_with fail
      go_ret
      exact ⟨rfl, HW.out⟩

set_option maxHeartbeats 1000000 in
theorem markBoolS_one (lo : Nat) (v : Value) (l : List Bool) (q : Int) (w : World) (hr : OwnBools w lo v l) (hlo : lo ≤ w.heap.size) (hq : 0 ≤ q) (hq2 : q + l.length ≤ 9223372036854775807) :
    Calls Tryz.prog 48 #[v, .int .i64 q] w fun e w' => e = .returned (.int .i64 (q + l.length)) ∧ Below lo w w' ∧ BoolsAt w' v (bmarks q l.length) ∧ ∀ b, v.ownBlock ≠ some b → w'.heap[b]? = w.heap[b]? := by
  have hs := hr.small
  have hmx : l.length ≤ 9223372036854775807 := by
    have : maxLen ≤ 9223372036854775807 := by decide
    omega
  obtain ⟨a, cap, rfl, hc⟩ := hr.row
  obtain ⟨n, HN⟩ : ∃ n, Hid (l.length = n) := ⟨_, rfl⟩
  rw [HN.out] at hmx hq2 hc ⊢
  have HC : Hid (0 < n → ∃ g, a = some ⟨g, 0, none⟩ ∧ lo ≤ g ∧ g < w.heap.size ∧ (∀ i, i < n → w.cell? ⟨g, i, none⟩ = some (.bool (l.getD i false))) ∧ ∀ i, w.frozen? ⟨g, i, none⟩ = false) := hc
  clear hc hr hs
  go_enter Tryz.func48, Tryz.ntmps48
  go_wp2
  go_loopw [1, 5] (fun kv i wr => ∃ k : Nat, k ≤ n ∧ i = .int .i64 k ∧ kv = .int .i64 (q + k) ∧ Below lo w wr ∧ (∀ b, (Value.slice a n cap).ownBlock ≠ some b → wr.heap[b]? = w.heap[b]?) ∧ ∀ g, a = some ⟨g, 0, none⟩ → ((∀ j, j < k → wr.cell? ⟨g, j, none⟩ = some (.bool (bmark (q + j)))) ∧ (∀ j, k ≤ j → j < n → ∃ x, wr.cell? ⟨g, j, none⟩ = some (.bool x)) ∧ (∀ j, j < n → wr.frozen? ⟨g, j, none⟩ = false))) (fun _ i _ => n - (intOf i).toNat)
  case atStart =>
    refine ⟨0, Nat.zero_le _, rfl, by go_num, Below.refl _ _, fun _ _ => rfl, fun g hg => ⟨fun j hj => absurd hj (by omega), fun j _ hj => ?_, fun j hj => ?_⟩⟩
    · obtain ⟨g', e, _, _, h1, _⟩ := HC.out (by omega)
      rw [hg] at e
      cases e
      exact ⟨_, h1 j hj⟩
    · obtain ⟨g', e, _, _, _, h2⟩ := HC.out (by omega)
      rw [hg] at e
      cases e
      exact h2 j
  case round =>
    obtain ⟨k, hk, rfl, rfl, hfr, hfo, hdone⟩ := hrel
    have H0 : Hid (∀ b, (Value.slice a n cap).ownBlock ≠ some b → wr.heap[b]? = w.heap[b]?) := hfo
    have H1 : Hid (Below lo w wr) := hfr
    have H2 : Hid (∀ g, a = some ⟨g, 0, none⟩ → ((∀ j, j < k → wr.cell? ⟨g, j, none⟩ = some (.bool (bmark (q + j)))) ∧ (∀ j, k ≤ j → j < n → ∃ x, wr.cell? ⟨g, j, none⟩ = some (.bool x)) ∧ (∀ j, j < n → wr.frozen? ⟨g, j, none⟩ = false))) := hdone
    clear hfr hfo hdone
    by_cases hlt2 : (k : Int) < (n : Int)
    · obtain ⟨g, rfl, hg, _⟩ := HC.out (by omega)
      obtain ⟨K1, K2, K3⟩ := H2.out g rfl
      obtain ⟨x, q1⟩ := K2 k (Nat.le_refl _) (by omega)
      have q2 := K3 k (by omega)
      have K1' : Hid (∀ j, j < k → wr.cell? ⟨g, j, none⟩ = some (.bool (bmark (q + j)))) := K1
      have K2' : Hid (∀ j, k ≤ j → j < n → ∃ x, wr.cell? ⟨g, j, none⟩ = some (.bool x)) := K2
      have K3' : Hid (∀ j, j < n → wr.frozen? ⟨g, j, none⟩ = false) := K3
      clear K1 K2 K3
      go_wp2
      go_roundw
      case rel =>
        refine ⟨k + 1, by omega, by go_num, by go_num, H1.out.setCell (p := ⟨g, k, none⟩) hg _, fun b hb => (Below.heap_setCell _ _ _ b (by show b ≠ g; intro e; exact hb (by rw [e]; rfl))).trans (H0.out b hb), fun g' e => ?_⟩
        cases e
        refine ⟨fun j hj => ?_, fun j hj hj2 => ?_, fun j hj => ?_⟩
        · by_cases hjk : j = k
          · subst hjk
            exact World.cell?_setCell_same _ _ _ q1
          · rw [World.cell?_setCell_other _ _ _ _ (by simp <;> omega)]
            exact K1'.out j (by omega)
        · rw [World.cell?_setCell_other _ _ _ _ (by simp <;> omega)]
          exact K2'.out j (by omega) hj2
        · simpa using K3'.out j hj
      case measure => simp [intOf]; omega
    · have hkn : k = n := by omega
      subst hkn
      go_wp2
      go_ret
      refine ⟨rfl, H1.out, ⟨a, cap, by rw [bmarks_len], by rw [bmarks_len]; exact hmx, fun hp => ?_⟩, H0.out⟩
      rw [bmarks_len] at hp
      obtain ⟨g, rfl, _⟩ := HC.out hp
      refine ⟨g, 0, rfl, fun i hi => ?_⟩
      rw [bmarks_len] at hi
      rw [bmarks_at _ _ _ hi]
      simpa using (H2.out g rfl).1 i hi

set_option maxHeartbeats 1000000 in
theorem markBoolSS_own (lo : Nat) (v : Value) (D : List (List Bool)) (q : Int) (w : World) (hr : OwnBLists w lo v D) (hn : D.length ≤ 100) (ht : totB D ≤ 100000) (hlo : lo ≤ w.heap.size) (hq : 0 ≤ q) (hq2 : q ≤ 1000000) :
    Calls Tryz.prog 24 #[v, .int .i64 q] w fun e w' => e = .returned (.int .i64 (q + totB D)) ∧ Below lo w w' ∧ BListMarks w' v D q := by
  obtain ⟨g, gcap, us, rfl, hor⟩ := hr
  obtain ⟨n, HN⟩ : ∃ n, Hid (D.length = n) := ⟨_, rfl⟩
  rw [HN.out] at hn hor ⊢
  have HR : Hid (OwnBRows w lo g n us (fun i => D.getD i [])) := hor
  have HT : Hid (∀ k, totB (D.take k) ≤ totB D) := totB_take_le D
  have HTN : Hid (∀ k, k < n → totB (D.take (k + 1)) = totB (D.take k) + (D.getD k []).length) := fun k hk => totB_next (by rw [HN.out]; exact hk)
  clear hor
  go_enter Tryz.func24, Tryz.ntmps24
  go_wp2_with fail
  go_loopw [1, 5] (fun kv i wr => ∃ k : Nat, k ≤ n ∧ i = .int .i64 k ∧ kv = .int .i64 (q + totB (D.take k)) ∧ Below lo w wr ∧ wr.heap[g]? = w.heap[g]? ∧ (∀ i, i < k → BoolsAt wr (us.getD i (.slice none 0 0)) (bmarks (q + totB (D.take i)) (D.getD i []).length)) ∧ (∀ i, k ≤ i → i < n → ∀ b, (us.getD i (.slice none 0 0)).ownBlock = some b → wr.heap[b]? = w.heap[b]?)) (fun _ i _ => n - (intOf i).toNat)
  case atStart => exact ⟨0, Nat.zero_le _, rfl, by simp [totB], Below.refl _ _, rfl, fun i hi => absurd hi (by omega), fun _ _ _ _ _ => rfl⟩
  case round =>
    obtain ⟨k, hk, rfl, rfl, hB, hG, hI, hO⟩ := hrel
    have HB : Hid (Below lo w wr) := hB
    have HG : Hid (wr.heap[g]? = w.heap[g]?) := hG
    have HI : Hid (∀ i, i < k → BoolsAt wr (us.getD i (.slice none 0 0)) (bmarks (q + totB (D.take i)) (D.getD i []).length)) := hI
    have HO : Hid (∀ i, k ≤ i → i < n → ∀ b, (us.getD i (.slice none 0 0)).ownBlock = some b → wr.heap[b]? = w.heap[b]?) := hO
    clear hB hG hI hO
    obtain ⟨t, HTT⟩ : ∃ t, Hid (totB (D.take k) = t) := ⟨_, rfl⟩
    have htk : t ≤ 100000 := by have := HT.out k; rw [HTT.out] at this; omega
    rw [HTT.out]
    by_cases hlt : (k : Int) < (n : Int)
    · have hkn : k < n := by omega
      obtain ⟨u, HU⟩ : ∃ u, Hid (us.getD k (.slice none 0 0) = u) := ⟨_, rfl⟩
      have q1 : wr.cell? ⟨g, k, none⟩ = some u := by
        rw [← HU.out]
        have := HR.out.cell hkn
        rw [← this]
        exact World.cell?_of_block HG.out
      have OK : Hid (OwnBools wr lo u (D.getD k [])) := by
        rw [← HU.out]
        exact (HR.out.row k hkn).same (HO.out k (Nat.le_refl _) hkn)
      obtain ⟨ln, HLN⟩ : ∃ ln, Hid ((D.getD k []).length = ln) := ⟨_, rfl⟩
      have hln : t + ln ≤ 100000 := by
        have h1 := HT.out (k + 1)
        rw [HTN.out k hkn, HTT.out, HLN.out] at h1
        omega
      go_wp2_with fail
      refine (markBoolS_one lo u _ (q + t) _ OK.out (by have := HB.out.size; omega) (by omega) (by rw [HLN.out]; omega)).mono ?_
      rw [HLN.out]
      rintro e w3 ⟨rfl, b3, i3, f3⟩
      have B3 : Hid (Below lo w w3) := HB.out.trans b3
      have F3 : Hid (∀ b, u.ownBlock ≠ some b → w3.heap[b]? = wr.heap[b]?) := f3
      have I3 : Hid (BoolsAt w3 u (bmarks (q + t) ln)) := i3
      clear b3 i3 f3
      go_wp2_with fail
      go_roundw
      case rel =>
        refine ⟨k + 1, by omega, by go_num, ?_, B3.out, ?_, fun i hi => ?_, fun i hi hin b hb => ?_⟩
        · rw [HTN.out k hkn, HTT.out, HLN.out]
          go_num
        · have hne : u.ownBlock ≠ some g := by
            have := OwnBools.not_boxB OK.out (HG.out.trans HR.out.box) (by decide)
            exact fun e => this e.symm
          exact (F3.out g hne).trans HG.out
        · by_cases e : i = k
          · subst e
            rw [HU.out, HTT.out, HLN.out]
            exact I3.out
          · refine (HI.out i (by omega)).same (fun b hb => F3.out b (fun e2 => ?_))
            exact HR.out.apart i k (by omega) hkn e b hb (by rw [HU.out]; exact e2)
        · have hne : u.ownBlock ≠ some b := fun e2 => HR.out.apart i k hin hkn (by omega) b hb (by rw [HU.out]; exact e2)
          exact (F3.out b hne).trans (HO.out i (by omega) hin b hb)
      case measure => simp [intOf]; omega
    · have hkn : k = n := by omega
      subst hkn
      have HE : Hid (t = totB D) := by
        rw [← HTT.out, ← HN.out, List.take_length]
        exact (rfl : totB D = totB D)
      go_wp2_with fail
      go_ret
      refine ⟨by rw [← HE.out]; rfl, HB.out, g, gcap, by rw [HN.out], by rw [HN.out]; exact hn, fun i hi => ?_⟩
      rw [HN.out] at hi
      refine ⟨us.getD i (.slice none 0 0), ?_, HI.out i hi⟩
      have := HR.out.cell hi
      rw [← this]
      exact World.cell?_of_block HG.out

set_option maxHeartbeats 1000000 in
theorem heldBoolSS_any (v : Value) (D : List (List Bool)) (q : Int) (w : World) (hm : BListMarks w v D q) (ht : totB D ≤ 100000) (hq : 0 ≤ q) (hq2 : q ≤ 1000000) :
    Calls Tryz.prog 25 #[v, .int .i64 q] w fun e w' => e = .returned (.int .i64 (q + totB D)) ∧ w' = w := by
  obtain ⟨g, gcap, rfl, hn, hc⟩ := hm
  obtain ⟨n, HN⟩ : ∃ n, Hid (D.length = n) := ⟨_, rfl⟩
  rw [HN.out] at hn hc ⊢
  have HC : Hid (∀ i, i < n → ∃ u, w.cell? ⟨g, i, none⟩ = some u ∧ BoolsAt w u (bmarks (q + totB (D.take i)) (D.getD i []).length)) := hc
  have HT : Hid (∀ k, totB (D.take k) ≤ totB D) := totB_take_le D
  have HTN : Hid (∀ k, k < n → totB (D.take (k + 1)) = totB (D.take k) + (D.getD k []).length) := fun k hk => totB_next (by rw [HN.out]; exact hk)
  clear hc
  go_enter Tryz.func25, Tryz.ntmps25
  go_wp2_with fail
  go_loopw [1, 5] (fun kv i wr => ∃ k : Nat, k ≤ n ∧ i = .int .i64 k ∧ kv = .int .i64 (q + totB (D.take k)) ∧ wr = w) (fun _ i _ => n - (intOf i).toNat)
  case atStart => exact ⟨0, Nat.zero_le _, rfl, by simp [totB], rfl⟩
  case round =>
    obtain ⟨k, hk, rfl, rfl, hwr⟩ := hrel
    subst hwr
    obtain ⟨t, HTT⟩ : ∃ t, Hid (totB (D.take k) = t) := ⟨_, rfl⟩
    have htk : t ≤ 100000 := by have := HT.out k; rw [HTT.out] at this; omega
    rw [HTT.out]
    by_cases hlt : (k : Int) < (n : Int)
    · have hkn : k < n := by omega
      obtain ⟨u, q1, iu⟩ := HC.out k hkn
      obtain ⟨ln, HLN⟩ : ∃ ln, Hid ((D.getD k []).length = ln) := ⟨_, rfl⟩
      rw [HTT.out, HLN.out] at iu
      have IU : Hid (BoolsAt wr u (bmarks (q + t) ln)) := iu
      have hln : t + ln ≤ 100000 := by
        have h1 := HT.out (k + 1)
        rw [HTN.out k hkn, HTT.out, HLN.out] at h1
        omega
      clear iu
      go_wp2_with fail
      refine (heldBoolS_any u ln (q + t) _ IU.out (by omega) (by omega)).mono ?_
      rintro e w3 ⟨rfl, hw3⟩
      subst hw3
      have hpos : ¬ (q + (t : Int) + (ln : Int) < 0) := by omega
      go_wp2_with fail
      go_roundw
      case rel =>
        refine ⟨k + 1, by omega, by go_num, ?_, (by first | rfl | trivial)⟩
        rw [HTN.out k hkn, HTT.out, HLN.out]
        go_num
      case measure => simp [intOf]; omega
    · have hkn : k = n := by omega
      subst hkn
      have HE : Hid (t = totB D) := by
        rw [← HTT.out, ← HN.out, List.take_length]
        exact (rfl : totB D = totB D)
      go_wp2_with fail
      go_ret
      exact ⟨by rw [← HE.out]; rfl, rfl⟩
end Go.Proofs.YtlnpejkahcfkoaaGreat
