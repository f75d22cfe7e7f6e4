/- The laws' own programs, copied into the program's types: the copy reads the same, in new memory. -/
import Derived.Test.YtgjojajodkagbaaDeep
import Derived.Test.YtgjojajodkagbaaUses
import Derived.Handy
import Derived.OwnWalk
import Derived.RowKit3
namespace Go.Proofs.Ytgjojajodkagbaa
open Go.ChangeShapes Go.WideShapes Go.ChangeAt Go.RowKit
set_option linter.unusedVariables false

/-- A row of m cells that can be written. -/
def RowOpen (w : World) (B m : Nat) : Prop := ∀ j, j < m → (∃ v, w.cell? ⟨B, j, none⟩ = some v) ∧ w.frozen? ⟨B, j, none⟩ = false

theorem RowOpen.keep {w w' : World} {B m : Nat} (h : RowOpen w B m) (hb : Below w.heap.size w w') : RowOpen w' B m := fun j hj => by
  obtain ⟨⟨v, hv⟩, hf⟩ := h j hj
  exact ⟨⟨v, Bel.keeps hb hv⟩, by rw [hb.frozen (p := ⟨B, j, none⟩) (World.block_lt_of_cell? w _ hv)]; exact hf⟩
theorem RowOpen.store {w : World} {B m : Nat} (h : RowOpen w B m) (o : Nat) (u : Value) : RowOpen (w.setCell ⟨B, o, none⟩ u) B m := fun j hj => by
  obtain ⟨⟨v, hv⟩, hf⟩ := h j hj
  refine ⟨?_, by simpa using hf⟩
  by_cases e : o = j
  · subst e
    exact ⟨u, World.cell?_setCell_same _ _ _ hv⟩
  · exact ⟨v, by rw [World.cell?_setCell_other _ _ _ _ (by intro h; exact e (by simpa using congrArg (fun (x : Addr) => x.off) h))]; exact hv⟩

theorem rowOpen_made (w : World) (z : Array Value) (m : Nat) (t : TypeId) : RowOpen (w.alloc (.cells (madeCells z m) t)) w.heap.size m := fun j hj => by
  have hs := size_madeCells z m
  refine ⟨⟨(madeCells z m)[j]'(by omega), ?_⟩, ?_⟩
  · rw [World.cell?_alloc_new]
    simp
  · simp

theorem make_of {P : Program} {t e : TypeId} {z : Value} {size bytes : Nat} (ht : P.underlying t = some (.slice e)) (hi : (P.info? e).map (fun i => (i.zero, i.size, i.bytes)) = some (some z, size, bytes)) (n : Nat) (hn : bytes * n ≤ 281474976710656) (hn2 : n ≤ 9223372036854775807) (w : World) :
    (Instr.makeSlice t (.int .i64 (n : Int)) (.int .i64 (n : Int))).run P w = .ok (.slice (some ⟨w.heap.size, 0, none⟩) n n) (w.alloc (.cells (madeCells z.cells (n * size)) e)) := by
  obtain ⟨i, h1, h2, h3, h4⟩ := info_parts hi
  have hb : ((i.bytes : Nat) : Int) * (n : Int) ≤ 281474976710656 := by
    rw [h4]
    have : ((bytes * n : Nat) : Int) ≤ 281474976710656 := by omega
    rwa [Int.natCast_mul] at this
  have h := run_make (P := P) w t e i z ht h1 h2 .i64 .i64 (n : Int) (n : Int) (by omega) (by omega) hb (by omega)
  simpa [h3] using h

theorem Bel.put {a w : World} {B : Nat} (h : Below B a w) (o : Nat) (u : Value) : Below B a (w.setCell ⟨B, o, none⟩ u) := h.setCell (Nat.le_refl B) u

/-- Nothing was frozen or thawed. -/
def FZ (w w' : World) : Prop := ∀ p : Addr, w'.frozen? p = w.frozen? p
theorem FZ.refl (w : World) : FZ w w := fun _ => rfl
theorem FZ.trans {a b c : World} (h : FZ a b) (k : FZ b c) : FZ a c := fun p => (k p).trans (h p)
theorem FZ.put {a w : World} (h : FZ a w) (q : Addr) (u : Value) : FZ a (w.setCell q u) := fun p => by rw [World.frozen?_setCell]; exact h p
theorem FZ.alloc {a w : World} (h : FZ a w) (c : Array Value) (t : TypeId) : FZ a (w.alloc (.cells c t)) := fun p => (frozen?_alloc_cells w c t p).trans (h p)
theorem FZ.new {w w' : World} (h : FZ w w') {p : Addr} (hp : w.heap.size ≤ p.block) : w'.frozen? p = false := by
  rw [h p]
  simp [World.frozen?, Array.getElem?_eq_none hp]

theorem toIns_fz (op d a b n : Int) (w : World) :
    Calls Try.prog 66 #[.agg #[.int .i64 op, .int .i64 d, .int .i64 a, .int .i64 b, .int .i64 n]] w fun e w' => e = .returned (.agg #[.int .i64 op, .int .i64 d, .int .i64 a, .int .i64 b, .int .i64 n]) ∧ Below w.heap.size w w' ∧ FZ w w' := by
  go_enter Try.func66, Try.ntmps66
  go_wp2
  refine bodyPost_ret (v := .agg #[.int .i64 op, .int .i64 d, .int .i64 a, .int .i64 b, .int .i64 n]) (by simp [results, Try.results66, go_sem]) rfl ?_
  exact ⟨rfl, by repeat (first | exact Below.refl _ _ | apply Below.drew | refine Below.alloc ?_ (by simp <;> omega) _ | refine Below.setCell ?_ (by simp <;> omega) _), by repeat (first | exact FZ.refl _ | refine FZ.alloc ?_ _ _ | refine FZ.put ?_ _ _)⟩
theorem toTerm_fz (k a t e : Int) (w : World) :
    Calls Try.prog 56 #[.agg #[.int .i64 k, .int .i64 a, .int .i64 t, .int .i64 e]] w fun r w' => r = .returned (.agg #[.int .i64 k, .int .i64 a, .int .i64 t, .int .i64 e]) ∧ Below w.heap.size w w' ∧ FZ w w' := by
  go_enter Try.func56, Try.ntmps56
  go_wp2
  refine bodyPost_ret (v := .agg #[.int .i64 k, .int .i64 a, .int .i64 t, .int .i64 e]) (by simp [results, Try.results56, go_sem]) rfl ?_
  exact ⟨rfl, by repeat (first | exact Below.refl _ _ | apply Below.drew | refine Below.alloc ?_ (by simp <;> omega) _ | refine Below.setCell ?_ (by simp <;> omega) _), by repeat (first | exact FZ.refl _ | refine FZ.alloc ?_ _ _ | refine FZ.put ?_ _ _)⟩

/-- A list is returned, in new memory. -/
def GivesList {α : Type} (w : World) (k : Nat) (E : World → Nat → Nat → α → Prop) (l : List α) (e : Ending) (w' : World) : Prop := ∃ v', e = .returned v' ∧ ListAt w.heap.size k E w' v' l ∧ Below w.heap.size w w' ∧ FZ w w'

theorem toArm_any (a b : Int) (w : World) :
    Calls Try.prog 80 #[.agg #[.int .i64 a, .int .i64 b]] w fun e w' => e = .returned (.agg #[.int .i64 a, .int .i64 b]) ∧ Below w.heap.size w w' ∧ FZ w w' := by
  go_enter Try.func80, Try.ntmps80
  go_wp2
  refine bodyPost_ret (v := .agg #[.int .i64 a, .int .i64 b]) (by simp [results, Try.results80, go_sem]) rfl ?_
  exact ⟨rfl, by repeat (first | exact Below.refl _ _ | apply Below.drew | refine Below.alloc ?_ (by simp <;> omega) _ | refine Below.setCell ?_ (by simp <;> omega) _), by repeat (first | exact FZ.refl _ | refine FZ.alloc ?_ _ _ | refine FZ.put ?_ _ _)⟩

/-- A cell aside from the one that is written. -/
theorem cell_aside {w : World} {b o o' : Nat} {u v : Value} (h : w.cell? ⟨b, o, none⟩ = some v) (ho : o' ≠ o) : (w.setCell ⟨b, o', none⟩ u).cell? ⟨b, o, none⟩ = some v := by
  rw [World.cell?_setCell_other _ _ _ _ (by intro h; exact ho (by simpa using congrArg (fun (x : Addr) => x.off) h))]
  exact h
theorem cell_there {w : World} {b o : Nat} {u v : Value} (h : w.cell? ⟨b, o, none⟩ = some v) : (w.setCell ⟨b, o, none⟩ u).cell? ⟨b, o, none⟩ = some u := World.cell?_setCell_same _ _ _ h

theorem ArmAt.store {w : World} {b o : Nat} {x : ArmD} (h : ArmAt w b o x) (o' : Nat) (u : Value) (ho : o' < o ∨ o + 2 ≤ o') : ArmAt (w.setCell ⟨b, o', none⟩ u) b o x :=
  ⟨cell_aside h.1 (by omega), cell_aside h.2 (by omega)⟩
theorem InsAt.store {w : World} {b o : Nat} {x : InsD} (h : InsAt w b o x) (o' : Nat) (u : Value) (ho : o' < o ∨ o + 5 ≤ o') : InsAt (w.setCell ⟨b, o', none⟩ u) b o x :=
  ⟨cell_aside h.1 (by omega), cell_aside h.2.1 (by omega), cell_aside h.2.2.1 (by omega), cell_aside h.2.2.2.1 (by omega), cell_aside h.2.2.2.2 (by omega)⟩
theorem PhiAt.store {lo : Nat} {w : World} {b o : Nat} {x : PhiD} (h : PhiAt lo w b o x) (hb : b < lo) (o' : Nat) (u : Value) (ho : o' < o ∨ o + 2 ≤ o') : PhiAt lo (w.setCell ⟨b, o', none⟩ u) b o x := by
  obtain ⟨h1, v, h2, h3⟩ := h
  exact ⟨cell_aside h1 (by omega), v, cell_aside h2 (by omega), arms_keep h3 (Keeps.setCell _ _ _ _ _ hb)⟩
theorem BlockAt.store {lo : Nat} {w : World} {b o : Nat} {x : BlockD} (h : BlockAt lo w b o x) (hb : b < lo) (o' : Nat) (u : Value) (ho : o' < o ∨ o + 6 ≤ o') : BlockAt lo (w.setCell ⟨b, o', none⟩ u) b o x := by
  obtain ⟨pv, lv, h1, h2, h3, h4, h5, h6, h7, h8⟩ := h
  exact ⟨pv, lv, cell_aside h1 (by omega), cell_aside h2 (by omega), cell_aside h3 (by omega), cell_aside h4 (by omega), cell_aside h5 (by omega), cell_aside h6 (by omega), phis_keep h7 (Keeps.setCell _ _ _ _ _ hb), places_keep h8 (Keeps.setCell _ _ _ _ _ hb)⟩
theorem PhiAt.next {lo : Nat} {w w' : World} {b o : Nat} {x : PhiD} (h : PhiAt lo w b o x) (hb : Below w.heap.size w w') : PhiAt lo w' b o x := by
  obtain ⟨h1, v, h2, h3⟩ := h
  exact ⟨Bel.keeps hb h1, v, Bel.keeps hb h2, arms_keep h3 (Keeps.of_below hb _)⟩
theorem BlockAt.next {lo : Nat} {w w' : World} {b o : Nat} {x : BlockD} (h : BlockAt lo w b o x) (hb : Below w.heap.size w w') : BlockAt lo w' b o x := by
  obtain ⟨pv, lv, h1, h2, h3, h4, h5, h6, h7, h8⟩ := h
  exact ⟨pv, lv, Bel.keeps hb h1, Bel.keeps hb h2, Bel.keeps hb h3, Bel.keeps hb h4, Bel.keeps hb h5, Bel.keeps hb h6, phis_keep h7 (Keeps.of_below hb _), places_keep h8 (Keeps.of_below hb _)⟩

theorem arm_put {w : World} {B o : Nat} {u0 u1 : Value} {x0 x1 : Int} (q0 : w.cell? ⟨B, o, none⟩ = some u0) (q1 : w.cell? ⟨B, o + 1, none⟩ = some u1) :
    ArmAt ((w.setCell ⟨B, o, none⟩ (.int .i64 x0)).setCell ⟨B, o + 1, none⟩ (.int .i64 x1)) B o ⟨x0, x1⟩ :=
  ⟨cell_aside (cell_there q0) (by omega), cell_there (cell_aside q1 (by omega))⟩
theorem ins_put {w : World} {B o : Nat} {u0 u1 u2 u3 u4 : Value} {x0 x1 x2 x3 x4 : Int} (q0 : w.cell? ⟨B, o, none⟩ = some u0) (q1 : w.cell? ⟨B, o + 1, none⟩ = some u1) (q2 : w.cell? ⟨B, o + 2, none⟩ = some u2) (q3 : w.cell? ⟨B, o + 3, none⟩ = some u3) (q4 : w.cell? ⟨B, o + 4, none⟩ = some u4) :
    InsAt (((((w.setCell ⟨B, o, none⟩ (.int .i64 x0)).setCell ⟨B, o + 1, none⟩ (.int .i64 x1)).setCell ⟨B, o + 2, none⟩ (.int .i64 x2)).setCell ⟨B, o + 3, none⟩ (.int .i64 x3)).setCell ⟨B, o + 4, none⟩ (.int .i64 x4)) B o ⟨x0, x1, x2, x3, x4⟩ :=
  ⟨cell_aside (cell_aside (cell_aside (cell_aside (cell_there q0) (by omega)) (by omega)) (by omega)) (by omega),
   cell_aside (cell_aside (cell_aside (cell_there (cell_aside q1 (by omega))) (by omega)) (by omega)) (by omega),
   cell_aside (cell_aside (cell_there (cell_aside (cell_aside q2 (by omega)) (by omega))) (by omega)) (by omega),
   cell_aside (cell_there (cell_aside (cell_aside (cell_aside q3 (by omega)) (by omega)) (by omega))) (by omega),
   cell_there (cell_aside (cell_aside (cell_aside (cell_aside q4 (by omega)) (by omega)) (by omega)) (by omega))⟩

theorem make_arms (n : Nat) (hn : n ≤ 1048576) (w : World) :
    (Instr.makeSlice 66 (.int .i64 (n : Int)) (.int .i64 (n : Int))).run Try.prog w = .ok (.slice (some ⟨w.heap.size, 0, none⟩) n n) (w.alloc (.cells (madeCells #[.int .i64 0, .int .i64 0] (n * 2)) 70)) :=
  make_of (z := .agg #[.int .i64 0, .int .i64 0]) (size := 2) (bytes := 16) Try.underlying66 (by kernel_rfl) n (by omega) (by omega) w

set_option maxHeartbeats 2000000 in
theorem toArmS_any (v : Value) (l : List ArmD) (w : World) (ha : ListAt 0 2 ArmAt w v l) (hs : l.length ≤ 1048576) :
    Calls Try.prog 77 #[v] w fun e w' => GivesList w 2 ArmAt l e w' := by
  obtain ⟨a, cap, rfl, hm, hc⟩ := ha
  obtain ⟨n, HN⟩ : ∃ n, Hid (l.length = n) := ⟨_, rfl⟩
  rw [HN.out] at hm hc hs ⊢
  have HC : Hid (0 < n → ∃ b off, a = some ⟨b, off, none⟩ ∧ 0 ≤ b ∧ ∀ i x, l[i]? = some x → ArmAt w b (off + i * 2) x) := hc
  clear hc
  have hmk := make_arms n hs w
  go_enter Try.func77, Try.ntmps77
  go_wp2
  have HO : Hid (RowOpen (w.alloc (.cells (madeCells #[.int .i64 0, .int .i64 0] (n * 2)) 70)) w.heap.size (n * 2)) := rowOpen_made _ _ _ _
  go_loopw [4] (fun i wr => ∃ k : Nat, k ≤ n ∧ i = .int .i64 k ∧ (Below w.heap.size w wr ∧ FZ w wr) ∧ w.heap.size < wr.heap.size ∧ RowOpen wr w.heap.size (n * 2) ∧ ∀ j x, j < k → l[j]? = some x → ArmAt wr w.heap.size (j * 2) x) (fun i _ => n - (intOf i).toNat)
  case atStart => exact ⟨0, Nat.zero_le _, rfl, ⟨Bel.alloc _ _, (FZ.refl _).alloc _ _⟩, by simp, HO.out, fun j x hj => absurd hj (by omega)⟩
  case round =>
    obtain ⟨k, hk, rfl, ⟨hb, hz⟩, hsz, ho, hd⟩ := hrel
    have Z1 : Hid (FZ w wr) := hz
    have H1 : Hid (Below w.heap.size w wr) := hb
    have H2 : Hid (RowOpen wr w.heap.size (n * 2)) := ho
    have H3 : Hid (∀ j x, j < k → l[j]? = some x → ArmAt wr w.heap.size (j * 2) x) := hd
    clear hb hz ho hd hmk
    by_cases hlt : (k : Int) < (n : Int)
    · obtain ⟨b, off, rfl, _, hc1⟩ := HC.out (by omega)
      have hkl : k < l.length := by have := HN.out; omega
      obtain ⟨x, HX⟩ : ∃ x, Hid (l[k]? = some x) := ⟨l[k], List.getElem?_eq_getElem hkl⟩
      obtain ⟨c0, c1⟩ := (hc1 k x HX.out).keep (Keeps.of_below H1.out 0) (Nat.zero_le _)
      clear hc1 hkl
      obtain ⟨x0, x1⟩ := x
      go_wp2_with fail
      refine (toArm_any x0 x1 _).mono ?_
      rintro e w1 ⟨rfl, b1, zc⟩
      have ZC : Hid (FZ wr w1) := zc
      clear zc
      have O1 : Hid (RowOpen w1 w.heap.size (n * 2)) := H2.out.keep b1
      have B1 : Hid (Below wr.heap.size wr w1) := b1
      have hsz1 : w.heap.size < w1.heap.size := Nat.lt_of_lt_of_le hsz b1.size
      clear b1
      obtain ⟨⟨u0, q0⟩, f0⟩ := O1.out (k * 2) (by omega)
      obtain ⟨⟨u1, q1⟩, f1⟩ := O1.out (k * 2 + 1) (by omega)
      go_wp2
      go_roundw
      case rel =>
        refine ⟨k + 1, by omega, by go_num, ⟨(Bel.put (Bel.put (Below.trans H1.out (Below.mono B1.out (Nat.le_of_lt hsz))) _ _) _ _), (FZ.put (FZ.put (Z1.out.trans ZC.out) _ _) _ _)⟩, by simpa using hsz1, ((O1.out.store _ _).store _ _), fun j x hj hx => ?_⟩
        by_cases hjk : j = k
        · subst hjk
          have e := HX.out.symm.trans hx
          simp only [Option.some.injEq] at e
          subst e
          exact arm_put q0 q1
        · exact ((((H3.out j x (by omega) hx).keep (Keeps.of_below B1.out 0) (Nat.zero_le _)).store _ _ (by omega)).store _ _ (by omega))
      case measure => simp [intOf]; omega
    · have hkn : k = n := by omega
      subst hkn
      go_wp2
      go_ret
      refine ⟨_, rfl, ⟨_, _, by rw [HN.out]; rfl, by rw [HN.out]; exact hm, fun _ => ⟨w.heap.size, 0, rfl, Nat.le_refl _, fun j x hj => ?_⟩⟩, H1.out, Z1.out⟩
      have hjl : j < k := by
        have h1 := HN.out
        by_cases hlt2 : j < l.length
        · omega
        · rw [List.getElem?_eq_none (by omega)] at hj
          cases hj
      have hx := H3.out j x hjl hj
      rw [Nat.zero_add]
      exact hx

theorem make_places (n : Nat) (hn : n ≤ 1048576) (w : World) :
    (Instr.makeSlice 61 (.int .i64 (n : Int)) (.int .i64 (n : Int))).run Try.prog w = .ok (.slice (some ⟨w.heap.size, 0, none⟩) n n) (w.alloc (.cells (madeCells #[.int .i64 0, .int .i64 0, .int .i64 0, .int .i64 0, .int .i64 0] (n * 5)) 72)) :=
  make_of (z := .agg #[.int .i64 0, .int .i64 0, .int .i64 0, .int .i64 0, .int .i64 0]) (size := 5) (bytes := 40) Try.underlying61 (by kernel_rfl) n (by omega) (by omega) w

set_option maxHeartbeats 2000000 in
theorem toInsS_any (v : Value) (l : List InsD) (w : World) (ha : ListAt 0 5 InsAt w v l) (hs : l.length ≤ 1048576) :
    Calls Try.prog 55 #[v] w fun e w' => GivesList w 5 InsAt l e w' := by
  obtain ⟨a, cap, rfl, hm, hc⟩ := ha
  obtain ⟨n, HN⟩ : ∃ n, Hid (l.length = n) := ⟨_, rfl⟩
  rw [HN.out] at hm hc hs ⊢
  have HC : Hid (0 < n → ∃ b off, a = some ⟨b, off, none⟩ ∧ 0 ≤ b ∧ ∀ i x, l[i]? = some x → InsAt w b (off + i * 5) x) := hc
  clear hc
  have hmk := make_places n hs w
  go_enter Try.func55, Try.ntmps55
  go_wp2
  have HO : Hid (RowOpen (w.alloc (.cells (madeCells #[.int .i64 0, .int .i64 0, .int .i64 0, .int .i64 0, .int .i64 0] (n * 5)) 72)) w.heap.size (n * 5)) := rowOpen_made _ _ _ _
  go_loopw [4] (fun i wr => ∃ k : Nat, k ≤ n ∧ i = .int .i64 k ∧ (Below w.heap.size w wr ∧ FZ w wr) ∧ w.heap.size < wr.heap.size ∧ RowOpen wr w.heap.size (n * 5) ∧ ∀ j x, j < k → l[j]? = some x → InsAt wr w.heap.size (j * 5) x) (fun i _ => n - (intOf i).toNat)
  case atStart => exact ⟨0, Nat.zero_le _, rfl, ⟨Bel.alloc _ _, (FZ.refl _).alloc _ _⟩, by simp, HO.out, fun j x hj => absurd hj (by omega)⟩
  case round =>
    obtain ⟨k, hk, rfl, ⟨hb, hz⟩, hsz, ho, hd⟩ := hrel
    have Z1 : Hid (FZ w wr) := hz
    have H1 : Hid (Below w.heap.size w wr) := hb
    have H2 : Hid (RowOpen wr w.heap.size (n * 5)) := ho
    have H3 : Hid (∀ j x, j < k → l[j]? = some x → InsAt wr w.heap.size (j * 5) x) := hd
    clear hb hz ho hd hmk
    by_cases hlt : (k : Int) < (n : Int)
    · obtain ⟨b, off, rfl, _, hc1⟩ := HC.out (by omega)
      have hkl : k < l.length := by have := HN.out; omega
      obtain ⟨x, HX⟩ : ∃ x, Hid (l[k]? = some x) := ⟨l[k], List.getElem?_eq_getElem hkl⟩
      obtain ⟨c0, c1, c2, c3, c4⟩ := (hc1 k x HX.out).keep (Keeps.of_below H1.out 0) (Nat.zero_le _)
      clear hc1 hkl
      obtain ⟨x0, x1, x2, x3, x4⟩ := x
      go_wp2_with fail
      refine (toIns_fz x0 x1 x2 x3 x4 _).mono ?_
      rintro e w1 ⟨rfl, b1, zc⟩
      have ZC : Hid (FZ wr w1) := zc
      clear zc
      have O1 : Hid (RowOpen w1 w.heap.size (n * 5)) := H2.out.keep b1
      have B1 : Hid (Below wr.heap.size wr w1) := b1
      have hsz1 : w.heap.size < w1.heap.size := Nat.lt_of_lt_of_le hsz b1.size
      clear b1
      obtain ⟨⟨u0, q0⟩, f0⟩ := O1.out (k * 5) (by omega)
      obtain ⟨⟨u1, q1⟩, f1⟩ := O1.out (k * 5 + 1) (by omega)
      obtain ⟨⟨u2, q2⟩, f2⟩ := O1.out (k * 5 + 2) (by omega)
      obtain ⟨⟨u3, q3⟩, f3⟩ := O1.out (k * 5 + 3) (by omega)
      obtain ⟨⟨u4, q4⟩, f4⟩ := O1.out (k * 5 + 4) (by omega)
      go_wp2
      go_roundw
      case rel =>
        refine ⟨k + 1, by omega, by go_num, ⟨(Bel.put (Bel.put (Bel.put (Bel.put (Bel.put (Below.trans H1.out (Below.mono B1.out (Nat.le_of_lt hsz))) _ _) _ _) _ _) _ _) _ _), (FZ.put (FZ.put (FZ.put (FZ.put (FZ.put (Z1.out.trans ZC.out) _ _) _ _) _ _) _ _) _ _)⟩, by simpa using hsz1, (((((O1.out.store _ _).store _ _).store _ _).store _ _).store _ _), fun j x hj hx => ?_⟩
        by_cases hjk : j = k
        · subst hjk
          have e := HX.out.symm.trans hx
          simp only [Option.some.injEq] at e
          subst e
          exact ins_put q0 q1 q2 q3 q4
        · exact (((((((H3.out j x (by omega) hx).keep (Keeps.of_below B1.out 0) (Nat.zero_le _)).store _ _ (by omega)).store _ _ (by omega)).store _ _ (by omega)).store _ _ (by omega)).store _ _ (by omega))
      case measure => simp [intOf]; omega
    · have hkn : k = n := by omega
      subst hkn
      go_wp2
      go_ret
      refine ⟨_, rfl, ⟨_, _, by rw [HN.out]; rfl, by rw [HN.out]; exact hm, fun _ => ⟨w.heap.size, 0, rfl, Nat.le_refl _, fun j x hj => ?_⟩⟩, H1.out, Z1.out⟩
      have hjl : j < k := by
        have h1 := HN.out
        by_cases hlt2 : j < l.length
        · omega
        · rw [List.getElem?_eq_none (by omega)] at hj
          cases hj
      have hx := H3.out j x hjl hj
      rw [Nat.zero_add]
      exact hx

def PhiSmall (x : PhiD) : Prop := x.arms.length ≤ 1048576
def BlockSmall (x : BlockD) : Prop := x.phis.length ≤ 1048576 ∧ x.list.length ≤ 1048576 ∧ ∀ p ∈ x.phis, PhiSmall p
def FnSmall (F : FnD) : Prop := F.blocks.length ≤ 1048576 ∧ ∀ b ∈ F.blocks, BlockSmall b

def GivesPhi (w : World) (d : Int) (l : List ArmD) (e : Ending) (w' : World) : Prop := ∃ v', e = .returned (.agg #[.int .i64 d, v']) ∧ ListAt w.heap.size 2 ArmAt w' v' l ∧ Below w.heap.size w w' ∧ FZ w w'

set_option maxHeartbeats 1000000 in
theorem toPhi_any (d : Int) (sv : Value) (l : List ArmD) (w : World) (ha : ListAt 0 2 ArmAt w sv l) (hs : PhiSmall ⟨d, l⟩) :
    Calls Try.prog 65 #[.agg #[.int .i64 d, sv]] w fun e w' => GivesPhi w d l e w' := by
  have HA : Hid (ListAt 0 2 ArmAt w sv l) := ha
  have HS : Hid (l.length ≤ 1048576) := hs
  obtain ⟨sa, scap, hsv, _⟩ := ha
  obtain ⟨sn, HSN⟩ : ∃ sn, Hid (l.length = sn) := ⟨_, rfl⟩
  rw [HSN.out] at hsv
  subst hsv
  clear hs
  go_enter Try.func65, Try.ntmps65
  go_wp2_with fail
  refine (toArmS_any (.slice sa sn scap) l _ (arms_keep HA.out (Keeps.of_below (by repeat (first | exact Below.refl _ _ | apply Below.drew | refine Below.alloc ?_ (by simp <;> omega) _ | refine Below.setCell ?_ (by simp <;> omega) _)) 0)) HS.out).mono ?_
  rintro e w1 ⟨v', rfl, hl, b1, zc⟩
  have ZC : Hid (FZ w w1) := FZ.trans (by repeat (first | exact FZ.refl _ | refine FZ.alloc ?_ _ _ | refine FZ.put ?_ _ _)) zc
  clear zc
  have q0 := Bel.keeps b1 (p := ⟨w.heap.size + 1 + 1, 0, none⟩) (v := .int .i64 d) (by simp [go_sem])
  have q1 := Bel.keeps b1 (p := ⟨w.heap.size + 1 + 1, 1, none⟩) (v := .slice none 0 0) (by simp [go_sem])
  have r0 := Bel.keeps b1 (p := ⟨w.heap.size + 1, 0, none⟩) (v := .int .i64 0) (by simp [go_sem])
  have r1 := Bel.keeps b1 (p := ⟨w.heap.size + 1, 1, none⟩) (v := .slice none 0 0) (by simp [go_sem])
  have f1 : w1.frozen? ⟨w.heap.size + 1 + 1, 1, none⟩ = false := by rw [b1.frozen (p := ⟨w.heap.size + 1 + 1, 1, none⟩) (by simp)]; simp [go_sem]
  have g0 : w1.frozen? ⟨w.heap.size + 1, 0, none⟩ = false := by rw [b1.frozen (p := ⟨w.heap.size + 1, 0, none⟩) (by simp)]; simp [go_sem]
  have g1 : w1.frozen? ⟨w.heap.size + 1, 1, none⟩ = false := by rw [b1.frozen (p := ⟨w.heap.size + 1, 1, none⟩) (by simp)]; simp [go_sem]
  have HL : Hid (ListAt (w.heap.size + 3) 2 ArmAt w1 v' l) := hl.low (by simp) fun _ _ _ hx => hx
  have HB : Hid (Below w.heap.size w w1) := Bel.after (by repeat (first | exact Below.refl _ _ | apply Below.drew | refine Below.alloc ?_ (by simp <;> omega) _ | refine Below.setCell ?_ (by simp <;> omega) _)) b1
  obtain ⟨va, vcap, hv', _⟩ := hl
  rw [HSN.out] at hv'
  subst hv'
  clear b1
  go_wp2
  refine bodyPost_ret (v := .agg #[.int .i64 d, .slice va sn vcap]) (by simp [results, Try.results65, go_sem, r0, r1]) rfl ?_
  refine ⟨_, rfl, (arms_keep HL.out (((Keeps.setCell _ _ _ _ _ (by omega)).trans (Keeps.setCell _ _ _ _ _ (by omega))).trans (Keeps.setCell _ _ _ _ _ (by omega)))).low (by omega) fun _ _ _ hx => hx, ?_, ((ZC.out.put _ _).put _ _).put _ _⟩
  exact ((HB.out.setCell (by show w.heap.size ≤ w.heap.size + 1 + 1; omega) _).setCell (by show w.heap.size ≤ w.heap.size + 1; omega) _).setCell (by show w.heap.size ≤ w.heap.size + 1; omega) _

theorem phi_put {w : World} {B o : Nat} {u0 u1 : Value} {x0 : Int} {v : Value} {l : List ArmD} (q0 : w.cell? ⟨B, o, none⟩ = some u0) (q1 : w.cell? ⟨B, o + 1, none⟩ = some u1) {lo : Nat} (hB : B < lo) (hl : ListAt lo 2 ArmAt w v l) :
    PhiAt lo ((w.setCell ⟨B, o, none⟩ (.int .i64 x0)).setCell ⟨B, o + 1, none⟩ v) B o ⟨x0, l⟩ :=
  ⟨cell_aside (cell_there q0) (by omega), v, cell_there (cell_aside q1 (by omega)), arms_keep hl ((Keeps.setCell _ _ _ _ _ hB).trans (Keeps.setCell _ _ _ _ _ hB))⟩

theorem make_phis (n : Nat) (hn : n ≤ 1048576) (w : World) :
    (Instr.makeSlice 60 (.int .i64 (n : Int)) (.int .i64 (n : Int))).run Try.prog w = .ok (.slice (some ⟨w.heap.size, 0, none⟩) n n) (w.alloc (.cells (madeCells #[.int .i64 0, .slice none 0 0] (n * 2)) 68)) :=
  make_of (z := .agg #[.int .i64 0, .slice none 0 0]) (size := 2) (bytes := 32) Try.underlying60 (by kernel_rfl) n (by omega) (by omega) w

set_option maxHeartbeats 2000000 in
theorem toPhiS_any (v : Value) (l : List PhiD) (w : World) (ha : ListAt 0 2 (PhiAt 0) w v l) (hs : l.length ≤ 1048576) (hsm : ∀ x ∈ l, PhiSmall x) :
    Calls Try.prog 54 #[v] w fun e w' => GivesList w 2 (PhiAt w.heap.size) l e w' := by
  obtain ⟨a, cap, rfl, hm, hc⟩ := ha
  obtain ⟨n, HN⟩ : ∃ n, Hid (l.length = n) := ⟨_, rfl⟩
  rw [HN.out] at hm hc hs ⊢
  have HC : Hid (0 < n → ∃ b off, a = some ⟨b, off, none⟩ ∧ 0 ≤ b ∧ ∀ i x, l[i]? = some x → (PhiAt 0) w b (off + i * 2) x) := hc
  clear hc
  have SM : Hid (∀ x ∈ l, PhiSmall x) := hsm
  clear hsm
  have hmk := make_phis n hs w
  go_enter Try.func54, Try.ntmps54
  go_wp2
  have HO : Hid (RowOpen (w.alloc (.cells (madeCells #[.int .i64 0, .slice none 0 0] (n * 2)) 68)) w.heap.size (n * 2)) := rowOpen_made _ _ _ _
  go_loopw [4] (fun i wr => ∃ k : Nat, k ≤ n ∧ i = .int .i64 k ∧ (Below w.heap.size w wr ∧ FZ w wr) ∧ w.heap.size < wr.heap.size ∧ RowOpen wr w.heap.size (n * 2) ∧ ∀ j x, j < k → l[j]? = some x → (PhiAt (w.heap.size + 1)) wr w.heap.size (j * 2) x) (fun i _ => n - (intOf i).toNat)
  case atStart => exact ⟨0, Nat.zero_le _, rfl, ⟨Bel.alloc _ _, (FZ.refl _).alloc _ _⟩, by simp, HO.out, fun j x hj => absurd hj (by omega)⟩
  case round =>
    obtain ⟨k, hk, rfl, ⟨hb, hz⟩, hsz, ho, hd⟩ := hrel
    have Z1 : Hid (FZ w wr) := hz
    have H1 : Hid (Below w.heap.size w wr) := hb
    have H2 : Hid (RowOpen wr w.heap.size (n * 2)) := ho
    have H3 : Hid (∀ j x, j < k → l[j]? = some x → (PhiAt (w.heap.size + 1)) wr w.heap.size (j * 2) x) := hd
    clear hb hz ho hd hmk
    by_cases hlt : (k : Int) < (n : Int)
    · obtain ⟨b, off, rfl, _, hc1⟩ := HC.out (by omega)
      have hkl : k < l.length := by have := HN.out; omega
      obtain ⟨x, HX⟩ : ∃ x, Hid (l[k]? = some x) := ⟨l[k], List.getElem?_eq_getElem hkl⟩
      obtain ⟨c0, sv, c1, hsv⟩ := (hc1 k x HX.out).keep (Keeps.of_below H1.out 0) (Nat.zero_le _)
      clear hc1 hkl
      obtain ⟨x0, x1⟩ := x
      have HSV : Hid (ListAt 0 2 ArmAt wr sv x1) := hsv
      clear hsv
      have hwr : w.heap.size + 1 ≤ wr.heap.size := by obtain ⟨⟨u, hu⟩, _⟩ := H2.out 0 (by omega); exact World.block_lt_of_cell? wr _ hu
      go_wp2_with fail
      refine (toPhi_any x0 sv x1 _ HSV.out (SM.out _ (List.mem_of_getElem? HX.out))).mono ?_
      rintro e w1 ⟨sv', rfl, hnew, b1, zc⟩
      have ZC : Hid (FZ wr w1) := zc
      clear zc
      have O1 : Hid (RowOpen w1 w.heap.size (n * 2)) := H2.out.keep b1
      have B1 : Hid (Below wr.heap.size wr w1) := b1
      have HNW : Hid (ListAt (w.heap.size + 1) 2 ArmAt w1 sv' x1) := hnew.low hwr fun _ _ _ hx => hx
      obtain ⟨va, vcap, rfl, _⟩ := hnew
      have hsz1 : w.heap.size < w1.heap.size := Nat.lt_of_lt_of_le hsz b1.size
      clear b1
      obtain ⟨⟨u0, q0⟩, f0⟩ := O1.out (k * 2) (by omega)
      obtain ⟨⟨u1, q1⟩, f1⟩ := O1.out (k * 2 + 1) (by omega)
      go_wp2
      go_roundw
      case rel =>
        refine ⟨k + 1, by omega, by go_num, ⟨(Bel.put (Bel.put (Below.trans H1.out (Below.mono B1.out (Nat.le_of_lt hsz))) _ _) _ _), (FZ.put (FZ.put (Z1.out.trans ZC.out) _ _) _ _)⟩, by simpa using hsz1, ((O1.out.store _ _).store _ _), fun j x hj hx => ?_⟩
        by_cases hjk : j = k
        · subst hjk
          have e := HX.out.symm.trans hx
          simp only [Option.some.injEq] at e
          subst e
          exact phi_put q0 q1 (by omega) HNW.out
        · exact ((((H3.out j x (by omega) hx).next B1.out).store (by omega) _ _ (by omega)).store (by omega) _ _ (by omega))
      case measure => simp [intOf]; omega
    · have hkn : k = n := by omega
      subst hkn
      go_wp2
      go_ret
      refine ⟨_, rfl, ⟨_, _, by rw [HN.out]; rfl, by rw [HN.out]; exact hm, fun _ => ⟨w.heap.size, 0, rfl, Nat.le_refl _, fun j x hj => ?_⟩⟩, H1.out, Z1.out⟩
      have hjl : j < k := by
        have h1 := HN.out
        by_cases hlt2 : j < l.length
        · omega
        · rw [List.getElem?_eq_none (by omega)] at hj
          cases hj
      have hx := H3.out j x hjl hj
      rw [Nat.zero_add]
      exact hx.low (by omega)

def GivesBlock (w : World) (ps : List PhiD) (is : List InsD) (k a t o : Int) (e : Ending) (w' : World) : Prop :=
  ∃ pv lv, e = .returned (.agg #[pv, lv, .int .i64 k, .int .i64 a, .int .i64 t, .int .i64 o]) ∧ ListAt w.heap.size 2 (PhiAt w.heap.size) w' pv ps ∧ ListAt w.heap.size 5 InsAt w' lv is ∧ Below w.heap.size w w' ∧ FZ w w'

set_option maxHeartbeats 2000000 in
theorem toBlock_any (pv lv : Value) (ps : List PhiD) (is : List InsD) (k a t o : Int) (w : World) (hp : ListAt 0 2 (PhiAt 0) w pv ps) (hi : ListAt 0 5 InsAt w lv is) (hs : BlockSmall ⟨ps, is, ⟨k, a, t, o⟩⟩) :
    Calls Try.prog 45 #[.agg #[pv, lv, .int .i64 k, .int .i64 a, .int .i64 t, .int .i64 o]] w fun e w' => GivesBlock w ps is k a t o e w' := by
  have HP : Hid (ListAt 0 2 (PhiAt 0) w pv ps) := hp
  have HI : Hid (ListAt 0 5 InsAt w lv is) := hi
  have HS : Hid (BlockSmall ⟨ps, is, ⟨k, a, t, o⟩⟩) := hs
  obtain ⟨pa, pcap, hpv, _⟩ := hp
  obtain ⟨la, lcap, hlv, _⟩ := hi
  obtain ⟨pn, HPN⟩ : ∃ pn, Hid (ps.length = pn) := ⟨_, rfl⟩
  obtain ⟨ln, HLN⟩ : ∃ ln, Hid (is.length = ln) := ⟨_, rfl⟩
  rw [HPN.out] at hpv
  rw [HLN.out] at hlv
  subst hpv hlv
  clear hs
  go_enter Try.func45, Try.ntmps45
  go_wp2_with fail
  refine (toPhiS_any (.slice pa pn pcap) ps _ (phis_keep HP.out (Keeps.of_below (by repeat (first | exact Below.refl _ _ | apply Below.drew | refine Below.alloc ?_ (by simp <;> omega) _ | refine Below.setCell ?_ (by simp <;> omega) _)) 0)) HS.out.1 HS.out.2.2).mono ?_
  rintro e w1 ⟨v1, rfl, hl1, b1, zc⟩
  have ZC1 : Hid (FZ w w1) := FZ.trans (by repeat (first | exact FZ.refl _ | refine FZ.alloc ?_ _ _ | refine FZ.put ?_ _ _)) zc
  clear zc
  have HL1 : Hid (ListAt (w.heap.size + 3) 2 (PhiAt (w.heap.size + 3)) w1 v1 ps) := hl1.low (by simp) fun _ _ _ hx => hx.low (by simp)
  have HB1 : Hid (Below w.heap.size w w1) := Bel.after (by repeat (first | exact Below.refl _ _ | apply Below.drew | refine Below.alloc ?_ (by simp <;> omega) _ | refine Below.setCell ?_ (by simp <;> omega) _)) b1
  have d0 := Bel.keeps b1 (p := ⟨w.heap.size, 0, none⟩) (v := .slice pa pn pcap) (by simp [go_sem])
  have d1 := Bel.keeps b1 (p := ⟨w.heap.size, 1, none⟩) (v := .slice la ln lcap) (by simp [go_sem])
  have d2 := Bel.keeps b1 (p := ⟨w.heap.size, 2, none⟩) (v := .int .i64 k) (by simp [go_sem])
  have d3 := Bel.keeps b1 (p := ⟨w.heap.size, 3, none⟩) (v := .int .i64 a) (by simp [go_sem])
  have d4 := Bel.keeps b1 (p := ⟨w.heap.size, 4, none⟩) (v := .int .i64 t) (by simp [go_sem])
  have d5 := Bel.keeps b1 (p := ⟨w.heap.size, 5, none⟩) (v := .int .i64 o) (by simp [go_sem])
  have HD : Hid (∀ j, j < 6 → ∃ u, w1.cell? ⟨w.heap.size + 1, j, none⟩ = some u ∧ w1.frozen? ⟨w.heap.size + 1, j, none⟩ = false) := by
    intro j hj
    rw [b1.frozen (p := ⟨w.heap.size + 1, j, none⟩) (by simp), b1.cell (p := ⟨w.heap.size + 1, j, none⟩) (by simp)]
    have h6 : j = 0 ∨ j = 1 ∨ j = 2 ∨ j = 3 ∨ j = 4 ∨ j = 5 := by omega
    rcases h6 with rfl | rfl | rfl | rfl | rfl | rfl <;> simp [go_sem]
  have q0 := Bel.keeps b1 (p := ⟨w.heap.size + 1 + 1, 0, none⟩) (v := .slice none 0 0) (by simp [go_sem])
  have q1 := Bel.keeps b1 (p := ⟨w.heap.size + 1 + 1, 1, none⟩) (v := .slice none 0 0) (by simp [go_sem])
  have q2 := Bel.keeps b1 (p := ⟨w.heap.size + 1 + 1, 2, none⟩) (v := .int .i64 0) (by simp [go_sem])
  have q3 := Bel.keeps b1 (p := ⟨w.heap.size + 1 + 1, 3, none⟩) (v := .int .i64 0) (by simp [go_sem])
  have q4 := Bel.keeps b1 (p := ⟨w.heap.size + 1 + 1, 4, none⟩) (v := .int .i64 0) (by simp [go_sem])
  have q5 := Bel.keeps b1 (p := ⟨w.heap.size + 1 + 1, 5, none⟩) (v := .int .i64 0) (by simp [go_sem])
  have f0 : w1.frozen? ⟨w.heap.size + 1 + 1, 0, none⟩ = false := by rw [b1.frozen (p := ⟨w.heap.size + 1 + 1, 0, none⟩) (by simp)]; simp [go_sem]
  have f1 : w1.frozen? ⟨w.heap.size + 1 + 1, 1, none⟩ = false := by rw [b1.frozen (p := ⟨w.heap.size + 1 + 1, 1, none⟩) (by simp)]; simp [go_sem]
  have f2 : w1.frozen? ⟨w.heap.size + 1 + 1, 2, none⟩ = false := by rw [b1.frozen (p := ⟨w.heap.size + 1 + 1, 2, none⟩) (by simp)]; simp [go_sem]
  have f3 : w1.frozen? ⟨w.heap.size + 1 + 1, 3, none⟩ = false := by rw [b1.frozen (p := ⟨w.heap.size + 1 + 1, 3, none⟩) (by simp)]; simp [go_sem]
  have f4 : w1.frozen? ⟨w.heap.size + 1 + 1, 4, none⟩ = false := by rw [b1.frozen (p := ⟨w.heap.size + 1 + 1, 4, none⟩) (by simp)]; simp [go_sem]
  have f5 : w1.frozen? ⟨w.heap.size + 1 + 1, 5, none⟩ = false := by rw [b1.frozen (p := ⟨w.heap.size + 1 + 1, 5, none⟩) (by simp)]; simp [go_sem]
  have hsz : w.heap.size + 3 ≤ w1.heap.size := by have := b1.size; simp at this; omega
  obtain ⟨va, vcap, hv1, _⟩ := hl1
  rw [HPN.out] at hv1
  subst hv1
  clear b1
  go_wp2_with fail
  refine (toInsS_any (.slice la ln lcap) is _ (places_keep HI.out (Keeps.of_below (HB1.out.setCell (by show w.heap.size ≤ w.heap.size + 1 + 1; omega) _) 0)) HS.out.2.1).mono ?_
  rintro e w2 ⟨v2, rfl, hl2, b2, zc⟩
  have ZC2 : Hid (FZ w w2) := FZ.trans (ZC1.out.put _ _) zc
  clear zc
  have HL2 : Hid (ListAt (w.heap.size + 3) 5 InsAt w2 v2 is) := hl2.low (by simpa using hsz) fun _ _ _ hx => hx
  have HB2 : Hid (Below w.heap.size w w2) := (HB1.out.setCell (by show w.heap.size ≤ w.heap.size + 1 + 1; omega) _).trans (b2.mono (by have := HB1.out.size; simpa using this))
  have HL1' : Hid (ListAt (w.heap.size + 3) 2 (PhiAt (w.heap.size + 3)) w2 (.slice va pn vcap) ps) := phis_keep (phis_keep HL1.out (Keeps.setCell _ _ _ _ _ (by omega))) (Keeps.of_below b2 _)
  have e2 := Bel.keeps b2 (p := ⟨w.heap.size, 2, none⟩) (v := .int .i64 k) (by simp [go_sem, d2])
  have e3 := Bel.keeps b2 (p := ⟨w.heap.size, 3, none⟩) (v := .int .i64 a) (by simp [go_sem, d3])
  have e4 := Bel.keeps b2 (p := ⟨w.heap.size, 4, none⟩) (v := .int .i64 t) (by simp [go_sem, d4])
  have e5 := Bel.keeps b2 (p := ⟨w.heap.size, 5, none⟩) (v := .int .i64 o) (by simp [go_sem, d5])
  have HD2 : Hid (∀ j, j < 6 → ∃ u, w2.cell? ⟨w.heap.size + 1, j, none⟩ = some u ∧ w2.frozen? ⟨w.heap.size + 1, j, none⟩ = false) := by
    intro j hj
    obtain ⟨u, h1, h2⟩ := HD.out j hj
    rw [b2.frozen (p := ⟨w.heap.size + 1, j, none⟩) (by simp; omega), b2.cell (p := ⟨w.heap.size + 1, j, none⟩) (by simp; omega)]
    exact ⟨u, by rw [World.cell?_setCell_other _ _ _ _ (by simp)]; exact h1, by simpa using h2⟩
  have s0 := Bel.keeps b2 (p := ⟨w.heap.size + 1 + 1, 0, none⟩) (v := .slice va pn vcap) (cell_there q0)
  have s1 := Bel.keeps b2 (p := ⟨w.heap.size + 1 + 1, 1, none⟩) (v := .slice none 0 0) (cell_aside q1 (by omega))
  have s2 := Bel.keeps b2 (p := ⟨w.heap.size + 1 + 1, 2, none⟩) (v := .int .i64 0) (cell_aside q2 (by omega))
  have s3 := Bel.keeps b2 (p := ⟨w.heap.size + 1 + 1, 3, none⟩) (v := .int .i64 0) (cell_aside q3 (by omega))
  have s4 := Bel.keeps b2 (p := ⟨w.heap.size + 1 + 1, 4, none⟩) (v := .int .i64 0) (cell_aside q4 (by omega))
  have s5 := Bel.keeps b2 (p := ⟨w.heap.size + 1 + 1, 5, none⟩) (v := .int .i64 0) (cell_aside q5 (by omega))
  have g1 : w2.frozen? ⟨w.heap.size + 1 + 1, 1, none⟩ = false := by rw [b2.frozen (p := ⟨w.heap.size + 1 + 1, 1, none⟩) (by simp; omega)]; simpa using f1
  have g2 : w2.frozen? ⟨w.heap.size + 1 + 1, 2, none⟩ = false := by rw [b2.frozen (p := ⟨w.heap.size + 1 + 1, 2, none⟩) (by simp; omega)]; simpa using f2
  have g3 : w2.frozen? ⟨w.heap.size + 1 + 1, 3, none⟩ = false := by rw [b2.frozen (p := ⟨w.heap.size + 1 + 1, 3, none⟩) (by simp; omega)]; simpa using f3
  have g4 : w2.frozen? ⟨w.heap.size + 1 + 1, 4, none⟩ = false := by rw [b2.frozen (p := ⟨w.heap.size + 1 + 1, 4, none⟩) (by simp; omega)]; simpa using f4
  have g5 : w2.frozen? ⟨w.heap.size + 1 + 1, 5, none⟩ = false := by rw [b2.frozen (p := ⟨w.heap.size + 1 + 1, 5, none⟩) (by simp; omega)]; simpa using f5
  have hsz2 : w.heap.size + 3 ≤ w2.heap.size := by have := b2.size; simp at this; omega
  obtain ⟨va2, vcap2, hv2, _⟩ := hl2
  rw [HLN.out] at hv2
  subst hv2
  clear b2 d0 d1 d2 d3 d4 d5 q0 q1 q2 q3 q4 q5 f0 f1 f2 f3 f4 f5
  go_wp2_with fail
  refine (toTerm_fz k a t o _).mono ?_
  rintro e w3 ⟨rfl, b3, zc⟩
  have ZC3 : Hid (FZ w w3) := FZ.trans (ZC2.out.put _ _) zc
  clear zc
  have HB3 : Hid (Below w.heap.size w w3) := (HB2.out.setCell (by show w.heap.size ≤ w.heap.size + 1 + 1; omega) _).trans (b3.mono (by have := HB2.out.size; simpa using this))
  have HL13 : Hid (ListAt (w.heap.size + 3) 2 (PhiAt (w.heap.size + 3)) w3 (.slice va pn vcap) ps) := phis_keep (phis_keep HL1'.out (Keeps.setCell _ _ _ _ _ (by omega))) (Keeps.of_below b3 _)
  have HL23 : Hid (ListAt (w.heap.size + 3) 5 InsAt w3 (.slice va2 ln vcap2) is) := places_keep (places_keep HL2.out (Keeps.setCell _ _ _ _ _ (by omega))) (Keeps.of_below b3 _)
  have HD3 : Hid (∀ j, j < 6 → ∃ u, w3.cell? ⟨w.heap.size + 1, j, none⟩ = some u ∧ w3.frozen? ⟨w.heap.size + 1, j, none⟩ = false) := by
    intro j hj
    obtain ⟨u, h1, h2⟩ := HD2.out j hj
    rw [b3.frozen (p := ⟨w.heap.size + 1, j, none⟩) (by simp; omega), b3.cell (p := ⟨w.heap.size + 1, j, none⟩) (by simp; omega)]
    exact ⟨u, by rw [World.cell?_setCell_other _ _ _ _ (by simp)]; exact h1, by simpa using h2⟩
  have t0 := Bel.keeps b3 (p := ⟨w.heap.size + 1 + 1, 0, none⟩) (v := .slice va pn vcap) (cell_aside s0 (by omega))
  have t1 := Bel.keeps b3 (p := ⟨w.heap.size + 1 + 1, 1, none⟩) (v := .slice va2 ln vcap2) (cell_there s1)
  have t2 := Bel.keeps b3 (p := ⟨w.heap.size + 1 + 1, 2, none⟩) (v := .int .i64 0) (cell_aside s2 (by omega))
  have t3 := Bel.keeps b3 (p := ⟨w.heap.size + 1 + 1, 3, none⟩) (v := .int .i64 0) (cell_aside s3 (by omega))
  have t4 := Bel.keeps b3 (p := ⟨w.heap.size + 1 + 1, 4, none⟩) (v := .int .i64 0) (cell_aside s4 (by omega))
  have t5 := Bel.keeps b3 (p := ⟨w.heap.size + 1 + 1, 5, none⟩) (v := .int .i64 0) (cell_aside s5 (by omega))
  have h2 : w3.frozen? ⟨w.heap.size + 1 + 1, 2, none⟩ = false := by rw [b3.frozen (p := ⟨w.heap.size + 1 + 1, 2, none⟩) (by simp; omega)]; simpa using g2
  have h3 : w3.frozen? ⟨w.heap.size + 1 + 1, 3, none⟩ = false := by rw [b3.frozen (p := ⟨w.heap.size + 1 + 1, 3, none⟩) (by simp; omega)]; simpa using g3
  have h4 : w3.frozen? ⟨w.heap.size + 1 + 1, 4, none⟩ = false := by rw [b3.frozen (p := ⟨w.heap.size + 1 + 1, 4, none⟩) (by simp; omega)]; simpa using g4
  have h5 : w3.frozen? ⟨w.heap.size + 1 + 1, 5, none⟩ = false := by rw [b3.frozen (p := ⟨w.heap.size + 1 + 1, 5, none⟩) (by simp; omega)]; simpa using g5
  obtain ⟨r0, rc0, rf0⟩ := HD3.out 0 (by omega)
  obtain ⟨r1, rc1, rf1⟩ := HD3.out 1 (by omega)
  obtain ⟨r2, rc2, rf2⟩ := HD3.out 2 (by omega)
  obtain ⟨r3, rc3, rf3⟩ := HD3.out 3 (by omega)
  obtain ⟨r4, rc4, rf4⟩ := HD3.out 4 (by omega)
  obtain ⟨r5, rc5, rf5⟩ := HD3.out 5 (by omega)
  clear b3 s0 s1 s2 s3 s4 s5 g1 g2 g3 g4 g5 e2 e3 e4 e5
  go_wp2
  refine bodyPost_ret (v := .agg #[.slice va pn vcap, .slice va2 ln vcap2, .int .i64 k, .int .i64 a, .int .i64 t, .int .i64 o]) (by simp [results, Try.results45, go_sem, rc0, rc1, rc2, rc3, rc4, rc5]) rfl ?_
  have KP : ∀ lo, w.heap.size + 3 ≤ lo → Keeps lo w3 ((((((((((w3.setCell ⟨w.heap.size + 1 + 1, 2, none⟩ (.int .i64 k)).setCell ⟨w.heap.size + 1 + 1, 3, none⟩ (.int .i64 a)).setCell ⟨w.heap.size + 1 + 1, 4, none⟩ (.int .i64 t)).setCell ⟨w.heap.size + 1 + 1, 5, none⟩ (.int .i64 o)).setCell ⟨w.heap.size + 1, 0, none⟩ (.slice va pn vcap)).setCell ⟨w.heap.size + 1, 1, none⟩ (.slice va2 ln vcap2)).setCell ⟨w.heap.size + 1, 2, none⟩ (.int .i64 k)).setCell ⟨w.heap.size + 1, 3, none⟩ (.int .i64 a)).setCell ⟨w.heap.size + 1, 4, none⟩ (.int .i64 t)).setCell ⟨w.heap.size + 1, 5, none⟩ (.int .i64 o)) := by
    intro lo hlo
    iterate 10 (refine Keeps.trans ?_ (Keeps.setCell _ _ _ _ _ (by omega)))
    exact fun _ _ _ h => h
  refine ⟨_, _, rfl, (phis_keep HL13.out (KP _ (Nat.le_refl _))).low (by omega) fun _ _ _ hx => hx.low (by omega), (places_keep HL23.out (KP _ (Nat.le_refl _))).low (by omega) fun _ _ _ hx => hx, ?_, ?_⟩
  rotate_left
  · iterate 10 (refine FZ.put ?_ _ _)
    exact ZC3.out
  clear KP
  iterate 10 (refine Below.setCell ?_ (by simp <;> omega) _)
  exact HB3.out

theorem block_put {w : World} {B o : Nat} {u0 u1 u2 u3 u4 u5 : Value} {x2 x3 x4 x5 : Int} {pv lv : Value} {ps : List PhiD} {is : List InsD} (q0 : w.cell? ⟨B, o, none⟩ = some u0) (q1 : w.cell? ⟨B, o + 1, none⟩ = some u1) (q2 : w.cell? ⟨B, o + 2, none⟩ = some u2) (q3 : w.cell? ⟨B, o + 3, none⟩ = some u3) (q4 : w.cell? ⟨B, o + 4, none⟩ = some u4) (q5 : w.cell? ⟨B, o + 5, none⟩ = some u5) {lo : Nat} (hB : B < lo) (hp : ListAt lo 2 (PhiAt lo) w pv ps) (hl : ListAt lo 5 InsAt w lv is) :
    BlockAt lo ((((((w.setCell ⟨B, o, none⟩ pv).setCell ⟨B, o + 1, none⟩ lv).setCell ⟨B, o + 2, none⟩ (.int .i64 x2)).setCell ⟨B, o + 3, none⟩ (.int .i64 x3)).setCell ⟨B, o + 4, none⟩ (.int .i64 x4)).setCell ⟨B, o + 5, none⟩ (.int .i64 x5)) B o ⟨ps, is, ⟨x2, x3, x4, x5⟩⟩ := by
  have KP : Keeps lo w ((((((w.setCell ⟨B, o, none⟩ pv).setCell ⟨B, o + 1, none⟩ lv).setCell ⟨B, o + 2, none⟩ (.int .i64 x2)).setCell ⟨B, o + 3, none⟩ (.int .i64 x3)).setCell ⟨B, o + 4, none⟩ (.int .i64 x4)).setCell ⟨B, o + 5, none⟩ (.int .i64 x5)) := by
    iterate 6 (refine Keeps.trans ?_ (Keeps.setCell _ _ _ _ _ hB))
    exact fun _ _ _ h => h
  refine ⟨pv, lv, ?_, ?_, ?_, ?_, ?_, ?_, phis_keep hp KP, places_keep hl KP⟩
  · exact cell_aside (cell_aside (cell_aside (cell_aside (cell_aside (cell_there q0) (by omega)) (by omega)) (by omega)) (by omega)) (by omega)
  · exact cell_aside (cell_aside (cell_aside (cell_aside (cell_there (cell_aside q1 (by omega))) (by omega)) (by omega)) (by omega)) (by omega)
  · exact cell_aside (cell_aside (cell_aside (cell_there (cell_aside (cell_aside q2 (by omega)) (by omega))) (by omega)) (by omega)) (by omega)
  · exact cell_aside (cell_aside (cell_there (cell_aside (cell_aside (cell_aside q3 (by omega)) (by omega)) (by omega))) (by omega)) (by omega)
  · exact cell_aside (cell_there (cell_aside (cell_aside (cell_aside (cell_aside q4 (by omega)) (by omega)) (by omega)) (by omega))) (by omega)
  · exact cell_there (cell_aside (cell_aside (cell_aside (cell_aside (cell_aside q5 (by omega)) (by omega)) (by omega)) (by omega)) (by omega))

theorem make_blocks (n : Nat) (hn : n ≤ 1048576) (w : World) :
    (Instr.makeSlice 41 (.int .i64 (n : Int)) (.int .i64 (n : Int))).run Try.prog w = .ok (.slice (some ⟨w.heap.size, 0, none⟩) n n) (w.alloc (.cells (madeCells #[.slice none 0 0, .slice none 0 0, .int .i64 0, .int .i64 0, .int .i64 0, .int .i64 0] (n * 6)) 65)) :=
  make_of (z := .agg #[.slice none 0 0, .slice none 0 0, .int .i64 0, .int .i64 0, .int .i64 0, .int .i64 0]) (size := 6) (bytes := 80) Try.underlying41 (by kernel_rfl) n (by omega) (by omega) w

set_option maxHeartbeats 2000000 in
theorem toBlockS_any (v : Value) (l : List BlockD) (w : World) (ha : ListAt 0 6 (BlockAt 0) w v l) (hs : l.length ≤ 1048576) (hsm : ∀ x ∈ l, BlockSmall x) :
    Calls Try.prog 35 #[v] w fun e w' => GivesList w 6 (BlockAt w.heap.size) l e w' := by
  obtain ⟨a, cap, rfl, hm, hc⟩ := ha
  obtain ⟨n, HN⟩ : ∃ n, Hid (l.length = n) := ⟨_, rfl⟩
  rw [HN.out] at hm hc hs ⊢
  have HC : Hid (0 < n → ∃ b off, a = some ⟨b, off, none⟩ ∧ 0 ≤ b ∧ ∀ i x, l[i]? = some x → (BlockAt 0) w b (off + i * 6) x) := hc
  clear hc
  have SM : Hid (∀ x ∈ l, BlockSmall x) := hsm
  clear hsm
  have hmk := make_blocks n hs w
  go_enter Try.func35, Try.ntmps35
  go_wp2
  have HO : Hid (RowOpen (w.alloc (.cells (madeCells #[.slice none 0 0, .slice none 0 0, .int .i64 0, .int .i64 0, .int .i64 0, .int .i64 0] (n * 6)) 65)) w.heap.size (n * 6)) := rowOpen_made _ _ _ _
  go_loopw [4] (fun i wr => ∃ k : Nat, k ≤ n ∧ i = .int .i64 k ∧ (Below w.heap.size w wr ∧ FZ w wr) ∧ w.heap.size < wr.heap.size ∧ RowOpen wr w.heap.size (n * 6) ∧ ∀ j x, j < k → l[j]? = some x → (BlockAt (w.heap.size + 1)) wr w.heap.size (j * 6) x) (fun i _ => n - (intOf i).toNat)
  case atStart => exact ⟨0, Nat.zero_le _, rfl, ⟨Bel.alloc _ _, (FZ.refl _).alloc _ _⟩, by simp, HO.out, fun j x hj => absurd hj (by omega)⟩
  case round =>
    obtain ⟨k, hk, rfl, ⟨hb, hz⟩, hsz, ho, hd⟩ := hrel
    have Z1 : Hid (FZ w wr) := hz
    have H1 : Hid (Below w.heap.size w wr) := hb
    have H2 : Hid (RowOpen wr w.heap.size (n * 6)) := ho
    have H3 : Hid (∀ j x, j < k → l[j]? = some x → (BlockAt (w.heap.size + 1)) wr w.heap.size (j * 6) x) := hd
    clear hb hz ho hd hmk
    by_cases hlt : (k : Int) < (n : Int)
    · obtain ⟨b, off, rfl, _, hc1⟩ := HC.out (by omega)
      have hkl : k < l.length := by have := HN.out; omega
      obtain ⟨x, HX⟩ : ∃ x, Hid (l[k]? = some x) := ⟨l[k], List.getElem?_eq_getElem hkl⟩
      obtain ⟨pv, lv, c0, c1, c2, c3, c4, c5, hpv, hlv⟩ := (hc1 k x HX.out).keep (Keeps.of_below H1.out 0) (Nat.zero_le _)
      clear hc1 hkl
      obtain ⟨x0, x1, ⟨x2, x3, x4, x5⟩⟩ := x
      have HPV : Hid (ListAt 0 2 (PhiAt 0) wr pv x0) := hpv
      have HLV : Hid (ListAt 0 5 InsAt wr lv x1) := hlv
      clear hpv hlv
      have hwr : w.heap.size + 1 ≤ wr.heap.size := by obtain ⟨⟨u, hu⟩, _⟩ := H2.out 0 (by omega); exact World.block_lt_of_cell? wr _ hu
      go_wp2_with fail
      refine (toBlock_any pv lv x0 x1 x2 x3 x4 x5 _ HPV.out HLV.out (SM.out _ (List.mem_of_getElem? HX.out))).mono ?_
      rintro e w1 ⟨pv', lv', rfl, hnew, hnew2, b1, zc⟩
      have ZC : Hid (FZ wr w1) := zc
      clear zc
      have O1 : Hid (RowOpen w1 w.heap.size (n * 6)) := H2.out.keep b1
      have B1 : Hid (Below wr.heap.size wr w1) := b1
      have HNW : Hid (ListAt (w.heap.size + 1) 2 (PhiAt (w.heap.size + 1)) w1 pv' x0) := hnew.low hwr fun _ _ _ hx => hx.low hwr
      have HNL : Hid (ListAt (w.heap.size + 1) 5 InsAt w1 lv' x1) := hnew2.low hwr fun _ _ _ hx => hx
      obtain ⟨va, vcap, rfl, _⟩ := hnew
      obtain ⟨va2, vcap2, rfl, _⟩ := hnew2
      have hsz1 : w.heap.size < w1.heap.size := Nat.lt_of_lt_of_le hsz b1.size
      clear b1
      obtain ⟨⟨u0, q0⟩, f0⟩ := O1.out (k * 6) (by omega)
      obtain ⟨⟨u1, q1⟩, f1⟩ := O1.out (k * 6 + 1) (by omega)
      obtain ⟨⟨u2, q2⟩, f2⟩ := O1.out (k * 6 + 2) (by omega)
      obtain ⟨⟨u3, q3⟩, f3⟩ := O1.out (k * 6 + 3) (by omega)
      obtain ⟨⟨u4, q4⟩, f4⟩ := O1.out (k * 6 + 4) (by omega)
      obtain ⟨⟨u5, q5⟩, f5⟩ := O1.out (k * 6 + 5) (by omega)
      go_wp2
      go_roundw
      case rel =>
        refine ⟨k + 1, by omega, by go_num, ⟨(Bel.put (Bel.put (Bel.put (Bel.put (Bel.put (Bel.put (Below.trans H1.out (Below.mono B1.out (Nat.le_of_lt hsz))) _ _) _ _) _ _) _ _) _ _) _ _), (FZ.put (FZ.put (FZ.put (FZ.put (FZ.put (FZ.put (Z1.out.trans ZC.out) _ _) _ _) _ _) _ _) _ _) _ _)⟩, by simpa using hsz1, ((((((O1.out.store _ _).store _ _).store _ _).store _ _).store _ _).store _ _), fun j x hj hx => ?_⟩
        by_cases hjk : j = k
        · subst hjk
          have e := HX.out.symm.trans hx
          simp only [Option.some.injEq] at e
          subst e
          exact block_put q0 q1 q2 q3 q4 q5 (by omega) HNW.out HNL.out
        · exact ((((((((H3.out j x (by omega) hx).next B1.out).store (by omega) _ _ (by omega)).store (by omega) _ _ (by omega)).store (by omega) _ _ (by omega)).store (by omega) _ _ (by omega)).store (by omega) _ _ (by omega)).store (by omega) _ _ (by omega))
      case measure => simp [intOf]; omega
    · have hkn : k = n := by omega
      subst hkn
      go_wp2
      go_ret
      refine ⟨_, rfl, ⟨_, _, by rw [HN.out]; rfl, by rw [HN.out]; exact hm, fun _ => ⟨w.heap.size, 0, rfl, Nat.le_refl _, fun j x hj => ?_⟩⟩, H1.out, Z1.out⟩
      have hjl : j < k := by
        have h1 := HN.out
        by_cases hlt2 : j < l.length
        · omega
        · rw [List.getElem?_eq_none (by omega)] at hj
          cases hj
      have hx := H3.out j x hjl hj
      rw [Nat.zero_add]
      exact hx.low (by omega)

def GivesFn (w : World) (F : FnD) (e : Ending) (w' : World) : Prop := ∃ v, e = .returned v ∧ FnAtLo w.heap.size w' v F ∧ Below w.heap.size w w' ∧ FZ w w'

set_option maxHeartbeats 2000000 in
theorem toFn_any (v : Value) (F : FnD) (w : World) (hF : FnAt w v F) (hs : FnSmall F) :
    Calls Try.prog 20 #[v] w fun e w' => GivesFn w F e w' := by
  obtain ⟨bv, rfl, hb⟩ := hF
  have HB : Hid (ListAt 0 6 (BlockAt 0) w bv F.blocks) := hb
  have HS : Hid (FnSmall F) := hs
  obtain ⟨ba, bcap, hbv, _⟩ := hb
  obtain ⟨bn, HBN⟩ : ∃ bn, Hid (F.blocks.length = bn) := ⟨_, rfl⟩
  obtain ⟨x, HX⟩ : ∃ x, Hid (F.values = x) := ⟨_, rfl⟩
  rw [HBN.out] at hbv
  subst hbv
  rw [HX.out]
  clear hs
  go_enter Try.func20, Try.ntmps20
  go_wp2_with fail
  refine (toBlockS_any (.slice ba bn bcap) F.blocks _ (blocks_keep HB.out (Keeps.of_below (by repeat (first | exact Below.refl _ _ | apply Below.drew | refine Below.alloc ?_ (by simp <;> omega) _ | refine Below.setCell ?_ (by simp <;> omega) _)) 0)) HS.out.1 HS.out.2).mono ?_
  rintro e w1 ⟨v1, rfl, hl1, b1, zc⟩
  have ZC1 : Hid (FZ w w1) := FZ.trans (by repeat (first | exact FZ.refl _ | refine FZ.alloc ?_ _ _ | refine FZ.put ?_ _ _)) zc
  clear zc
  have HL1 : Hid (ListAt (w.heap.size + 3) 6 (BlockAt (w.heap.size + 3)) w1 v1 F.blocks) := hl1.low (by simp) fun _ _ _ hx => hx.low (by simp)
  have HB1 : Hid (Below w.heap.size w w1) := Bel.after (by repeat (first | exact Below.refl _ _ | apply Below.drew | refine Below.alloc ?_ (by simp <;> omega) _ | refine Below.setCell ?_ (by simp <;> omega) _)) b1
  have d1 := Bel.keeps b1 (p := ⟨w.heap.size, 1, none⟩) (v := .int .i64 x) (by simp [go_sem])
  have r0 := Bel.keeps b1 (p := ⟨w.heap.size + 1, 0, none⟩) (v := .slice none 0 0) (by simp [go_sem])
  have r1 := Bel.keeps b1 (p := ⟨w.heap.size + 1, 1, none⟩) (v := .int .i64 0) (by simp [go_sem])
  have q0 := Bel.keeps b1 (p := ⟨w.heap.size + 1 + 1, 0, none⟩) (v := .slice none 0 0) (by simp [go_sem])
  have q1 := Bel.keeps b1 (p := ⟨w.heap.size + 1 + 1, 1, none⟩) (v := .int .i64 0) (by simp [go_sem])
  have g0 : w1.frozen? ⟨w.heap.size + 1, 0, none⟩ = false := by rw [b1.frozen (p := ⟨w.heap.size + 1, 0, none⟩) (by simp)]; simp [go_sem]
  have g1 : w1.frozen? ⟨w.heap.size + 1, 1, none⟩ = false := by rw [b1.frozen (p := ⟨w.heap.size + 1, 1, none⟩) (by simp)]; simp [go_sem]
  have f0 : w1.frozen? ⟨w.heap.size + 1 + 1, 0, none⟩ = false := by rw [b1.frozen (p := ⟨w.heap.size + 1 + 1, 0, none⟩) (by simp)]; simp [go_sem]
  have f1 : w1.frozen? ⟨w.heap.size + 1 + 1, 1, none⟩ = false := by rw [b1.frozen (p := ⟨w.heap.size + 1 + 1, 1, none⟩) (by simp)]; simp [go_sem]
  obtain ⟨va, vcap, hv1, _⟩ := hl1
  rw [HBN.out] at hv1
  subst hv1
  clear b1
  go_wp2
  refine bodyPost_ret (v := .agg #[.slice va bn vcap, .int .i64 x]) (by simp [results, Try.results20, go_sem, r0, r1]) rfl ?_
  refine ⟨_, rfl, ⟨_, by rw [HX.out], (blocks_keep HL1.out ?_).low (by omega) fun _ _ _ hx => hx.low (by omega)⟩, ?_, ?_⟩
  · iterate 4 (refine Keeps.trans ?_ (Keeps.setCell _ _ _ _ _ (by omega)))
    exact fun _ _ _ h => h
  · iterate 4 (refine Below.setCell ?_ (by simp <;> omega) _)
    exact HB1.out
  · iterate 4 (refine FZ.put ?_ _ _)
    exact ZC1.out

end Go.Proofs.Ytgjojajodkagbaa
