/- A program is marked: only its own cells turn, numbers into numbers. Marking a program turns its own numbers alone. -/
import Derived.Test.YthdioeeanodjiaaDoorToK
import Derived.Test.YthdioeeanodjiaaDoorKBa
namespace Go.Proofs.YthdioeeanodjiaaDoor
open Go.ChangeShapes Go.WideShapes Go.ChangeAt Go.RowKit
set_option linter.unusedVariables false

/-- Numbers stay numbers, lists stay, nothing else turns: blocks from lo up to hi alone, nothing new. -/
structure Turns (lo hi : Nat) (w w' : World) : Prop where
  bel : Below lo w w'
  size : w'.heap.size = w.heap.size
  above : ∀ k, hi ≤ k → w'.heap[k]? = w.heap[k]?
  num : ∀ p z, w.cell? p = some (.int .i64 z) → ∃ z', w'.cell? p = some (.int .i64 z')
  list : ∀ p a n c, w.cell? p = some (.slice a n c) → w'.cell? p = some (.slice a n c)
  fz : FZ w w'

theorem Turns.refl (lo hi : Nat) (w : World) : Turns lo hi w w := ⟨Below.refl _ _, rfl, fun _ _ => rfl, fun _ z h => ⟨z, h⟩, fun _ _ _ _ h => h, FZ.refl _⟩
theorem Turns.trans {lo hi : Nat} {a b c : World} (h : Turns lo hi a b) (k : Turns lo hi b c) : Turns lo hi a c :=
  ⟨h.bel.trans k.bel, k.size.trans h.size, fun i hi' => (k.above i hi').trans (h.above i hi'), fun p z hz => by obtain ⟨z', hz'⟩ := h.num p z hz; exact k.num p z' hz', fun p x n y hl => k.list p x n y (h.list p x n y hl), h.fz.trans k.fz⟩
/-- A number is put where one was. -/
theorem Turns.put {lo hi : Nat} {a w : World} (h : Turns lo hi a w) {b o : Nat} {z : Int} (hc : w.cell? ⟨b, o, none⟩ = some (.int .i64 z)) (h1 : lo ≤ b) (h2 : b < hi) (x : Int) : Turns lo hi a (w.setCell ⟨b, o, none⟩ (.int .i64 x)) := by
  refine h.trans ⟨(Below.refl lo w).setCell (p := ⟨b, o, none⟩) h1 _, by simp [World.setCell], fun k hk => Below.heap_setCell _ _ _ _ (by show k ≠ b; omega), fun p z' hz => ?_, fun p a' n c hl => ?_, (FZ.refl w).put _ _⟩
  · by_cases e : p = ⟨b, o, none⟩
    · subst e
      exact ⟨x, World.cell?_setCell_same _ _ _ hc⟩
    · exact ⟨z', by rw [World.cell?_setCell_other _ _ _ _ (fun e' => e e'.symm)]; exact hz⟩
  · by_cases e : p = ⟨b, o, none⟩
    · subst e
      rw [hc] at hl
      cases hl
    · rw [World.cell?_setCell_other _ _ _ _ (fun e' => e e'.symm)]
      exact hl

/-- A list that can be marked: its elements, of k cells each, lie in one block from lo up to hi. -/
def MarkAt (lo hi k : Nat) (E : World → Nat → Nat → Prop) (w : World) (v : Value) (n : Nat) : Prop :=
  ∃ (a : Option Addr) (cap : Nat), v = .slice a n cap ∧ (0 < n → ∃ b off, a = some ⟨b, off, none⟩ ∧ lo ≤ b ∧ b < hi ∧ ∀ i, i < n → E w b (off + i * k))

theorem MarkAt.keep {lo hi k : Nat} {E : World → Nat → Nat → Prop} {w w' : World} {v : Value} {n : Nat} (h : MarkAt lo hi k E w v n) (hE : ∀ b o, E w b o → E w' b o) : MarkAt lo hi k E w' v n := by
  obtain ⟨a, cap, rfl, hc⟩ := h
  refine ⟨a, cap, rfl, fun hp => ?_⟩
  obtain ⟨b, off, rfl, h1, h2, hd⟩ := hc hp
  exact ⟨b, off, rfl, h1, h2, fun i hi => hE _ _ (hd i hi)⟩

def NumAt (w : World) (b o : Nat) : Prop := ∃ z, w.cell? ⟨b, o, none⟩ = some (.int .i64 z)
theorem NumAt.turn {lo hi : Nat} {w w' : World} (h : Turns lo hi w w') {b o : Nat} (hn : NumAt w b o) : NumAt w' b o := by
  obtain ⟨z, hz⟩ := hn
  exact h.num _ z hz
def ArmM (w : World) (b o : Nat) : Prop := NumAt w b o ∧ NumAt w b (o + 1)
def InsM (w : World) (b o : Nat) : Prop := NumAt w b o ∧ NumAt w b (o + 1) ∧ NumAt w b (o + 2) ∧ NumAt w b (o + 3) ∧ NumAt w b (o + 4)
def PhiM (lo hi : Nat) (w : World) (b o : Nat) : Prop := NumAt w b o ∧ ∃ v n, n ≤ 1048576 ∧ w.cell? ⟨b, o + 1, none⟩ = some v ∧ MarkAt lo hi 2 ArmM w v n
def BlockM (lo hi : Nat) (w : World) (b o : Nat) : Prop :=
  ∃ pv pn lv ln, pn ≤ 1048576 ∧ ln ≤ 1048576 ∧ w.cell? ⟨b, o, none⟩ = some pv ∧ w.cell? ⟨b, o + 1, none⟩ = some lv ∧ NumAt w b (o + 2) ∧ NumAt w b (o + 3) ∧ NumAt w b (o + 4) ∧ NumAt w b (o + 5) ∧
    MarkAt lo hi 2 (PhiM lo hi) w pv pn ∧ MarkAt lo hi 5 InsM w lv ln

theorem MarkAt.isSlice {lo hi k : Nat} {E : World → Nat → Nat → Prop} {w : World} {v : Value} {n : Nat} (h : MarkAt lo hi k E w v n) : ∃ a cap, v = .slice a n cap := by
  obtain ⟨a, cap, rfl, _⟩ := h
  exact ⟨a, cap, rfl⟩
theorem ArmM.turn {lo hi : Nat} {w w' : World} (h : Turns lo hi w w') {b o : Nat} (hn : ArmM w b o) : ArmM w' b o := ⟨hn.1.turn h, hn.2.turn h⟩
theorem InsM.turn {lo hi : Nat} {w w' : World} (h : Turns lo hi w w') {b o : Nat} (hn : InsM w b o) : InsM w' b o := ⟨hn.1.turn h, hn.2.1.turn h, hn.2.2.1.turn h, hn.2.2.2.1.turn h, hn.2.2.2.2.turn h⟩
theorem PhiM.turn {lo hi : Nat} {w w' : World} (h : Turns lo hi w w') {b o : Nat} (hn : PhiM lo hi w b o) : PhiM lo hi w' b o := by
  obtain ⟨h1, v, n, hn2, hv, hm⟩ := hn
  obtain ⟨a, cap, rfl⟩ := hm.isSlice
  exact ⟨h1.turn h, _, n, hn2, h.list _ _ _ _ hv, hm.keep fun _ _ hx => hx.turn h⟩
theorem BlockM.turn {lo hi : Nat} {w w' : World} (h : Turns lo hi w w') {b o : Nat} (hn : BlockM lo hi w b o) : BlockM lo hi w' b o := by
  obtain ⟨pv, pn, lv, ln, s1, s2, c0, c1, n2, n3, n4, n5, m1, m2⟩ := hn
  obtain ⟨a, cap, rfl⟩ := m1.isSlice
  obtain ⟨a2, cap2, rfl⟩ := m2.isSlice
  exact ⟨_, pn, _, ln, s1, s2, h.list _ _ _ _ c0, h.list _ _ _ _ c1, n2.turn h, n3.turn h, n4.turn h, n5.turn h, m1.keep fun _ _ hx => hx.turn h, m2.keep fun _ _ hx => hx.turn h⟩

/-! ### What was copied can be marked -/
theorem ListAt.markAt {α : Type} {lo k : Nat} {E : World → Nat → Nat → α → Prop} {M : World → Nat → Nat → Prop} {w : World} {v : Value} {l : List α} (h : ListAt lo k E w v l) (hb : ∀ b o x, E w b o x → b < w.heap.size) (hE : ∀ b o x, x ∈ l → E w b o x → M w b o) : MarkAt lo w.heap.size k M w v l.length := by
  obtain ⟨a, cap, rfl, hm, hc⟩ := h
  refine ⟨a, cap, rfl, fun hp => ?_⟩
  obtain ⟨b, off, rfl, h1, hd⟩ := hc hp
  refine ⟨b, off, rfl, h1, hb b _ _ (hd 0 _ (List.getElem?_eq_getElem hp)), fun i hi => hE _ _ _ (List.getElem_mem hi) (hd i _ (List.getElem?_eq_getElem hi))⟩
theorem ArmAt.lt {w : World} {b o : Nat} {x : ArmD} (h : ArmAt w b o x) : b < w.heap.size := World.block_lt_of_cell? w _ h.1
theorem InsAt.lt {w : World} {b o : Nat} {x : InsD} (h : InsAt w b o x) : b < w.heap.size := World.block_lt_of_cell? w _ h.1
theorem PhiAt.lt {lo : Nat} {w : World} {b o : Nat} {x : PhiD} (h : PhiAt lo w b o x) : b < w.heap.size := World.block_lt_of_cell? w _ h.1
theorem BlockAt.lt {lo : Nat} {w : World} {b o : Nat} {x : BlockD} (h : BlockAt lo w b o x) : b < w.heap.size := by
  obtain ⟨_, _, h1, _⟩ := h
  exact World.block_lt_of_cell? w _ h1
theorem ArmAt.m {w : World} {b o : Nat} {x : ArmD} (h : ArmAt w b o x) : ArmM w b o := ⟨⟨_, h.1⟩, ⟨_, h.2⟩⟩
theorem InsAt.m {w : World} {b o : Nat} {x : InsD} (h : InsAt w b o x) : InsM w b o := ⟨⟨_, h.1⟩, ⟨_, h.2.1⟩, ⟨_, h.2.2.1⟩, ⟨_, h.2.2.2.1⟩, ⟨_, h.2.2.2.2⟩⟩
theorem PhiAt.m {lo : Nat} {w : World} {b o : Nat} {x : PhiD} (h : PhiAt lo w b o x) (hs : PhiSmall x) : PhiM lo w.heap.size w b o := by
  obtain ⟨h1, v, h2, h3⟩ := h
  exact ⟨⟨_, h1⟩, v, _, hs, h2, h3.markAt (fun _ _ _ hx => hx.lt) (fun _ _ _ _ hx => hx.m)⟩
theorem BlockAt.m {lo : Nat} {w : World} {b o : Nat} {x : BlockD} (h : BlockAt lo w b o x) (hs : BlockSmall x) : BlockM lo w.heap.size w b o := by
  obtain ⟨pv, lv, h1, h2, h3, h4, h5, h6, h7, h8⟩ := h
  exact ⟨pv, _, lv, _, hs.1, hs.2.1, h1, h2, ⟨_, h3⟩, ⟨_, h4⟩, ⟨_, h5⟩, ⟨_, h6⟩, h7.markAt (fun _ _ _ hx => hx.lt) (fun _ _ x hm hx => hx.m (hs.2.2 x hm)), h8.markAt (fun _ _ _ hx => hx.lt) (fun _ _ _ _ hx => hx.m)⟩
/-- A program that can be marked. -/
def FnM (lo hi : Nat) (w : World) (v : Value) (n : Nat) (vals : Int) : Prop := ∃ bv, v = .agg #[bv, .int .i64 vals] ∧ MarkAt lo hi 6 (BlockM lo hi) w bv n
theorem FnAtLo.m {lo : Nat} {w : World} {v : Value} {F : FnD} (h : FnAtLo lo w v F) (hs : FnSmall F) : FnM lo w.heap.size w v F.blocks.length F.values := by
  obtain ⟨bv, rfl, hb⟩ := h
  exact ⟨bv, rfl, hb.markAt (fun _ _ _ hx => hx.lt) (fun _ _ x hm hx => hx.m (hs.2 x hm))⟩

/-! ### And still can, when the world has grown -/
theorem NumAt.later {w w' : World} (h : Below w.heap.size w w') {b o : Nat} (hn : NumAt w b o) : NumAt w' b o := by
  obtain ⟨z, hz⟩ := hn
  exact ⟨z, Bel.keeps h hz⟩
theorem ArmM.later {w w' : World} (h : Below w.heap.size w w') {b o : Nat} (hn : ArmM w b o) : ArmM w' b o := ⟨hn.1.later h, hn.2.later h⟩
theorem InsM.later {w w' : World} (h : Below w.heap.size w w') {b o : Nat} (hn : InsM w b o) : InsM w' b o := ⟨hn.1.later h, hn.2.1.later h, hn.2.2.1.later h, hn.2.2.2.1.later h, hn.2.2.2.2.later h⟩
theorem PhiM.later {lo hi : Nat} {w w' : World} (h : Below w.heap.size w w') {b o : Nat} (hn : PhiM lo hi w b o) : PhiM lo hi w' b o := by
  obtain ⟨h1, v, n, hn2, hv, hm⟩ := hn
  exact ⟨h1.later h, _, n, hn2, Bel.keeps h hv, hm.keep fun _ _ hx => hx.later h⟩
theorem BlockM.later {lo hi : Nat} {w w' : World} (h : Below w.heap.size w w') {b o : Nat} (hn : BlockM lo hi w b o) : BlockM lo hi w' b o := by
  obtain ⟨pv, pn, lv, ln, s1, s2, c0, c1, n2, n3, n4, n5, m1, m2⟩ := hn
  exact ⟨_, pn, _, ln, s1, s2, Bel.keeps h c0, Bel.keeps h c1, n2.later h, n3.later h, n4.later h, n5.later h, m1.keep fun _ _ hx => hx.later h, m2.keep fun _ _ hx => hx.later h⟩
theorem FnM.later {lo hi : Nat} {w w' : World} {v : Value} {n : Nat} {vals : Int} (hn : FnM lo hi w v n vals) (h : Below w.heap.size w w') : FnM lo hi w' v n vals := by
  obtain ⟨bv, rfl, hb⟩ := hn
  exact ⟨bv, rfl, hb.keep fun _ _ hx => hx.later h⟩
end Go.Proofs.YthdioeeanodjiaaDoor

namespace Go.Proofs.YthdioeeanodjiaaDoor
open Go.ChangeShapes Go.WideShapes Go.ChangeAt Go.RowKit
set_option linter.unusedVariables false

/-- Nothing there is frozen. -/
def Thaw (lo hi : Nat) (w : World) : Prop := ∀ p : Addr, lo ≤ p.block → p.block < hi → w.frozen? p = false
theorem Thaw.turn {lo hi : Nat} {w w' : World} (h : Thaw lo hi w) (t : Turns lo hi w w') : Thaw lo hi w' := fun p h1 h2 => (t.fz p).trans (h p h1 h2)
/-- So many marks at most were put. -/
def GivesMark (lo hi : Nat) (q c : Int) (w : World) (e : Ending) (w' : World) : Prop := ∃ z, e = .returned (.int .i64 z) ∧ q ≤ z ∧ z ≤ q + c ∧ Turns lo hi w w'

set_option maxHeartbeats 2000000 in
theorem markArmS_any (lo hi : Nat) (v : Value) (n : Nat) (q : Int) (w : World) (hm : MarkAt lo hi 2 ArmM w v n) (hz : Thaw lo hi w) (hn : n ≤ 1048576) (hq : 0 ≤ q) (hq2 : q ≤ 4611686018427387904) :
    Calls Tryd.prog 84 #[v, .int .i64 q] w fun e w' => GivesMark lo hi q 2097152 w e w' := by
  obtain ⟨a, cap, rfl, hc⟩ := hm
  have HC : Hid (0 < n → ∃ b off, a = some ⟨b, off, none⟩ ∧ lo ≤ b ∧ b < hi ∧ ∀ i, i < n → ArmM w b (off + i * 2)) := hc
  have HZ : Hid (Thaw lo hi w) := hz
  clear hc hz
  go_enter Tryd.func84, Tryd.ntmps84
  go_wp2
  go_loopw [1, 5] (fun kv i wr => ∃ (k : Nat) (z : Int), k ≤ n ∧ i = .int .i64 k ∧ kv = .int .i64 z ∧ q ≤ z ∧ z ≤ q + k * 2 ∧ Turns lo hi w wr) (fun _ i _ => n - (intOf i).toNat)
  case atStart => exact ⟨0, q, Nat.zero_le _, rfl, rfl, Int.le_refl _, by omega, Turns.refl _ _ _⟩
  case round =>
    obtain ⟨k, z, hk, rfl, rfl, hz1, hz2, ht⟩ := hrel
    have HT : Hid (Turns lo hi w wr) := ht
    clear ht
    by_cases hlt : (k : Int) < (n : Int)
    · obtain ⟨b, off, rfl, hb1, hb2, hc1⟩ := HC.out (by omega)
      obtain ⟨⟨z0, c0⟩, ⟨z1, c1⟩⟩ := (hc1 k (by omega)).turn HT.out
      clear hc1
      have f0 := (HZ.out.turn HT.out) ⟨b, off + k * 2, none⟩ hb1 hb2
      have f1 := (HZ.out.turn HT.out) ⟨b, off + k * 2 + 1, none⟩ hb1 hb2
      go_wp2
      go_roundw
      case rel =>
        exact ⟨k + 1, z + 2, by omega, by go_num, by go_num, by omega, by omega, (Turns.put (Turns.put HT.out c0 hb1 hb2 _) (cell_aside c1 (by omega)) hb1 hb2 _)⟩
      case measure => simp [intOf]; omega
    · go_wp2
      go_ret
      exact ⟨z, rfl, hz1, by omega, HT.out⟩

set_option maxHeartbeats 2000000 in
theorem markInsS_any (lo hi : Nat) (v : Value) (n : Nat) (q : Int) (w : World) (hm : MarkAt lo hi 5 InsM w v n) (hz : Thaw lo hi w) (hn : n ≤ 1048576) (hq : 0 ≤ q) (hq2 : q ≤ 4611686018427387904) :
    Calls Tryd.prog 64 #[v, .int .i64 q] w fun e w' => GivesMark lo hi q 5242880 w e w' := by
  obtain ⟨a, cap, rfl, hc⟩ := hm
  have HC : Hid (0 < n → ∃ b off, a = some ⟨b, off, none⟩ ∧ lo ≤ b ∧ b < hi ∧ ∀ i, i < n → InsM w b (off + i * 5)) := hc
  have HZ : Hid (Thaw lo hi w) := hz
  clear hc hz
  go_enter Tryd.func64, Tryd.ntmps64
  go_wp2
  go_loopw [1, 5] (fun kv i wr => ∃ (k : Nat) (z : Int), k ≤ n ∧ i = .int .i64 k ∧ kv = .int .i64 z ∧ q ≤ z ∧ z ≤ q + k * 5 ∧ Turns lo hi w wr) (fun _ i _ => n - (intOf i).toNat)
  case atStart => exact ⟨0, q, Nat.zero_le _, rfl, rfl, Int.le_refl _, by omega, Turns.refl _ _ _⟩
  case round =>
    obtain ⟨k, z, hk, rfl, rfl, hz1, hz2, ht⟩ := hrel
    have HT : Hid (Turns lo hi w wr) := ht
    clear ht
    by_cases hlt : (k : Int) < (n : Int)
    · obtain ⟨b, off, rfl, hb1, hb2, hc1⟩ := HC.out (by omega)
      obtain ⟨⟨z0, c0⟩, ⟨z1, c1⟩, ⟨z2, c2⟩, ⟨z3, c3⟩, ⟨z4, c4⟩⟩ := (hc1 k (by omega)).turn HT.out
      clear hc1
      have f0 := (HZ.out.turn HT.out) ⟨b, off + k * 5, none⟩ hb1 hb2
      have f1 := (HZ.out.turn HT.out) ⟨b, off + k * 5 + 1, none⟩ hb1 hb2
      have f2 := (HZ.out.turn HT.out) ⟨b, off + k * 5 + 2, none⟩ hb1 hb2
      have f3 := (HZ.out.turn HT.out) ⟨b, off + k * 5 + 3, none⟩ hb1 hb2
      have f4 := (HZ.out.turn HT.out) ⟨b, off + k * 5 + 4, none⟩ hb1 hb2
      go_wp2
      go_roundw
      case rel =>
        exact ⟨k + 1, z + 5, by omega, by go_num, by go_num, by omega, by omega, (Turns.put (Turns.put (Turns.put (Turns.put (Turns.put HT.out c0 hb1 hb2 _) (cell_aside c1 (by omega)) hb1 hb2 _) (cell_aside (cell_aside c2 (by omega)) (by omega)) hb1 hb2 _) (cell_aside (cell_aside (cell_aside c3 (by omega)) (by omega)) (by omega)) hb1 hb2 _) (cell_aside (cell_aside (cell_aside (cell_aside c4 (by omega)) (by omega)) (by omega)) (by omega)) hb1 hb2 _)⟩
      case measure => simp [intOf]; omega
    · go_wp2
      go_ret
      exact ⟨z, rfl, hz1, by omega, HT.out⟩

set_option maxHeartbeats 2000000 in
theorem markPhiS_any (lo hi : Nat) (v : Value) (n : Nat) (q : Int) (w : World) (hm : MarkAt lo hi 2 (PhiM lo hi) w v n) (hz : Thaw lo hi w) (hn : n ≤ 1048576) (hq : 0 ≤ q) (hq2 : q ≤ 4000000000000000000) :
    Calls Tryd.prog 63 #[v, .int .i64 q] w fun e w' => GivesMark lo hi q 2199024304128 w e w' := by
  obtain ⟨a, cap, rfl, hc⟩ := hm
  have HC : Hid (0 < n → ∃ b off, a = some ⟨b, off, none⟩ ∧ lo ≤ b ∧ b < hi ∧ ∀ i, i < n → PhiM lo hi w b (off + i * 2)) := hc
  have HZ : Hid (Thaw lo hi w) := hz
  clear hc hz
  go_enter Tryd.func63, Tryd.ntmps63
  go_wp2_with fail
  go_loopw [1, 5] (fun kv i wr => ∃ (k : Nat) (z : Int), k ≤ n ∧ i = .int .i64 k ∧ kv = .int .i64 z ∧ q ≤ z ∧ z ≤ q + k * 2097153 ∧ Turns lo hi w wr) (fun _ i _ => n - (intOf i).toNat)
  case atStart => exact ⟨0, q, Nat.zero_le _, rfl, rfl, Int.le_refl _, by omega, Turns.refl _ _ _⟩
  case round =>
    obtain ⟨k, z, hk, rfl, rfl, hz1, hz2, ht⟩ := hrel
    have HT : Hid (Turns lo hi w wr) := ht
    clear ht
    by_cases hlt : (k : Int) < (n : Int)
    · obtain ⟨b, off, rfl, hb1, hb2, hc1⟩ := HC.out (by omega)
      obtain ⟨⟨z0, c0⟩, sv, sn, hsn, c1, hsv⟩ := (hc1 k (by omega)).turn HT.out
      clear hc1
      have f0 := (HZ.out.turn HT.out) ⟨b, off + k * 2, none⟩ hb1 hb2
      have HT1 : Hid (Turns lo hi w (wr.setCell ⟨b, off + k * 2, none⟩ (.int .i64 z))) := HT.out.put c0 hb1 hb2 _
      have HSV : Hid (MarkAt lo hi 2 ArmM (wr.setCell ⟨b, off + k * 2, none⟩ (.int .i64 z)) sv sn) := hsv.keep fun _ _ hx => hx.turn ((Turns.refl lo hi wr).put c0 hb1 hb2 _)
      obtain ⟨sa, scap, rfl⟩ := hsv.isSlice
      clear hsv
      go_wp2_with fail
      refine (markArmS_any lo hi _ sn (z + 1) _ HSV.out (HZ.out.turn HT1.out) hsn (by omega) (by omega)).mono ?_
      rintro e w1 ⟨z1, rfl, h1, h2, t1⟩
      have HT2 : Hid (Turns lo hi w w1) := HT1.out.trans t1
      clear t1 c0 c1 f0
      go_wp2_with fail
      go_roundw
      case rel => exact ⟨k + 1, z1, by omega, by go_num, rfl, by omega, by omega, HT2.out⟩
      case measure => simp [intOf]; omega
    · go_wp2_with fail
      go_ret
      exact ⟨z, rfl, hz1, by omega, HT.out⟩

set_option maxHeartbeats 4000000 in
theorem markBlockS_any (lo hi : Nat) (v : Value) (n : Nat) (q : Int) (w : World) (hm : MarkAt lo hi 6 (BlockM lo hi) w v n) (hz : Thaw lo hi w) (hn : n ≤ 1048576) (hq : 0 ≤ q) (hq2 : q ≤ 1000000) :
    Calls Tryd.prog 38 #[v, .int .i64 q] w fun e w' => GivesMark lo hi q 2305849606287654912 w e w' := by
  obtain ⟨a, cap, rfl, hc⟩ := hm
  have HC : Hid (0 < n → ∃ b off, a = some ⟨b, off, none⟩ ∧ lo ≤ b ∧ b < hi ∧ ∀ i, i < n → BlockM lo hi w b (off + i * 6)) := hc
  have HZ : Hid (Thaw lo hi w) := hz
  clear hc hz
  go_enter Tryd.func38, Tryd.ntmps38
  go_wp2_with fail
  go_loopw [1, 5] (fun kv i wr => ∃ (k : Nat) (z : Int), k ≤ n ∧ i = .int .i64 k ∧ kv = .int .i64 z ∧ q ≤ z ∧ z ≤ q + k * 2199029547012 ∧ Turns lo hi w wr) (fun _ i _ => n - (intOf i).toNat)
  case atStart => exact ⟨0, q, Nat.zero_le _, rfl, rfl, Int.le_refl _, by omega, Turns.refl _ _ _⟩
  case round =>
    obtain ⟨k, z, hk, rfl, rfl, hz1, hz2, ht⟩ := hrel
    have HT : Hid (Turns lo hi w wr) := ht
    clear ht
    by_cases hlt : (k : Int) < (n : Int)
    · obtain ⟨b, off, rfl, hb1, hb2, hc1⟩ := HC.out (by omega)
      have HM : Hid (BlockM lo hi w b (off + k * 6)) := hc1 k (by omega)
      clear hc1
      obtain ⟨pv, pn, lv, ln, hpn, hln, c0, c1, n2, n3, n4, n5, m1, m2⟩ := HM.out.turn HT.out
      have HP : Hid (MarkAt lo hi 2 (PhiM lo hi) wr pv pn) := m1
      obtain ⟨pa, pcap, rfl⟩ := m1.isSlice
      obtain ⟨la, lcap, rfl⟩ := m2.isSlice
      clear m1 m2 n2 n3 n4 n5
      go_wp2_with fail
      refine (markPhiS_any lo hi _ pn z _ HP.out (HZ.out.turn HT.out) hpn (by omega) (by omega)).mono ?_
      rintro e w1 ⟨z1, rfl, h1, h2, t1⟩
      have HT1 : Hid (Turns lo hi w w1) := HT.out.trans t1
      have HL : Hid (MarkAt lo hi 5 InsM w1 (.slice la ln lcap) ln) := by
        obtain ⟨pv', pn', lv', ln', hpn', hln', c0', c1', n2', n3', n4', n5', m1', m2'⟩ := HM.out.turn HT1.out
        have e1 := c1'.symm.trans (t1.list _ _ _ _ c1)
        simp only [Option.some.injEq] at e1
        subst e1
        obtain ⟨_, _, e2⟩ := m2'.isSlice
        simp only [Value.slice.injEq] at e2
        have e3 : ln = ln' := e2.2.1
        subst e3
        exact m2'
      have d1 := t1.list _ _ _ _ c1
      clear t1 c0 c1
      go_wp2_with fail
      refine (markInsS_any lo hi _ ln z1 _ HL.out (HZ.out.turn HT1.out) hln (by omega) (by omega)).mono ?_
      rintro e w2 ⟨z2, rfl, h3, h4, t2⟩
      have HT2 : Hid (Turns lo hi w w2) := HT1.out.trans t2
      clear t2 d1
      obtain ⟨_, _, _, _, _, _, _, _, ⟨x2, c2⟩, ⟨x3, c3⟩, ⟨x4, c4⟩, ⟨x5, c5⟩, _, _⟩ := HM.out.turn HT2.out
      have f2 := (HZ.out.turn HT2.out) ⟨b, off + k * 6 + 2, none⟩ hb1 hb2
      have f3 := (HZ.out.turn HT2.out) ⟨b, off + k * 6 + 3, none⟩ hb1 hb2
      have f4 := (HZ.out.turn HT2.out) ⟨b, off + k * 6 + 4, none⟩ hb1 hb2
      have f5 := (HZ.out.turn HT2.out) ⟨b, off + k * 6 + 5, none⟩ hb1 hb2
      go_wp2_with fail
      go_roundw
      case rel =>
        exact ⟨k + 1, z2 + 4, by omega, by go_num, by go_num, by omega, by omega, Turns.put (Turns.put (Turns.put (Turns.put HT2.out c2 hb1 hb2 _) (cell_aside c3 (by omega)) hb1 hb2 _) (cell_aside (cell_aside c4 (by omega)) (by omega)) hb1 hb2 _) (cell_aside (cell_aside (cell_aside c5 (by omega)) (by omega)) (by omega)) hb1 hb2 _⟩
      case measure => simp [intOf]; omega
    · go_wp2_with fail
      go_ret
      exact ⟨z, rfl, hz1, by omega, HT.out⟩

/-- A program was marked: what lies below lo and from hi on is as it was. -/
structure Marked (lo hi : Nat) (w w' : World) : Prop where
  bel : Below lo w w'
  above : ∀ k, hi ≤ k → k < w.heap.size → w'.heap[k]? = w.heap[k]?

set_option maxHeartbeats 1000000 in
theorem markFn_any (lo hi : Nat) (v : Value) (n : Nat) (vals : Int) (q : Int) (w : World) (hm : FnM lo hi w v n vals) (hz : Thaw lo hi w) (hn : n ≤ 1048576) (hlo : lo ≤ w.heap.size) (hhi : hi ≤ w.heap.size) (hq : 0 ≤ q) (hq2 : q ≤ 1000000) :
    Calls Tryd.prog 17 #[v, .int .i64 q] w fun e w' => ∃ z, e = .returned (.int .i64 z) ∧ 0 ≤ z ∧ Marked lo hi w w' := by
  obtain ⟨bv, rfl, hb⟩ := hm
  have HB : Hid (MarkAt lo hi 6 (BlockM lo hi) w bv n) := hb
  have HZ : Hid (Thaw lo hi w) := hz
  obtain ⟨ba, bcap, rfl⟩ := hb.isSlice
  clear hb hz
  go_enter Tryd.func17, Tryd.ntmps17
  go_wp2_with fail
  refine (markBlockS_any lo hi _ n q _ (HB.out.keep fun _ _ hx => hx.later (Bel.alloc _ _)) (fun p h1 h2 => (frozen?_alloc_cells _ _ _ _).trans (HZ.out p h1 h2)) hn hq hq2).mono ?_
  rintro e w1 ⟨z, rfl, h1, h2, t1⟩
  have HT : Hid (Turns lo hi (w.alloc (.cells #[.slice ba n bcap, .int .i64 vals] 26)) w1) := t1
  clear t1
  go_wp2_with fail
  go_ret
  refine ⟨z, rfl, by omega, ((Below.refl lo w).alloc hlo _).trans HT.out.bel, fun k hk hk2 => ?_⟩
  exact (HT.out.above k hk).trans (Below.heap_alloc w _ k hk2)
end Go.Proofs.YthdioeeanodjiaaDoor
