/- The model's cursor of drawn bytes: whatever the bytes, each draw returns a number within its bounds, turns nothing but the cursor's own block, and leaves a cursor. Lists of bytes: compared, marked, held against the marks, copied. -/
import Derived.Test.YthdioeeanodjiaaDoorRows
import Derived.WalkKit
import Derived.ProofKit
import Derived.OpenShut
import Derived.Laws.Shifts
import Derived.Below
import Derived.Deep.QuietTactic
import Derived.BigQuiet
import Derived.Test.YthdioeeanodjiaaDoorKBa
import Derived.Deep.OwnRows
namespace Go.Proofs.YthdioeeanodjiaaDoor
open Go.ChangeShapes Go.WideShapes Go.ChangeAt Go.RowKit
set_option linter.unusedVariables false

theorem andMask (b : Int) (m : Nat) (k : Nat) (hk : k ≤ 62) (hm : m = 2 ^ k - 1) (hb : (BitVec.ofInt 64 (m : Int)).toNat = m) : bits .and .i64 b (m : Int) = b % ((2 ^ k : Nat) : Int) := by
  have h : (BitVec.ofInt 64 b &&& BitVec.ofInt 64 (m : Int)).toNat = (BitVec.ofInt 64 b).toNat % 2 ^ k := by
    rw [BitVec.toNat_and, hb, hm]
    exact Nat.and_two_pow_sub_one_eq_mod _ k
  have h2 : (BitVec.ofInt 64 b).toNat = (b % 18446744073709551616).toNat := by
    rw [BitVec.toNat_ofInt]; rfl
  show IntKind.i64.wrap ((BitVec.ofInt 64 b &&& BitVec.ofInt 64 (m : Int)).toNat : Int) = _
  rw [h, h2]
  have hd : (2 : Nat) ^ k ∣ 18446744073709551616 := by
    have e : (18446744073709551616 : Nat) = 2 ^ 64 := by decide
    rw [e]
    exact Nat.pow_dvd_pow 2 (by omega)
  obtain ⟨q, hq⟩ := hd
  have hlt : (2 : Nat) ^ k ≤ 4611686018427387904 := by
    have e : (4611686018427387904 : Nat) = 2 ^ 62 := by decide
    rw [e]
    exact Nat.pow_le_pow_right (by omega) hk
  have hpos : 0 < (2 : Nat) ^ k := Nat.pow_pos (by omega)
  generalize hP : (2 : Nat) ^ k = P at *
  have e1 : (((b % 18446744073709551616).toNat % P : Nat) : Int) = b % (P : Int) := by
    have h0 : 0 ≤ b % 18446744073709551616 := Int.emod_nonneg _ (by decide)
    rw [Int.natCast_emod, Int.toNat_of_nonneg h0]
    have hq' : (18446744073709551616 : Int) = (P : Int) * (q : Int) := by rw [← Int.natCast_mul, ← hq]; rfl
    rw [hq']
    exact Int.emod_emod_of_dvd b ⟨(q : Int), rfl⟩
  rw [e1]
  have h3 : 0 ≤ b % (P : Int) := Int.emod_nonneg _ (by omega)
  have h4 : b % (P : Int) < (P : Int) := Int.emod_lt_of_pos _ (by omega)
  simp [IntKind.wrap, IntKind.bits, IntKind.signed]
  omega

theorem and255 (b : Int) : bits .and .i64 b 255 = b % 256 := andMask b 255 8 (by omega) (by omega) (by decide)
theorem and255_lo (b : Int) : 0 ≤ bits .and .i64 b 255 := by rw [and255]; omega
theorem and255_hi (b : Int) : bits .and .i64 b 255 ≤ 255 := by rw [and255]; omega

/-- What is known of a slice of integers: it is nil, or it leads to a row of 'cap' cells. -/
def IsRow (k : IntKind) (w : World) (a : Option Addr) (len cap : Nat) (zs : List Int) : Prop :=
  (a = none ∧ len = 0 ∧ cap = 0 ∧ zs = []) ∨
  ∃ x, a = some x ∧ len ≤ cap ∧ cap ≤ maxLen ∧ zs.length = cap ∧ (∀ i, i < zs.length → w.cell? (x.add i) = some (.int k (zs.getD i 0))) ∧ ∀ n ∈ zs, (Lit.int k n).wf = true

theorem addr_add (b off k : Nat) : (⟨b, off, none⟩ : Addr).add k = ⟨b, off + k, none⟩ := by
  unfold Addr.add
  split <;> simp_all

theorem add_block (x : Addr) (k : Nat) : (x.add k).block = x.block := by
  unfold Addr.add
  split <;> rfl

/-- Nothing that was there has turned but block p. -/
structure Fr (p : Nat) (w w' : World) : Prop where
  os : w'.os = w.os
  tape : w'.tape = w.tape
  output : w'.output = w.output
  size : w.heap.size ≤ w'.heap.size
  block : ∀ k, k < w.heap.size → k ≠ p → w'.heap[k]? = w.heap[k]?

theorem Fr.refl (p : Nat) (w : World) : Fr p w w := ⟨rfl, rfl, rfl, Nat.le_refl _, fun _ _ _ => rfl⟩
theorem Fr.trans {p : Nat} {a b c : World} (h : Fr p a b) (k : Fr p b c) : Fr p a c :=
  ⟨k.os.trans h.os, k.tape.trans h.tape, k.output.trans h.output, Nat.le_trans h.size k.size, fun i hi hp => (k.block i (Nat.lt_of_lt_of_le hi h.size) hp).trans (h.block i hi hp)⟩
theorem Fr.drew {p : Nat} {a w : World} (h : Fr p a w) : Fr p a w.drew := ⟨h.os, h.tape, h.output, h.size, h.block⟩
theorem Fr.drewN {p : Nat} {a w : World} (h : Fr p a w) (n : Nat) : Fr p a (w.drewN n) := ⟨h.os, h.tape, h.output, h.size, h.block⟩
theorem Fr.setCell {p : Nat} {a w : World} (h : Fr p a w) (o : Nat) (u : Value) : Fr p a (w.setCell ⟨p, o, none⟩ u) :=
  h.trans ⟨rfl, rfl, rfl, by simp [World.setCell], fun k _ hp => Below.heap_setCell _ _ _ _ hp⟩
theorem Fr.alloc {p : Nat} {a w : World} (h : Fr p a w) (o : Obj) : Fr p a (w.alloc o) :=
  h.trans ⟨rfl, rfl, rfl, by simp, fun k hk _ => Below.heap_alloc _ _ _ hk⟩
theorem Fr.below {p B : Nat} {a w : World} (h : Fr p a w) (hp : B ≤ p) (hB : B ≤ a.heap.size) : Below B a w :=
  ⟨h.os, h.tape, h.output, h.size, fun k hk => h.block k (by omega) (by omega)⟩
theorem Fr.ofBelow {p : Nat} {a w : World} (h : Below a.heap.size a w) : Fr p a w :=
  ⟨h.os, h.tape, h.output, h.size, fun k hk _ => h.block k hk⟩
theorem Fr.cell {p : Nat} {a w : World} (h : Fr p a w) {x : Addr} (hx : x.block < a.heap.size) (hp : x.block ≠ p) : w.cell? x = a.cell? x := World.cell?_of_block (w := a) (h.block x.block hx hp)
theorem Fr.frozen {p : Nat} {a w : World} (h : Fr p a w) {x : Addr} (hx : x.block < a.heap.size) (hp : x.block ≠ p) : w.frozen? x = a.frozen? x := World.frozen?_of_block (w := a) (h.block x.block hx hp)

theorem IsRow.lt {k : IntKind} {w : World} {a : Option Addr} {len cap : Nat} {zs : List Int} (h : IsRow k w a len cap zs) : ∀ x, a = some x → 0 < cap → x.block < w.heap.size := by
  intro x hx hc
  rcases h with ⟨h, _⟩ | ⟨y, h, h1, h2, h3, hcell, hw⟩
  · rw [h] at hx; cases hx
  · rw [h] at hx
    cases hx
    have h0 := World.block_lt_of_cell? w _ (hcell 0 (by omega))
    rw [add_block] at h0
    exact h0

theorem IsRow.keep {p : Nat} {k : IntKind} {w w' : World} {a : Option Addr} {len cap : Nat} {zs : List Int} (h : IsRow k w a len cap zs) (hp : ∀ x, a = some x → 0 < cap → x.block ≠ p) (hf : Fr p w w') : IsRow k w' a len cap zs := by
  rcases h with h | ⟨x, rfl, h1, h2, h3, hc, hw⟩
  · exact .inl h
  · refine .inr ⟨x, rfl, h1, h2, h3, fun i hi => ?_, hw⟩
    have hci := hc i hi
    rw [hf.cell (x := x.add i) (World.block_lt_of_cell? w _ hci) (by rw [add_block]; exact hp x rfl (by omega))]
    exact hci

/-- A cursor lies in block p. -/
def Cur (w : World) (p : Nat) : Prop := ∃ (a : Option Addr) (len cap : Nat) (zs : List Int) (i h : Int),
  w.cell? ⟨p, 0, none⟩ = some (.slice a len cap) ∧ w.cell? ⟨p, 1, none⟩ = some (.int .i64 i) ∧ w.cell? ⟨p, 2, none⟩ = some (.int .i64 h) ∧
  w.frozen? ⟨p, 1, none⟩ = false ∧ w.frozen? ⟨p, 2, none⟩ = false ∧ 0 ≤ i ∧ IsRow .u8 w a len cap zs ∧ (∀ x, a = some x → 0 < cap → x.block < p)

theorem Cur.keep {w w' : World} {p q : Nat} (h : Cur w p) (hf : Fr q w w') (hpq : p ≠ q) (hq : ∀ a len cap, w.cell? ⟨p, 0, none⟩ = some (.slice a len cap) → ∀ x, a = some x → 0 < cap → x.block ≠ q) : Cur w' p := by
  obtain ⟨a, len, cap, zs, i, h, c0, c1, c2, f1, f2, hi, hr, hx⟩ := h
  have hb : p < w.heap.size := World.block_lt_of_cell? w _ c0
  refine ⟨a, len, cap, zs, i, h, ?_, ?_, ?_, ?_, ?_, hi, hr.keep (hq a len cap c0) hf, hx⟩
  · rw [hf.cell (x := ⟨p, 0, none⟩) hb hpq]; exact c0
  · rw [hf.cell (x := ⟨p, 1, none⟩) hb hpq]; exact c1
  · rw [hf.cell (x := ⟨p, 2, none⟩) hb hpq]; exact c2
  · rw [hf.frozen (x := ⟨p, 1, none⟩) hb hpq]; exact f1
  · rw [hf.frozen (x := ⟨p, 2, none⟩) hb hpq]; exact f2

theorem Cur.later {w w' : World} {p : Nat} (h : Cur w p) (hf : Below w.heap.size w w') : Cur w' p := by
  have hf' := hf
  obtain ⟨a, len, cap, zs, i, h, c0, c1, c2, f1, f2, hi, hr, hx⟩ := h
  have hb : p < w.heap.size := World.block_lt_of_cell? w _ c0
  refine ⟨a, len, cap, zs, i, h, ?_, ?_, ?_, ?_, ?_, hi, hr.keep (p := p) (fun x h1 h2 => Nat.ne_of_lt (hx x h1 h2)) (Fr.ofBelow hf), hx⟩
  · rw [hf.cell (p := ⟨p, 0, none⟩) hb]; exact c0
  · rw [hf.cell (p := ⟨p, 1, none⟩) hb]; exact c1
  · rw [hf.cell (p := ⟨p, 2, none⟩) hb]; exact c2
  · rw [hf.frozen (p := ⟨p, 1, none⟩) hb]; exact f1
  · rw [hf.frozen (p := ⟨p, 2, none⟩) hb]; exact f2

/-- The two worlds that a drawn byte leaves. -/
theorem cur_one {w : World} {p : Nat} {a : Option Addr} {len cap : Nat} {zs : List Int} {i h : Int} (h' : Int)
   (c0 : w.cell? ⟨p, 0, none⟩ = some (.slice a len cap)) (c1 : w.cell? ⟨p, 1, none⟩ = some (.int .i64 i)) (c2 : w.cell? ⟨p, 2, none⟩ = some (.int .i64 h))
   (f1 : w.frozen? ⟨p, 1, none⟩ = false) (f2 : w.frozen? ⟨p, 2, none⟩ = false) (hi : 0 ≤ i) (hr : IsRow .u8 w a len cap zs) (hx : ∀ x, a = some x → 0 < cap → x.block < p) :
   Cur (w.setCell ⟨p, 2, none⟩ (.int .i64 h')) p := by
  refine ⟨a, len, cap, zs, i, h', ?_, ?_, ?_, ?_, ?_, hi, hr.keep (fun x h1 h2 => Nat.ne_of_lt (hx x h1 h2)) ((Fr.refl p w).setCell 2 _), hx⟩
  · rw [World.cell?_setCell_other _ _ _ _ (by simp)]; exact c0
  · rw [World.cell?_setCell_other _ _ _ _ (by simp)]; exact c1
  · exact World.cell?_setCell_same _ _ _ c2
  · simpa using f1
  · simpa using f2

theorem cur_made (w : World) (a : Option Addr) (len cap : Nat) (zs : List Int) (h : Int) (t : TypeId) (hr : IsRow .u8 w a len cap zs) :
    Cur (w.alloc (.cells #[.slice a len cap, .int .i64 0, .int .i64 h] t)) w.heap.size := by
  refine ⟨a, len, cap, zs, 0, h, ?_, ?_, ?_, ?_, ?_, by omega, hr.keep (p := w.heap.size) (fun x e c => Nat.ne_of_lt (hr.lt x e c)) ((Fr.refl _ w).alloc _), fun x e c => hr.lt x e c⟩
  · simp
  · simp
  · simp
  · simp
  · simp

/-- A cursor stays while nothing up to it turns. -/
theorem Cur.below {w w' : World} {p lo : Nat} (h : Cur w p) (hp : p < lo) (hf : Below lo w w') : Cur w' p := by
  obtain ⟨a, len, cap, zs, i, h, c0, c1, c2, f1, f2, hi, hr, hx⟩ := h
  refine ⟨a, len, cap, zs, i, h, ?_, ?_, ?_, ?_, ?_, hi, ?_, hx⟩
  · rw [hf.cell (p := ⟨p, 0, none⟩) hp]; exact c0
  · rw [hf.cell (p := ⟨p, 1, none⟩) hp]; exact c1
  · rw [hf.cell (p := ⟨p, 2, none⟩) hp]; exact c2
  · rw [hf.frozen (p := ⟨p, 1, none⟩) hp]; exact f1
  · rw [hf.frozen (p := ⟨p, 2, none⟩) hp]; exact f2
  · rcases hr with hr | ⟨x, rfl, h1, h2, h3, hc, hw⟩
    · exact .inl hr
    · refine .inr ⟨x, rfl, h1, h2, h3, fun j hj => ?_, hw⟩
      have hxp := hx x rfl (by omega)
      rw [hf.cell (p := x.add j) (by rw [add_block]; omega)]
      exact hc j hj
theorem Cur.lt {w : World} {p : Nat} (h : Cur w p) : p < w.heap.size := by
  obtain ⟨a, len, cap, zs, i, h, c0, _⟩ := h
  exact World.block_lt_of_cell? w _ c0
theorem Fr.belowAt {p : Nat} {a w : World} (h : Fr p a w) (hp : p ≤ a.heap.size) : Below p a w := h.below (Nat.le_refl _) hp

theorem Cur.drewN {w : World} {p : Nat} (h : Cur w p) (n : Nat) : Cur (w.drewN n) p := h
theorem Cur.step {w : World} {p : Nat} (h : Cur w p) (i' : Int) (hi' : 0 ≤ i') : Cur (w.setCell ⟨p, 1, none⟩ (.int .i64 i')) p := by
  obtain ⟨a, len, cap, zs, i, h, c0, c1, c2, f1, f2, hi, hr, hx⟩ := h
  refine ⟨a, len, cap, zs, i', h, ?_, ?_, ?_, ?_, ?_, hi', hr.keep (fun x h1 h2 => Nat.ne_of_lt (hx x h1 h2)) ((Fr.refl p w).setCell 1 _), hx⟩
  · rw [World.cell?_setCell_other _ _ _ _ (by simp)]; exact c0
  · exact World.cell?_setCell_same _ _ _ c1
  · rw [World.cell?_setCell_other _ _ _ _ (by simp)]; exact c2
  · simpa using f1
  · simpa using f2

set_option maxHeartbeats 1000000 in
theorem byte_any (p : Nat) (w : World) (hc : Cur w p) :
    Calls Tryd.prog 60 #[.pointer (some ⟨p, 0, none⟩)] w fun e w' => ∃ x : Int, e = .returned (.int .i64 x) ∧ 0 ≤ x ∧ x ≤ 255 ∧ Fr p w w' ∧ Cur w' p := by
  obtain ⟨a, len, cap, zs, i, h, c0, c1, c2, f1, f2, hi0, hr, hx⟩ := hc
  by_cases hi : (len : Int) ≤ i
  · have hw := fun h' => cur_one h' c0 c1 c2 f1 f2 hi0 hr hx
    have HW := hw
    clear hr hx hw
    go_enter Tryd.func60, Tryd.ntmps60
    go_wp2
    go_quiet (fail)
    go_wp2
    go_quiet (fail)
    go_wp2
    go_ret
    exact ⟨_, rfl, and255_lo _, and255_hi _, (((Fr.refl p w).setCell 2 _).drewN _).drewN _, ((HW _).drewN _).drewN _⟩
  · obtain ⟨k, rfl⟩ := Int.eq_ofNat_of_zero_le hi0
    have hlt : (k : Int) < (len : Int) := by omega
    have HW := fun h' => cur_one h' c0 c1 c2 f1 f2 hi0 hr hx
    rcases hr with ⟨rfl, rfl, rfl, rfl⟩ | ⟨x, rfl, hl, hm, hz, hcell, hwz⟩
    · omega
    · obtain ⟨b, off, spot⟩ := x
      have hck := hcell 0 (by omega)
      have hspot : spot = none := by simpa [Addr.add] using World.cell?_spot hck
      subst hspot
      have hc0 : w.cell? ⟨b, off + k, none⟩ = some (.int .u8 (zs.getD k 0)) := by rw [← addr_add]; exact hcell k (by omega)
      have hne : b ≠ p := Nat.ne_of_lt (hx _ rfl (by omega))
      have hne' : ¬ p = b := fun e => hne e.symm
      have hbig : (k : Int) ≤ 9223372036854775806 := by unfold maxLen at hm; omega
      clear hcell hwz hx hck hi hi0 hz
      generalize zs.getD k 0 = z at *
      go_enter Tryd.func60, Tryd.ntmps60
      go_wp2
      go_quiet (fail)
      go_wp2
      go_quiet (fail)
      go_wp2
      go_quiet (fail)
      go_wp2
      go_ret
      exact ⟨_, rfl, and255_lo _, and255_hi _, (((Fr.refl p w).setCell 2 _).drewN _).setCell 1 _, ((HW _).drewN _).step _ (by omega)⟩

set_option maxHeartbeats 1000000 in
theorem below_any (p : Nat) (n : Int) (w : World) (hc : Cur w p) :
    Calls Tryd.prog 34 #[.pointer (some ⟨p, 0, none⟩), .int .i64 n] w fun e w' => ∃ x : Int, e = .returned (.int .i64 x) ∧ 0 ≤ x ∧ (0 < n → x < n) ∧ (n ≤ 0 → x = 0) ∧ Fr p w w' ∧ Cur w' p := by
  by_cases h0 : n ≤ 0
  · go_enter Tryd.func34, Tryd.ntmps34
    go_wp2
    go_ret
    exact ⟨_, rfl, by omega, by omega, by omega, Fr.refl _ _, hc⟩
  · have hpos : 0 < n := by omega
    by_cases h1 : n ≤ 256
    · go_enter Tryd.func34, Tryd.ntmps34
      go_wp2_with fail
      refine (byte_any p _ hc).mono ?_
      rintro e w1 ⟨x, rfl, hx0, hx1, hf1, hc1⟩
      go_wp2
      go_ret
      exact ⟨_, rfl, Int.emod_nonneg _ (by omega), fun _ => Int.emod_lt_of_pos _ hpos, by omega, hf1, hc1⟩
    · go_enter Tryd.func34, Tryd.ntmps34
      go_wp2_with fail
      refine (byte_any p _ hc).mono ?_
      rintro e w1 ⟨x1, rfl, hx0, hx1, hf1, hc1⟩
      go_wp2_with fail
      refine (byte_any p _ hc1).mono ?_
      rintro e w2 ⟨x2, rfl, hx20, hx21, hf2, hc2⟩
      go_wp2_with fail
      refine (byte_any p _ hc2).mono ?_
      rintro e w3 ⟨x3, rfl, hx30, hx31, hf3, hc3⟩
      go_wp2_with fail
      refine (byte_any p _ hc3).mono ?_
      rintro e w4 ⟨x4, rfl, hx40, hx41, hf4, hc4⟩
      go_wp2
      go_ret
      exact ⟨_, rfl, Int.emod_nonneg _ (by omega), fun _ => Int.emod_lt_of_pos _ hpos, by omega, ((hf1.trans hf2).trans hf3).trans hf4, hc4⟩

set_option maxHeartbeats 1000000 in
theorem once_any (p : Nat) (n : Int) (w : World) (hc : Cur w p) :
    Calls Tryd.prog 21 #[.pointer (some ⟨p, 0, none⟩), .int .i64 n] w fun e w' => ∃ b : Bool, e = .returned (.bool b) ∧ Fr p w w' ∧ Cur w' p := by
  go_enter Tryd.func21, Tryd.ntmps21
  go_wp2_with fail
  refine (below_any p n _ hc).mono ?_
  rintro e w1 ⟨x, rfl, hx0, hx1, hx2, hf1, hc1⟩
  go_wp2
  go_ret
  exact ⟨_, rfl, hf1, hc1⟩

set_option maxHeartbeats 1000000 in
theorem new_any (a : Option Addr) (len cap : Nat) (zs : List Int) (w : World) (hr : IsRow .u8 w a len cap zs) :
    Calls Tryd.prog 19 #[.slice a len cap] w fun e w' => e = .returned (.pointer (some ⟨w.heap.size, 0, none⟩)) ∧ Below w.heap.size w w' ∧ Cur w' w.heap.size ∧ w'.heap.size = w.heap.size + 1 := by
  have HR : Hid (IsRow .u8 w a len cap zs) := hr
  have hlen : len ≤ 9223372036854775807 := by
    rcases hr with ⟨_, rfl, _, _⟩ | ⟨x, _, hl, hm, _, _, _⟩
    · omega
    · unfold maxLen at hm; omega
  have hcell : ∀ k, k < len → ∃ b off z, a = some ⟨b, off, none⟩ ∧ w.cell? ⟨b, off + k, none⟩ = some (.int .u8 z) := by
    intro k hk
    rcases hr with ⟨rfl, rfl, rfl, rfl⟩ | ⟨x, rfl, hl, hm, hz, hcell, hwz⟩
    · omega
    · obtain ⟨b, off, spot⟩ := x
      have hck := hcell 0 (by omega)
      have hspot : spot = none := by simpa [Addr.add] using World.cell?_spot hck
      subst hspot
      exact ⟨b, off, zs.getD k 0, rfl, by rw [← addr_add]; exact hcell k (by omega)⟩
  have HC : Hid (∀ k, k < len → ∃ b off z, a = some ⟨b, off, none⟩ ∧ w.cell? ⟨b, off + k, none⟩ = some (.int .u8 z)) := hcell
  clear hr hcell
  go_enter Tryd.func19, Tryd.ntmps19
  go_wp2
  go_loop [3, 4] (fun hv iv => ∃ k : Nat, k ≤ len ∧ iv = .int .i64 k ∧ ∃ z : Int, hv = .int .i64 z) (fun _ iv => len - (intOf iv).toNat)
  case atStart => exact ⟨0, Nat.zero_le _, rfl, _, rfl⟩
  case round =>
    obtain ⟨k, hk, rfl, z, rfl⟩ := hrel
    by_cases hlt : (k : Int) < (len : Int)
    · by_cases h4 : (k : Int) < 4000
      · obtain ⟨b, off, y, rfl, hy⟩ := HC.out k (by omega)
        go_wp2
        go_round
        case rel => exact ⟨k + 1, by omega, by go_num, _, rfl⟩
        case measure => simp [intOf]; omega
      · go_wp2
        go_ret
        exact ⟨rfl, (Below.refl _ _).alloc (Nat.le_refl _) _, cur_made _ _ _ _ _ _ _ HR.out, by simp⟩
    · go_wp2
      go_ret
      exact ⟨rfl, (Below.refl _ _).alloc (Nat.le_refl _) _, cur_made _ _ _ _ _ _ _ HR.out, by simp⟩
end Go.Proofs.YthdioeeanodjiaaDoor

namespace Go.Proofs.YthdioeeanodjiaaDoor
open Go.ChangeShapes Go.WideShapes Go.ChangeAt Go.RowKit
set_option linter.unusedVariables false

set_option maxHeartbeats 1000000 in
theorem eqByteS_same (v1 v2 : Value) (l : List UInt8) (w : World) (h1 : BytesAt w v1 l) (h2 : BytesAt w v2 l) :
    Calls Tryd.prog 15 #[v1, v2] w fun e w' => e = .returned (.bool true) ∧ Below w.heap.size w w' := by
  obtain ⟨a1, cap1, rfl, hm, hc1⟩ := h1
  obtain ⟨a2, cap2, rfl, _, hc2⟩ := h2
  obtain ⟨n, HN⟩ : ∃ n, Hid (l.length = n) := ⟨_, rfl⟩
  rw [HN.out] at hm hc1 hc2 ⊢
  have hmx : (n : Int) ≤ 9223372036854775807 := by have : maxLen ≤ 9223372036854775807 := by decide
                                                   omega
  have HC1 : Hid (0 < n → n ≤ cap1 ∧ ∃ b off, a1 = some ⟨b, off, none⟩ ∧ ∀ i, i < n → w.cell? ⟨b, off + i, none⟩ = some (.int .u8 ((l.getD i 0).toNat : Nat))) := hc1
  have HC2 : Hid (0 < n → n ≤ cap2 ∧ ∃ b off, a2 = some ⟨b, off, none⟩ ∧ ∀ i, i < n → w.cell? ⟨b, off + i, none⟩ = some (.int .u8 ((l.getD i 0).toNat : Nat))) := hc2
  clear hc1 hc2 hm
  go_enter Tryd.func15, Tryd.ntmps15
  go_wp2
  go_loopw [5] (fun iv wr => ∃ k : Nat, k ≤ n ∧ iv = .int .i64 k ∧ Below w.heap.size w wr) (fun iv _ => n - (intOf iv).toNat)
  case atStart => exact ⟨0, Nat.zero_le _, rfl, Below.refl _ _⟩
  case round =>
    obtain ⟨k, hk, rfl, hb3⟩ := hrel
    have HBel : Hid (Below w.heap.size w wr) := hb3
    clear hb3
    by_cases hlt : (k : Int) < (n : Int)
    · obtain ⟨_, b1, o1, rfl, d1⟩ := HC1.out (by omega)
      obtain ⟨_, b2, o2, rfl, d2⟩ := HC2.out (by omega)
      have q1 := Bel.keeps HBel.out (d1 k (by omega))
      have q2 := Bel.keeps HBel.out (d2 k (by omega))
      obtain ⟨z, hz⟩ : ∃ z : Int, (((l.getD k 0).toNat : Nat) : Int) = z := ⟨_, rfl⟩
      rw [hz] at q1 q2
      clear d1 d2 hz
      have hne2 : (z != z) = false := by simp
      go_wp2
      go_quiet (fail)
      go_wp2
      go_roundw
      case rel => exact ⟨k + 1, by omega, by go_num, HBel.out.trans ⟨rfl, rfl, rfl, Nat.le_refl _, fun _ _ => rfl⟩⟩
      case measure => simp [intOf]; omega
    · have hkn : k = n := by omega
      subst hkn
      go_wp2
      go_ret
      exact ⟨rfl, HBel.out⟩

theorem BytesAt.under {w w' : World} {v : Value} {l : List UInt8} (h : BytesAt w v l) {lo : Nat} (hb : Below lo w w') (hv : ∀ a, v.ownBlock = some a → a < lo) : BytesAt w' v l := by
  obtain ⟨a, cap, rfl, hm, hc⟩ := h
  refine ⟨a, cap, rfl, hm, fun hp => ?_⟩
  obtain ⟨hcap, b, off, rfl, hd⟩ := hc hp
  exact ⟨hcap, b, off, rfl, fun i hi => by rw [hb.cell (p := ⟨b, off + i, none⟩) (hv b rfl)]; exact hd i hi⟩

/-- The marks from q on, as bytes. -/
def bmk (q n : Nat) : List UInt8 := (List.range n).map (fun i => UInt8.ofNat (q + i))
theorem bmk_len (q n : Nat) : (bmk q n).length = n := by simp [bmk]
theorem bmk_at (q n i : Nat) (h : i < n) : (bmk q n).getD i 0 = UInt8.ofNat (q + i) := by simp [bmk, List.getD, h]
theorem mark_byte (x : Nat) : (((UInt8.ofNat x).toNat : Nat) : Int) = (x : Int) % 256 := by simp [UInt8.toNat_ofNat']

set_option maxHeartbeats 1000000 in
theorem markByteS_own (lo : Nat) (v : Value) (l : List UInt8) (q : Nat) (w : World) (hr : OwnB w lo v l) (hlo : lo ≤ w.heap.size) (hq2 : (q : Int) + l.length ≤ 9223372036854775807) :
    Calls Tryd.prog 16 #[v, .int .i64 (q : Int)] w fun e w' => e = .returned (.int .i64 ((q : Int) + l.length)) ∧ Below lo w w' ∧ BytesAt w' v (bmk q l.length) := by
  have hs := hr.small
  have hmx : (l.length : Int) ≤ 9223372036854775807 := by
    have : maxLen ≤ 9223372036854775807 := by decide
    omega
  obtain ⟨a, cap, rfl, hc⟩ := hr.row
  obtain ⟨n, HN⟩ : ∃ n, Hid (l.length = n) := ⟨_, rfl⟩
  rw [HN.out] at hmx hq2 hc hs ⊢
  have HS : Hid (n ≤ maxLen) := hs
  have HC : Hid (0 < n → n ≤ cap ∧ ∃ g, a = some ⟨g, 0, none⟩ ∧ lo ≤ g ∧ g < w.heap.size ∧ (∀ i, i < n → w.cell? ⟨g, i, none⟩ = some (.int .u8 ((l.getD i 0).toNat : Nat))) ∧ ∀ i, w.frozen? ⟨g, i, none⟩ = false) := hc
  clear hc hr hs
  go_enter Tryd.func16, Tryd.ntmps16
  go_wp2
  go_loopw [1, 5] (fun kv i wr => ∃ k : Nat, k ≤ n ∧ i = .int .i64 k ∧ kv = .int .i64 ((q : Int) + k) ∧ Below lo w wr ∧ ∀ g, a = some ⟨g, 0, none⟩ → ((∀ j, j < k → wr.cell? ⟨g, j, none⟩ = some (.int .u8 (((q : Int) + j) % 256))) ∧ (∀ j, k ≤ j → j < n → ∃ x, wr.cell? ⟨g, j, none⟩ = some (.int .u8 x)) ∧ (∀ j, j < n → wr.frozen? ⟨g, j, none⟩ = false))) (fun _ i _ => n - (intOf i).toNat)
  case atStart =>
    refine ⟨0, Nat.zero_le _, rfl, by go_num, Below.refl _ _, fun g hg => ⟨fun j hj => absurd hj (by omega), fun j _ hj => ?_, fun j hj => ?_⟩⟩
    · obtain ⟨_, g', e, _, _, h1, _⟩ := HC.out (by omega)
      rw [hg] at e
      cases e
      exact ⟨_, h1 j hj⟩
    · obtain ⟨_, g', e, _, _, _, h2⟩ := HC.out (by omega)
      rw [hg] at e
      cases e
      exact h2 j
  case round =>
    obtain ⟨k, hk, rfl, rfl, hfr, hdone⟩ := hrel
    have H1 : Hid (Below lo w wr) := hfr
    have H2 : Hid (∀ g, a = some ⟨g, 0, none⟩ → ((∀ j, j < k → wr.cell? ⟨g, j, none⟩ = some (.int .u8 (((q : Int) + j) % 256))) ∧ (∀ j, k ≤ j → j < n → ∃ x, wr.cell? ⟨g, j, none⟩ = some (.int .u8 x)) ∧ (∀ j, j < n → wr.frozen? ⟨g, j, none⟩ = false))) := hdone
    clear hfr hdone
    by_cases hlt2 : (k : Int) < (n : Int)
    · obtain ⟨_, g, rfl, hg, _⟩ := HC.out (by omega)
      obtain ⟨K1, K2, K3⟩ := H2.out g rfl
      obtain ⟨x, q1⟩ := K2 k (Nat.le_refl _) (by omega)
      have q2 := K3 k (by omega)
      have K1' : Hid (∀ j, j < k → wr.cell? ⟨g, j, none⟩ = some (.int .u8 (((q : Int) + j) % 256))) := K1
      have K2' : Hid (∀ j, k ≤ j → j < n → ∃ x, wr.cell? ⟨g, j, none⟩ = some (.int .u8 x)) := K2
      have K3' : Hid (∀ j, j < n → wr.frozen? ⟨g, j, none⟩ = false) := K3
      clear K1 K2 K3
      go_wp2
      go_roundw
      case rel =>
        refine ⟨k + 1, by omega, by go_num, by go_num, H1.out.setCell (p := ⟨g, k, none⟩) hg _, fun g' e => ?_⟩
        cases e
        refine ⟨fun j hj => ?_, fun j hj hj2 => ?_, fun j hj => ?_⟩
        · by_cases hjk : j = k
          · subst hjk
            exact World.cell?_setCell_same _ _ _ q1
          · rw [World.cell?_setCell_other _ _ _ _ (by simp <;> omega)]
            exact K1'.out j (by omega)
        · rw [World.cell?_setCell_other _ _ _ _ (by simp <;> omega)]
          exact K2'.out j (by omega) hj2
        · simpa using K3'.out j hj
      case measure => simp [intOf]; omega
    · have hkn : k = n := by omega
      subst hkn
      go_wp2
      go_ret
      refine ⟨rfl, H1.out, a, cap, by rw [bmk_len], by rw [bmk_len]; exact HS.out, fun hp => ?_⟩
      rw [bmk_len] at hp
      obtain ⟨hcap, g, rfl, _⟩ := HC.out hp
      refine ⟨by rw [bmk_len]; exact hcap, g, 0, rfl, fun i hi => ?_⟩
      rw [bmk_len] at hi
      rw [bmk_at _ _ _ hi, mark_byte]
      simpa using (H2.out g rfl).1 i hi

/-- What is handed in reads as bytes. -/
theorem IsRow.bytes {w : World} {a : Option Addr} {len cap : Nat} {zs : List Int} (h : IsRow .u8 w a len cap zs) : ∃ l : List UInt8, l.length = len ∧ BytesAt w (.slice a len cap) l := by
  rcases h with ⟨rfl, rfl, rfl, rfl⟩ | ⟨x, rfl, h1, h2, h3, hc, hw⟩
  · exact ⟨[], rfl, none, 0, rfl, Nat.zero_le _, fun hp => absurd hp (by simp)⟩
  · refine ⟨(zs.take len).map (fun z => UInt8.ofNat z.toNat), ?_, some x, cap, ?_, ?_, fun hp => ?_⟩
    · simp; omega
    · rw [List.length_map, List.length_take, Nat.min_eq_left (by omega)]
    · simp; omega
    · have hl : ((zs.take len).map (fun z => UInt8.ofNat z.toNat)).length = len := by simp; omega
      rw [hl] at hp ⊢
      obtain ⟨b, off, pth⟩ := x
      have hp0 : pth = none := by
        cases pth with
        | none => rfl
        | some sp =>
          have h9 := hc 0 (by omega)
          unfold World.cell? at h9
          have e9 : ((⟨b, off, some sp⟩ : Addr).add 0).spot = some sp := by simp [Addr.add]
          rw [e9] at h9
          split at h9 <;> simp at h9
      subst hp0
      refine ⟨h1, b, off, rfl, fun i hi => ?_⟩
      have h9 := hc i (by omega)
      rw [addr_add] at h9
      rw [h9]
      have hi2 : i < zs.length := by omega
      have hw9 := hw _ (List.getElem_mem hi2)
      simp [Lit.wf, IntKind.min, IntKind.max, IntKind.bits, IntKind.signed] at hw9
      have e5 : ((zs.take len).map (fun z => UInt8.ofNat z.toNat)).getD i 0 = UInt8.ofNat (zs[i].toNat) := by
        rw [List.getD, List.getElem?_map, List.getElem?_take, if_pos hi, List.getElem?_eq_getElem hi2]
        rfl
      rw [e5, List.getD, List.getElem?_eq_getElem hi2]
      simp
      omega
/-- A new row of bytes, all of them 0. -/
theorem make_bytes (n : Nat) (hn : n ≤ 1048576) (w : World) : (Instr.makeSlice 22 (.int .i64 (n : Int)) (.int .i64 (n : Int))).run Tryd.prog w = .ok (.slice (some ⟨w.heap.size, 0, none⟩) n n) (w.alloc (.cells (madeCells #[.int .u8 0] n) 5)) :=
  run_make_row' 22 5 (.int .u8 0) 1 Tryd.underlying22 (by kernel_rfl) rfl .i64 .i64 n (by omega) (by omega) w
/-- The copy so far: k bytes are put, noughts behind them. -/
def cpL (l : List UInt8) (k : Nat) : List UInt8 := l.take k ++ List.replicate (l.length - k) 0
theorem cpL_len (l : List UInt8) (k : Nat) (hk : k ≤ l.length) : (cpL l k).length = l.length := by simp [cpL]; omega
theorem cpL_set (l : List UInt8) (k : Nat) (hk : k < l.length) : (cpL l k).set k (l.getD k 0) = cpL l (k + 1) := by
  unfold cpL
  rw [List.set_append_right _ _ (by simp; omega), List.length_take, Nat.min_eq_left (by omega), Nat.sub_self]
  rw [show l.length - k = (l.length - (k + 1)) + 1 by omega, List.replicate_succ, List.set_cons_zero, List.take_add_one]
  simp only [List.getD, List.getElem?_eq_getElem hk, Option.getD_some, Option.toList_some]
  rw [List.append_assoc]
  rfl
def CpR (w : World) (l : List UInt8) (G n : Nat) (iv : Value) (wr : World) : Prop := ∃ k : Nat, k ≤ n ∧ iv = .int .i64 k ∧ Below w.heap.size w wr ∧ wr.heap[G]? = some (.cells (Lib.byteCells (cpL l k)).toArray 5 (0, 0))
set_option maxHeartbeats 1000000 in
theorem toByteS_any (v : Value) (l : List UInt8) (w : World) (hb : BytesAt w v l) (hn : l.length ≤ 1048576) :
    Calls Tryd.prog 13 #[v] w fun e w' => GivesB w l e w' := by
  obtain ⟨a, cap, rfl, hm, hc⟩ := hb
  obtain ⟨n, HN⟩ : ∃ n, Hid (l.length = n) := ⟨_, rfl⟩
  rw [HN.out] at hm hc hn ⊢
  have HC : Hid (0 < n → n ≤ cap ∧ ∃ b off, a = some ⟨b, off, none⟩ ∧ ∀ i, i < n → w.cell? ⟨b, off + i, none⟩ = some (.int .u8 ((l.getD i 0).toNat : Nat))) := hc
  have mk := make_bytes n hn w
  clear hc hm
  go_enter Tryd.func13, Tryd.ntmps13
  go_wp2_with fail
  have H1 : Hid ((w.alloc (.cells (madeCells #[.int .u8 0] n) 5)).heap[w.heap.size]? = some (.cells (Lib.byteCells (cpL l 0)).toArray 5 (0, 0))) := by
    show _ = _
    rw [World.alloc_heap_new]
    have e9 : madeCells #[.int .u8 0] n = (Lib.byteCells (cpL l 0)).toArray := by
      apply Array.ext'
      rw [toList_madeCells_one]
      simp [cpL, Lib.byteCells, HN.out]
    rw [e9]
  have B1 : Hid (Below w.heap.size w (w.alloc (.cells (madeCells #[.int .u8 0] n) 5))) := Bel.alloc _ _
  clear mk
  generalize w.alloc (.cells (madeCells #[.int .u8 0] n) 5) = w1 at H1 B1 ⊢
  obtain ⟨G, HG⟩ : ∃ G, Hid (w.heap.size = G) := ⟨_, rfl⟩
  rw [HG.out] at H1 ⊢
  go_loopw [4] (fun i wr => CpR w l G n i wr) (fun i _ => n - (intOf i).toNat)
  case atStart => exact ⟨0, Nat.zero_le _, rfl, B1.out, H1.out⟩
  case round =>
    obtain ⟨k, hk, rfl, hb, hg⟩ := hrel
    have HB : Hid (Below w.heap.size w wr) := hb
    have HGG : Hid (wr.heap[G]? = some (.cells (Lib.byteCells (cpL l k)).toArray 5 (0, 0))) := hg
    by_cases hlt : (k : Int) < (n : Int)
    · have hkl : k < n := by omega
      obtain ⟨_, b, off, rfl, hx⟩ := HC.out (by omega)
      have c1 := Bel.keeps hb (hx k hkl)
      obtain ⟨c, HCC⟩ : ∃ c, Hid (l.getD k 0 = c) := ⟨_, rfl⟩
      rw [HCC.out] at c1
      obtain ⟨z, HZ⟩ : ∃ z : Int, Hid (((c.toNat : Nat) : Int) = z) := ⟨_, rfl⟩
      rw [HZ.out] at c1
      have hl9 := cpL_len l k (by have := HN.out; omega)
      have c2 : ∃ u, wr.cell? ⟨G, k, none⟩ = some u := by
        refine ⟨_, (by unfold World.cell?; rw [hg]; simp : wr.cell? ⟨G, k, none⟩ = (Lib.byteCells (cpL l k))[k]?).trans (List.getElem?_eq_getElem (by rw [Lib.byteCells_length, hl9, HN.out]; exact hkl))⟩
      obtain ⟨u, c2⟩ := c2
      have fz : wr.frozen? ⟨G, k, none⟩ = false := by simp [World.frozen?, hg]
      have HREL : Hid (CpR w l G n (.int .i64 ((k : Int) + 1)) (wr.setCell ⟨G, k, none⟩ (.int .u8 z))) := by
        refine ⟨k + 1, by omega, by simp, HB.out.setCell (p := ⟨G, k, none⟩) (by show w.heap.size ≤ G; rw [HG.out]; exact Nat.le_refl _) _, ?_⟩
        rw [heap_setCell_same _ _ _ _ _ _ hg]
        have e9 : (Lib.byteCells (cpL l k)).toArray.setIfInBounds k (.int .u8 z) = (Lib.byteCells (cpL l (k + 1))).toArray := by
          apply Array.ext'
          simp
          rw [← cpL_set l k (by rw [HN.out]; exact hkl), HCC.out, ← HZ.out]
          simp [Lib.byteCells, List.map_set]
        rw [e9]
      clear hb hg hx hl9
      go_wp2_with fail
      go_roundw
      case rel => exact HREL.out
      case measure => simp [intOf]; omega
    · have hkl : k = n := by omega
      subst hkl
      clear hb hg
      go_wp2_with fail
      go_ret
      refine ⟨_, rfl, ?_, HB.out⟩
      have h9 := HGG.out
      have e9 : cpL l k = l := by
        unfold cpL
        rw [HN.out, Nat.sub_self, ← HN.out, List.take_length]
        simp
      rw [e9] at h9
      rw [HG.out]
      have hmx : k ≤ maxLen := by
        have : 1048576 ≤ maxLen := by decide
        omega
      refine ⟨by rw [Lib.byteCells_length, Nat.mul_one], .inr ⟨G, k, (Lib.byteCells l).toArray, by rw [HN.out]; rfl, Nat.le_refl _, h9, by rw [HN.out]; exact Nat.le_refl _, hmx, by simp [Lib.byteCells_length, HN.out], ?_⟩⟩
      rw [Nat.mul_one, ← Lib.byteCells_length l]
      exact List.take_length
end Go.Proofs.YthdioeeanodjiaaDoor
