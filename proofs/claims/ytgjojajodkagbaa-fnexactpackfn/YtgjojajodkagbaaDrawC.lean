/- The model's cursor of drawn bytes: whatever the bytes, each draw returns a number within its bounds, turns nothing but the cursor's own block, and leaves a cursor. -/
import Derived.Test.YtgjojajodkagbaaRows
import Derived.WalkKit
import Derived.ProofKit
import Derived.OpenShut
import Derived.Laws.Shifts
import Derived.Below
import Derived.Deep.QuietTactic
import Derived.BigQuiet
namespace Go.Proofs.Ytgjojajodkagbaa
open Go.ChangeShapes Go.WideShapes Go.ChangeAt Go.RowKit
set_option linter.unusedVariables false

theorem andMask (b : Int) (m : Nat) (k : Nat) (hk : k ≤ 62) (hm : m = 2 ^ k - 1) (hb : (BitVec.ofInt 64 (m : Int)).toNat = m) : bits .and .i64 b (m : Int) = b % ((2 ^ k : Nat) : Int) := by
  have h : (BitVec.ofInt 64 b &&& BitVec.ofInt 64 (m : Int)).toNat = (BitVec.ofInt 64 b).toNat % 2 ^ k := by
    rw [BitVec.toNat_and, hb, hm]
    exact Nat.and_two_pow_sub_one_eq_mod _ k
  have h2 : (BitVec.ofInt 64 b).toNat = (b % 18446744073709551616).toNat := by
    rw [BitVec.toNat_ofInt]; rfl
  show IntKind.i64.wrap ((BitVec.ofInt 64 b &&& BitVec.ofInt 64 (m : Int)).toNat : Int) = _
  rw [h, h2]
  have hd : (2 : Nat) ^ k ∣ 18446744073709551616 := by
    have e : (18446744073709551616 : Nat) = 2 ^ 64 := by decide
    rw [e]
    exact Nat.pow_dvd_pow 2 (by omega)
  obtain ⟨q, hq⟩ := hd
  have hlt : (2 : Nat) ^ k ≤ 4611686018427387904 := by
    have e : (4611686018427387904 : Nat) = 2 ^ 62 := by decide
    rw [e]
    exact Nat.pow_le_pow_right (by omega) hk
  have hpos : 0 < (2 : Nat) ^ k := Nat.pow_pos (by omega)
  generalize hP : (2 : Nat) ^ k = P at *
  have e1 : (((b % 18446744073709551616).toNat % P : Nat) : Int) = b % (P : Int) := by
    have h0 : 0 ≤ b % 18446744073709551616 := Int.emod_nonneg _ (by decide)
    rw [Int.natCast_emod, Int.toNat_of_nonneg h0]
    have hq' : (18446744073709551616 : Int) = (P : Int) * (q : Int) := by rw [← Int.natCast_mul, ← hq]; rfl
    rw [hq']
    exact Int.emod_emod_of_dvd b ⟨(q : Int), rfl⟩
  rw [e1]
  have h3 : 0 ≤ b % (P : Int) := Int.emod_nonneg _ (by omega)
  have h4 : b % (P : Int) < (P : Int) := Int.emod_lt_of_pos _ (by omega)
  simp [IntKind.wrap, IntKind.bits, IntKind.signed]
  omega

theorem and255 (b : Int) : bits .and .i64 b 255 = b % 256 := andMask b 255 8 (by omega) (by omega) (by decide)
theorem and255_lo (b : Int) : 0 ≤ bits .and .i64 b 255 := by rw [and255]; omega
theorem and255_hi (b : Int) : bits .and .i64 b 255 ≤ 255 := by rw [and255]; omega

/-- What is known of a slice of integers: it is nil, or it leads to a row of 'cap' cells. -/
def IsRow (k : IntKind) (w : World) (a : Option Addr) (len cap : Nat) (zs : List Int) : Prop :=
  (a = none ∧ len = 0 ∧ cap = 0 ∧ zs = []) ∨
  ∃ x, a = some x ∧ len ≤ cap ∧ cap ≤ maxLen ∧ zs.length = cap ∧ (∀ i, i < zs.length → w.cell? (x.add i) = some (.int k (zs.getD i 0))) ∧ ∀ n ∈ zs, (Lit.int k n).wf = true

theorem addr_add (b off k : Nat) : (⟨b, off, none⟩ : Addr).add k = ⟨b, off + k, none⟩ := by
  unfold Addr.add
  split <;> simp_all

theorem add_block (x : Addr) (k : Nat) : (x.add k).block = x.block := by
  unfold Addr.add
  split <;> rfl

/-- Nothing that was there has turned but block p. -/
structure Fr (p : Nat) (w w' : World) : Prop where
  os : w'.os = w.os
  tape : w'.tape = w.tape
  output : w'.output = w.output
  size : w.heap.size ≤ w'.heap.size
  block : ∀ k, k < w.heap.size → k ≠ p → w'.heap[k]? = w.heap[k]?

theorem Fr.refl (p : Nat) (w : World) : Fr p w w := ⟨rfl, rfl, rfl, Nat.le_refl _, fun _ _ _ => rfl⟩
theorem Fr.trans {p : Nat} {a b c : World} (h : Fr p a b) (k : Fr p b c) : Fr p a c :=
  ⟨k.os.trans h.os, k.tape.trans h.tape, k.output.trans h.output, Nat.le_trans h.size k.size, fun i hi hp => (k.block i (Nat.lt_of_lt_of_le hi h.size) hp).trans (h.block i hi hp)⟩
theorem Fr.drew {p : Nat} {a w : World} (h : Fr p a w) : Fr p a w.drew := ⟨h.os, h.tape, h.output, h.size, h.block⟩
theorem Fr.drewN {p : Nat} {a w : World} (h : Fr p a w) (n : Nat) : Fr p a (w.drewN n) := ⟨h.os, h.tape, h.output, h.size, h.block⟩
theorem Fr.setCell {p : Nat} {a w : World} (h : Fr p a w) (o : Nat) (u : Value) : Fr p a (w.setCell ⟨p, o, none⟩ u) :=
  h.trans ⟨rfl, rfl, rfl, by simp [World.setCell], fun k _ hp => Below.heap_setCell _ _ _ _ hp⟩
theorem Fr.alloc {p : Nat} {a w : World} (h : Fr p a w) (o : Obj) : Fr p a (w.alloc o) :=
  h.trans ⟨rfl, rfl, rfl, by simp, fun k hk _ => Below.heap_alloc _ _ _ hk⟩
theorem Fr.below {p B : Nat} {a w : World} (h : Fr p a w) (hp : B ≤ p) (hB : B ≤ a.heap.size) : Below B a w :=
  ⟨h.os, h.tape, h.output, h.size, fun k hk => h.block k (by omega) (by omega)⟩
theorem Fr.ofBelow {p : Nat} {a w : World} (h : Below a.heap.size a w) : Fr p a w :=
  ⟨h.os, h.tape, h.output, h.size, fun k hk _ => h.block k hk⟩
theorem Fr.cell {p : Nat} {a w : World} (h : Fr p a w) {x : Addr} (hx : x.block < a.heap.size) (hp : x.block ≠ p) : w.cell? x = a.cell? x := World.cell?_of_block (w := a) (h.block x.block hx hp)
theorem Fr.frozen {p : Nat} {a w : World} (h : Fr p a w) {x : Addr} (hx : x.block < a.heap.size) (hp : x.block ≠ p) : w.frozen? x = a.frozen? x := World.frozen?_of_block (w := a) (h.block x.block hx hp)

theorem IsRow.lt {k : IntKind} {w : World} {a : Option Addr} {len cap : Nat} {zs : List Int} (h : IsRow k w a len cap zs) : ∀ x, a = some x → 0 < cap → x.block < w.heap.size := by
  intro x hx hc
  rcases h with ⟨h, _⟩ | ⟨y, h, h1, h2, h3, hcell, hw⟩
  · rw [h] at hx; cases hx
  · rw [h] at hx
    cases hx
    have h0 := World.block_lt_of_cell? w _ (hcell 0 (by omega))
    rw [add_block] at h0
    exact h0

theorem IsRow.keep {p : Nat} {k : IntKind} {w w' : World} {a : Option Addr} {len cap : Nat} {zs : List Int} (h : IsRow k w a len cap zs) (hp : ∀ x, a = some x → 0 < cap → x.block ≠ p) (hf : Fr p w w') : IsRow k w' a len cap zs := by
  rcases h with h | ⟨x, rfl, h1, h2, h3, hc, hw⟩
  · exact .inl h
  · refine .inr ⟨x, rfl, h1, h2, h3, fun i hi => ?_, hw⟩
    have hci := hc i hi
    rw [hf.cell (x := x.add i) (World.block_lt_of_cell? w _ hci) (by rw [add_block]; exact hp x rfl (by omega))]
    exact hci

/-- A cursor lies in block p. -/
def Cur (w : World) (p : Nat) : Prop := ∃ (a : Option Addr) (len cap : Nat) (zs : List Int) (i h : Int),
  w.cell? ⟨p, 0, none⟩ = some (.slice a len cap) ∧ w.cell? ⟨p, 1, none⟩ = some (.int .i64 i) ∧ w.cell? ⟨p, 2, none⟩ = some (.int .i64 h) ∧
  w.frozen? ⟨p, 1, none⟩ = false ∧ w.frozen? ⟨p, 2, none⟩ = false ∧ 0 ≤ i ∧ IsRow .u8 w a len cap zs ∧ (∀ x, a = some x → 0 < cap → x.block < p)

theorem Cur.keep {w w' : World} {p q : Nat} (h : Cur w p) (hf : Fr q w w') (hpq : p ≠ q) (hq : ∀ a len cap, w.cell? ⟨p, 0, none⟩ = some (.slice a len cap) → ∀ x, a = some x → 0 < cap → x.block ≠ q) : Cur w' p := by
  obtain ⟨a, len, cap, zs, i, h, c0, c1, c2, f1, f2, hi, hr, hx⟩ := h
  have hb : p < w.heap.size := World.block_lt_of_cell? w _ c0
  refine ⟨a, len, cap, zs, i, h, ?_, ?_, ?_, ?_, ?_, hi, hr.keep (hq a len cap c0) hf, hx⟩
  · rw [hf.cell (x := ⟨p, 0, none⟩) hb hpq]; exact c0
  · rw [hf.cell (x := ⟨p, 1, none⟩) hb hpq]; exact c1
  · rw [hf.cell (x := ⟨p, 2, none⟩) hb hpq]; exact c2
  · rw [hf.frozen (x := ⟨p, 1, none⟩) hb hpq]; exact f1
  · rw [hf.frozen (x := ⟨p, 2, none⟩) hb hpq]; exact f2

theorem Cur.later {w w' : World} {p : Nat} (h : Cur w p) (hf : Below w.heap.size w w') : Cur w' p := by
  have hf' := hf
  obtain ⟨a, len, cap, zs, i, h, c0, c1, c2, f1, f2, hi, hr, hx⟩ := h
  have hb : p < w.heap.size := World.block_lt_of_cell? w _ c0
  refine ⟨a, len, cap, zs, i, h, ?_, ?_, ?_, ?_, ?_, hi, hr.keep (p := p) (fun x h1 h2 => Nat.ne_of_lt (hx x h1 h2)) (Fr.ofBelow hf), hx⟩
  · rw [hf.cell (p := ⟨p, 0, none⟩) hb]; exact c0
  · rw [hf.cell (p := ⟨p, 1, none⟩) hb]; exact c1
  · rw [hf.cell (p := ⟨p, 2, none⟩) hb]; exact c2
  · rw [hf.frozen (p := ⟨p, 1, none⟩) hb]; exact f1
  · rw [hf.frozen (p := ⟨p, 2, none⟩) hb]; exact f2

/-- The two worlds that a drawn byte leaves. -/
theorem cur_one {w : World} {p : Nat} {a : Option Addr} {len cap : Nat} {zs : List Int} {i h : Int} (h' : Int)
   (c0 : w.cell? ⟨p, 0, none⟩ = some (.slice a len cap)) (c1 : w.cell? ⟨p, 1, none⟩ = some (.int .i64 i)) (c2 : w.cell? ⟨p, 2, none⟩ = some (.int .i64 h))
   (f1 : w.frozen? ⟨p, 1, none⟩ = false) (f2 : w.frozen? ⟨p, 2, none⟩ = false) (hi : 0 ≤ i) (hr : IsRow .u8 w a len cap zs) (hx : ∀ x, a = some x → 0 < cap → x.block < p) :
   Cur (w.setCell ⟨p, 2, none⟩ (.int .i64 h')) p := by
  refine ⟨a, len, cap, zs, i, h', ?_, ?_, ?_, ?_, ?_, hi, hr.keep (fun x h1 h2 => Nat.ne_of_lt (hx x h1 h2)) ((Fr.refl p w).setCell 2 _), hx⟩
  · rw [World.cell?_setCell_other _ _ _ _ (by simp)]; exact c0
  · rw [World.cell?_setCell_other _ _ _ _ (by simp)]; exact c1
  · exact World.cell?_setCell_same _ _ _ c2
  · simpa using f1
  · simpa using f2

theorem cur_made (w : World) (a : Option Addr) (len cap : Nat) (zs : List Int) (h : Int) (t : TypeId) (hr : IsRow .u8 w a len cap zs) :
    Cur (w.alloc (.cells #[.slice a len cap, .int .i64 0, .int .i64 h] t)) w.heap.size := by
  refine ⟨a, len, cap, zs, 0, h, ?_, ?_, ?_, ?_, ?_, by omega, hr.keep (p := w.heap.size) (fun x e c => Nat.ne_of_lt (hr.lt x e c)) ((Fr.refl _ w).alloc _), fun x e c => hr.lt x e c⟩
  · simp
  · simp
  · simp
  · simp
  · simp

/-- A cursor stays while nothing up to it turns. -/
theorem Cur.below {w w' : World} {p lo : Nat} (h : Cur w p) (hp : p < lo) (hf : Below lo w w') : Cur w' p := by
  obtain ⟨a, len, cap, zs, i, h, c0, c1, c2, f1, f2, hi, hr, hx⟩ := h
  refine ⟨a, len, cap, zs, i, h, ?_, ?_, ?_, ?_, ?_, hi, ?_, hx⟩
  · rw [hf.cell (p := ⟨p, 0, none⟩) hp]; exact c0
  · rw [hf.cell (p := ⟨p, 1, none⟩) hp]; exact c1
  · rw [hf.cell (p := ⟨p, 2, none⟩) hp]; exact c2
  · rw [hf.frozen (p := ⟨p, 1, none⟩) hp]; exact f1
  · rw [hf.frozen (p := ⟨p, 2, none⟩) hp]; exact f2
  · rcases hr with hr | ⟨x, rfl, h1, h2, h3, hc, hw⟩
    · exact .inl hr
    · refine .inr ⟨x, rfl, h1, h2, h3, fun j hj => ?_, hw⟩
      have hxp := hx x rfl (by omega)
      rw [hf.cell (p := x.add j) (by rw [add_block]; omega)]
      exact hc j hj
theorem Cur.lt {w : World} {p : Nat} (h : Cur w p) : p < w.heap.size := by
  obtain ⟨a, len, cap, zs, i, h, c0, _⟩ := h
  exact World.block_lt_of_cell? w _ c0
theorem Fr.belowAt {p : Nat} {a w : World} (h : Fr p a w) (hp : p ≤ a.heap.size) : Below p a w := h.below (Nat.le_refl _) hp

theorem Cur.drewN {w : World} {p : Nat} (h : Cur w p) (n : Nat) : Cur (w.drewN n) p := h
theorem Cur.step {w : World} {p : Nat} (h : Cur w p) (i' : Int) (hi' : 0 ≤ i') : Cur (w.setCell ⟨p, 1, none⟩ (.int .i64 i')) p := by
  obtain ⟨a, len, cap, zs, i, h, c0, c1, c2, f1, f2, hi, hr, hx⟩ := h
  refine ⟨a, len, cap, zs, i', h, ?_, ?_, ?_, ?_, ?_, hi', hr.keep (fun x h1 h2 => Nat.ne_of_lt (hx x h1 h2)) ((Fr.refl p w).setCell 1 _), hx⟩
  · rw [World.cell?_setCell_other _ _ _ _ (by simp)]; exact c0
  · exact World.cell?_setCell_same _ _ _ c1
  · rw [World.cell?_setCell_other _ _ _ _ (by simp)]; exact c2
  · simpa using f1
  · simpa using f2

set_option maxHeartbeats 1000000 in
theorem byte_any (p : Nat) (w : World) (hc : Cur w p) :
    Calls Try.prog 31 #[.pointer (some ⟨p, 0, none⟩)] w fun e w' => ∃ x : Int, e = .returned (.int .i64 x) ∧ 0 ≤ x ∧ x ≤ 255 ∧ Fr p w w' ∧ Cur w' p := by
  obtain ⟨a, len, cap, zs, i, h, c0, c1, c2, f1, f2, hi0, hr, hx⟩ := hc
  by_cases hi : (len : Int) ≤ i
  · have hw := fun h' => cur_one h' c0 c1 c2 f1 f2 hi0 hr hx
    have HW := hw
    clear hr hx hw
    go_enter Try.func31, Try.ntmps31
    go_wp2
    go_quiet (fail)
    go_wp2
    go_quiet (fail)
    go_wp2
    go_ret
    exact ⟨_, rfl, and255_lo _, and255_hi _, (((Fr.refl p w).setCell 2 _).drewN _).drewN _, ((HW _).drewN _).drewN _⟩
  · obtain ⟨k, rfl⟩ := Int.eq_ofNat_of_zero_le hi0
    have hlt : (k : Int) < (len : Int) := by omega
    have HW := fun h' => cur_one h' c0 c1 c2 f1 f2 hi0 hr hx
    rcases hr with ⟨rfl, rfl, rfl, rfl⟩ | ⟨x, rfl, hl, hm, hz, hcell, hwz⟩
    · omega
    · obtain ⟨b, off, spot⟩ := x
      have hck := hcell 0 (by omega)
      have hspot : spot = none := by simpa [Addr.add] using World.cell?_spot hck
      subst hspot
      have hc0 : w.cell? ⟨b, off + k, none⟩ = some (.int .u8 (zs.getD k 0)) := by rw [← addr_add]; exact hcell k (by omega)
      have hne : b ≠ p := Nat.ne_of_lt (hx _ rfl (by omega))
      have hne' : ¬ p = b := fun e => hne e.symm
      have hbig : (k : Int) ≤ 9223372036854775806 := by unfold maxLen at hm; omega
      clear hcell hwz hx hck hi hi0 hz
      generalize zs.getD k 0 = z at *
      go_enter Try.func31, Try.ntmps31
      go_wp2
      go_quiet (fail)
      go_wp2
      go_quiet (fail)
      go_wp2
      go_quiet (fail)
      go_wp2
      go_ret
      exact ⟨_, rfl, and255_lo _, and255_hi _, (((Fr.refl p w).setCell 2 _).drewN _).setCell 1 _, ((HW _).drewN _).step _ (by omega)⟩

set_option maxHeartbeats 1000000 in
theorem below_any (p : Nat) (n : Int) (w : World) (hc : Cur w p) :
    Calls Try.prog 30 #[.pointer (some ⟨p, 0, none⟩), .int .i64 n] w fun e w' => ∃ x : Int, e = .returned (.int .i64 x) ∧ 0 ≤ x ∧ (0 < n → x < n) ∧ (n ≤ 0 → x = 0) ∧ Fr p w w' ∧ Cur w' p := by
  by_cases h0 : n ≤ 0
  · go_enter Try.func30, Try.ntmps30
    go_wp2
    go_ret
    exact ⟨_, rfl, by omega, by omega, by omega, Fr.refl _ _, hc⟩
  · have hpos : 0 < n := by omega
    by_cases h1 : n ≤ 256
    · go_enter Try.func30, Try.ntmps30
      go_wp2_with fail
      refine (byte_any p _ hc).mono ?_
      rintro e w1 ⟨x, rfl, hx0, hx1, hf1, hc1⟩
      go_wp2
      go_ret
      exact ⟨_, rfl, Int.emod_nonneg _ (by omega), fun _ => Int.emod_lt_of_pos _ hpos, by omega, hf1, hc1⟩
    · go_enter Try.func30, Try.ntmps30
      go_wp2_with fail
      refine (byte_any p _ hc).mono ?_
      rintro e w1 ⟨x1, rfl, hx0, hx1, hf1, hc1⟩
      go_wp2_with fail
      refine (byte_any p _ hc1).mono ?_
      rintro e w2 ⟨x2, rfl, hx20, hx21, hf2, hc2⟩
      go_wp2_with fail
      refine (byte_any p _ hc2).mono ?_
      rintro e w3 ⟨x3, rfl, hx30, hx31, hf3, hc3⟩
      go_wp2_with fail
      refine (byte_any p _ hc3).mono ?_
      rintro e w4 ⟨x4, rfl, hx40, hx41, hf4, hc4⟩
      go_wp2
      go_ret
      exact ⟨_, rfl, Int.emod_nonneg _ (by omega), fun _ => Int.emod_lt_of_pos _ hpos, by omega, ((hf1.trans hf2).trans hf3).trans hf4, hc4⟩

set_option maxHeartbeats 1000000 in
theorem once_any (p : Nat) (n : Int) (w : World) (hc : Cur w p) :
    Calls Try.prog 25 #[.pointer (some ⟨p, 0, none⟩), .int .i64 n] w fun e w' => ∃ b : Bool, e = .returned (.bool b) ∧ Fr p w w' ∧ Cur w' p := by
  go_enter Try.func25, Try.ntmps25
  go_wp2_with fail
  refine (below_any p n _ hc).mono ?_
  rintro e w1 ⟨x, rfl, hx0, hx1, hx2, hf1, hc1⟩
  go_wp2
  go_ret
  exact ⟨_, rfl, hf1, hc1⟩

set_option maxHeartbeats 1000000 in
theorem new_any (a : Option Addr) (len cap : Nat) (zs : List Int) (w : World) (hr : IsRow .u8 w a len cap zs) :
    Calls Try.prog 24 #[.slice a len cap] w fun e w' => e = .returned (.pointer (some ⟨w.heap.size, 0, none⟩)) ∧ Below w.heap.size w w' ∧ Cur w' w.heap.size ∧ w'.heap.size = w.heap.size + 1 := by
  have HR : Hid (IsRow .u8 w a len cap zs) := hr
  have hlen : len ≤ 9223372036854775807 := by
    rcases hr with ⟨_, rfl, _, _⟩ | ⟨x, _, hl, hm, _, _, _⟩
    · omega
    · unfold maxLen at hm; omega
  have hcell : ∀ k, k < len → ∃ b off z, a = some ⟨b, off, none⟩ ∧ w.cell? ⟨b, off + k, none⟩ = some (.int .u8 z) := by
    intro k hk
    rcases hr with ⟨rfl, rfl, rfl, rfl⟩ | ⟨x, rfl, hl, hm, hz, hcell, hwz⟩
    · omega
    · obtain ⟨b, off, spot⟩ := x
      have hck := hcell 0 (by omega)
      have hspot : spot = none := by simpa [Addr.add] using World.cell?_spot hck
      subst hspot
      exact ⟨b, off, zs.getD k 0, rfl, by rw [← addr_add]; exact hcell k (by omega)⟩
  have HC : Hid (∀ k, k < len → ∃ b off z, a = some ⟨b, off, none⟩ ∧ w.cell? ⟨b, off + k, none⟩ = some (.int .u8 z)) := hcell
  clear hr hcell
  go_enter Try.func24, Try.ntmps24
  go_wp2
  go_loop [3, 4] (fun hv iv => ∃ k : Nat, k ≤ len ∧ iv = .int .i64 k ∧ ∃ z : Int, hv = .int .i64 z) (fun _ iv => len - (intOf iv).toNat)
  case atStart => exact ⟨0, Nat.zero_le _, rfl, _, rfl⟩
  case round =>
    obtain ⟨k, hk, rfl, z, rfl⟩ := hrel
    by_cases hlt : (k : Int) < (len : Int)
    · by_cases h4 : (k : Int) < 4000
      · obtain ⟨b, off, y, rfl, hy⟩ := HC.out k (by omega)
        go_wp2
        go_round
        case rel => exact ⟨k + 1, by omega, by go_num, _, rfl⟩
        case measure => simp [intOf]; omega
      · go_wp2
        go_ret
        exact ⟨rfl, (Below.refl _ _).alloc (Nat.le_refl _) _, cur_made _ _ _ _ _ _ _ HR.out, by simp⟩
    · go_wp2
      go_ret
      exact ⟨rfl, (Below.refl _ _).alloc (Nat.le_refl _) _, cur_made _ _ _ _ _ _ _ HR.out, by simp⟩
end Go.Proofs.Ytgjojajodkagbaa
