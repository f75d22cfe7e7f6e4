/- A program renamed to its homes: the program's places and ends. A program renamed to its homes: the program's blocks, and the whole. A program renamed to its homes: the program's blocks, and the whole. A program renamed to its homes: the program's Renamed. What the law of Renamed wants besides. -/
import Derived.Test.YtldcohhifmpedaaGreatHmRnSK
import Derived.Test.YtldcohhifmpedaaGreatKSh3a
import Derived.Test.YtldcohhifmpedaaGreatKSh3b
import Derived.Test.YtldcohhifmpedaaGreatKSh3c
import Derived.Test.YtldcohhifmpedaaGreatKSh3d
import Derived.Deep.RegionHeld3
import Derived.Test.YtldcohhifmpedaaGreatCmOneK
import Derived.Test.YtldcohhifmpedaaGreatToI2K
import Derived.Test.YtldcohhifmpedaaGreatKEq
namespace Go.Proofs.YtldcohhifmpedaaGreat
open Go.ChangeShapes Go.WideShapes Go.ChangeAt Go.RowKit Go.Shelf
set_option linter.unusedVariables false

theorem home_cell {w : World} {a : Option Addr} {V cap : Nat} {l : List Int} (h : IntsAt w (.slice a V cap) l) {z : Int} (h0 : 0 ≤ z) (h1 : z < (V : Int)) : ∃ (k sb soff : Nat), z = (k : Int) ∧ (k : Int) < (V : Int) ∧ a = some ⟨sb, soff, none⟩ ∧ w.cell? ⟨sb, soff + k, none⟩ = some (.int .i64 (homeAt l z)) ∧ sb < w.heap.size := by
  obtain ⟨k, e, hk, hg⟩ := homeAt_get (intsAt_len h) h0 h1
  obtain ⟨sb, soff, ea, hc⟩ := intsAt_cell h hg
  exact ⟨k, sb, soff, e, by omega, ea, hc, World.block_lt_of_cell? w _ hc⟩
theorem results_term {fn : Func} {t : Tmp} (h : fn.results = #[.cell t 54]) (tmps : Array Value) (w : World) {B : Nat} {x0 x1 x2 x3 : Value} (hp : tmps.getD t undef = .pointer (some ⟨B, 0, none⟩)) (hb : w.heap[B]? = some (.cells #[x0, x1, x2, x3] 54 (0, 0))) : (results fn tmps).run Tryz.prog w = .ok (.agg #[x0, x1, x2, x3]) w := by
  have hp' : tmps[t]?.getD undef = .pointer (some ⟨B, 0, none⟩) := by simpa using hp
  have r0 : w.cell? ⟨B, 0, none⟩ = some x0 := by simp [World.cell?, hb]
  have r1 : w.cell? ⟨B, 1, none⟩ = some x1 := by simp [World.cell?, hb]
  have r2 : w.cell? ⟨B, 2, none⟩ = some x2 := by simp [World.cell?, hb]
  have r3 : w.cell? ⟨B, 3, none⟩ = some x3 := by simp [World.cell?, hb]
  simp [results, h, hp', go_sem, r0, r1, r2, r3]
theorem term_put {W0 : World} {B : Nat} {x0 x1 x2 x3 : Value} {T : TypeId} {z : Nat × Nat} (h : W0.heap[B]? = some (.cells #[x0, x1, x2, x3] T z)) (k a t e : Value) : ((((W0.setCell ⟨B, 0, none⟩ k).setCell ⟨B, 1, none⟩ a).setCell ⟨B, 2, none⟩ t).setCell ⟨B, 3, none⟩ e).heap[B]? = some (.cells #[k, a, t, e] T z) := by
  simp [World.setCell, Array.getElem?_modify, h]
theorem results_block {fn : Func} {t : Tmp} (h : fn.results = #[.cell t 56]) (tmps : Array Value) (w : World) {B : Nat} {x0 x1 x2 x3 x4 x5 : Value} (hp : tmps.getD t undef = .pointer (some ⟨B, 0, none⟩)) (hb : w.heap[B]? = some (.cells #[x0, x1, x2, x3, x4, x5] 56 (0, 0))) : (results fn tmps).run Tryz.prog w = .ok (.agg #[x0, x1, x2, x3, x4, x5]) w := by
  have hp' : tmps[t]?.getD undef = .pointer (some ⟨B, 0, none⟩) := by simpa using hp
  have r0 : w.cell? ⟨B, 0, none⟩ = some x0 := by simp [World.cell?, hb]
  have r1 : w.cell? ⟨B, 1, none⟩ = some x1 := by simp [World.cell?, hb]
  have r2 : w.cell? ⟨B, 2, none⟩ = some x2 := by simp [World.cell?, hb]
  have r3 : w.cell? ⟨B, 3, none⟩ = some x3 := by simp [World.cell?, hb]
  have r4 : w.cell? ⟨B, 4, none⟩ = some x4 := by simp [World.cell?, hb]
  have r5 : w.cell? ⟨B, 5, none⟩ = some x5 := by simp [World.cell?, hb]
  simp [results, h, hp', go_sem, r0, r1, r2, r3, r4, r5]
theorem block_put6 {W0 : World} {B : Nat} {x0 x1 x2 x3 x4 x5 : Value} {T : TypeId} {z : Nat × Nat} (h : W0.heap[B]? = some (.cells #[x0, x1, x2, x3, x4, x5] T z)) (k0 k1 k2 k3 k4 k5 : Value) : ((((((W0.setCell ⟨B, 0, none⟩ k0).setCell ⟨B, 1, none⟩ k1).setCell ⟨B, 2, none⟩ k2).setCell ⟨B, 3, none⟩ k3).setCell ⟨B, 4, none⟩ k4).setCell ⟨B, 5, none⟩ k5).heap[B]? = some (.cells #[k0, k1, k2, k3, k4, k5] T z) := by
  simp [World.setCell, Array.getElem?_modify, h]
theorem below_four {w0 w : World} {b B : Nat} (h : Below b w0 w) (hB : b ≤ B) (k a t e : Value) : Below b w0 ((((w.setCell ⟨B, 0, none⟩ k).setCell ⟨B, 1, none⟩ a).setCell ⟨B, 2, none⟩ t).setCell ⟨B, 3, none⟩ e) :=
  (((h.setCell (p := ⟨B, 0, none⟩) hB _).setCell (p := ⟨B, 1, none⟩) hB _).setCell (p := ⟨B, 2, none⟩) hB _).setCell (p := ⟨B, 3, none⟩) hB _
theorem below_six {w0 w : World} {b B : Nat} (h : Below b w0 w) (hB : b ≤ B) (k0 k1 k2 k3 k4 k5 : Value) : Below b w0 ((((((w.setCell ⟨B, 0, none⟩ k0).setCell ⟨B, 1, none⟩ k1).setCell ⟨B, 2, none⟩ k2).setCell ⟨B, 3, none⟩ k3).setCell ⟨B, 4, none⟩ k4).setCell ⟨B, 5, none⟩ k5) :=
  (((((h.setCell (p := ⟨B, 0, none⟩) hB _).setCell (p := ⟨B, 1, none⟩) hB _).setCell (p := ⟨B, 2, none⟩) hB _).setCell (p := ⟨B, 3, none⟩) hB _).setCell (p := ⟨B, 4, none⟩) hB _).setCell (p := ⟨B, 5, none⟩) hB _
theorem valIn_two {V : Nat} {z : Int} (h : valIn (V : Int) z = true) : 0 ≤ z ∧ z < (V : Int) := valIn_iff.1 h

set_option maxHeartbeats 4000000 in
theorem renTerm_any (V : Nat) (a : Option Addr) (cap : Nat) (l : List Int) (k ta tt te : Int) (w : World) (hl : IntsAt w (.slice a V cap) l) (he : ∀ z ∈ endsV k ta, 0 ≤ z ∧ z < (V : Int)) :
    Calls Tryz.prog 112 #[.agg #[.int .i64 k, .int .i64 ta, .int .i64 tt, .int .i64 te], .slice a V cap] w fun e w' => e = .returned (.agg #[.int .i64 k, .int .i64 (renT l ⟨k, ta, tt, te⟩).a, .int .i64 tt, .int .i64 te]) ∧ Below w.heap.size w w' := by
  have HL : Hid (IntsAt w (.slice a V cap) l) := hl
  obtain ⟨wA, hwA⟩ : ∃ W, (w.alloc (.cells #[.int .i64 k, .int .i64 ta, .int .i64 tt, .int .i64 te] 54)).alloc (.cells #[.int .i64 0, .int .i64 0, .int .i64 0, .int .i64 0] 54) = W := ⟨_, rfl⟩
  have BA : Hid (Below w.heap.size w wA) := by rw [← hwA]; exact Bel.after (Bel.alloc _ _) (Bel.alloc _ _)
  have hsA : wA.heap.size = w.heap.size + 2 := by rw [← hwA]; simp
  have TA : Hid (wA.heap[w.heap.size]? = some (.cells #[.int .i64 k, .int .i64 ta, .int .i64 tt, .int .i64 te] 54 (0, 0))) := by
    rw [← hwA]
    exact (Below.heap_alloc _ _ _ (by simp)).trans (World.alloc_heap_new w _)
  have TB : Hid (wA.heap[w.heap.size + 1]? = some (.cells #[.int .i64 0, .int .i64 0, .int .i64 0, .int .i64 0] 54 (0, 0))) := by
    rw [← hwA]
    have h9 := World.alloc_heap_new (w.alloc (.cells #[.int .i64 k, .int .i64 ta, .int .i64 tt, .int .i64 te] 54)) (.cells #[.int .i64 0, .int .i64 0, .int .i64 0, .int .i64 0] 54)
    rw [World.size_alloc] at h9
    exact h9
  have c0 : wA.cell? ⟨w.heap.size, 0, none⟩ = some (.int .i64 k) := by simp [World.cell?, TA.out]
  have c1 : wA.cell? ⟨w.heap.size, 1, none⟩ = some (.int .i64 ta) := by simp [World.cell?, TA.out]
  have c2 : wA.cell? ⟨w.heap.size, 2, none⟩ = some (.int .i64 tt) := by simp [World.cell?, TA.out]
  have c3 : wA.cell? ⟨w.heap.size, 3, none⟩ = some (.int .i64 te) := by simp [World.cell?, TA.out]
  clear hl
  go_enter Tryz.func112, Tryz.ntmps112
  go_wp2_with fail
  try rw [hwA]
  clear hwA
  refine (impl_termUses k ta tt te wA).mono ?_
  rintro e w1 ⟨uv, uk, rfl, _, hrow, b1⟩
  obtain ⟨rfl, _⟩ := hrow
  have B1 : Hid (Below w.heap.size w w1) := Bel.after BA.out b1
  have HL1 : Hid (IntsAt w1 (.slice a V cap) l) := HL.out.keep B1.out
  have TA1 : Hid (w1.heap[w.heap.size]? = some (.cells #[.int .i64 k, .int .i64 ta, .int .i64 tt, .int .i64 te] 54 (0, 0))) := (b1.block _ (by omega)).trans TA.out
  have TB1 : Hid (w1.heap[w.heap.size + 1]? = some (.cells #[.int .i64 0, .int .i64 0, .int .i64 0, .int .i64 0] 54 (0, 0))) := (b1.block _ (by omega)).trans TB.out
  replace c0 := Bel.keeps b1 c0
  replace c1 := Bel.keeps b1 c1
  replace c2 := Bel.keeps b1 c2
  replace c3 := Bel.keeps b1 c3
  have z1 : w1.frozen? ⟨w.heap.size, 1, none⟩ = false := by simp [World.frozen?, TA1.out]
  have d0 : w1.cell? ⟨w.heap.size + 1, 0, none⟩ = some (.int .i64 0) := by simp [World.cell?, TB1.out]
  have d1 : w1.cell? ⟨w.heap.size + 1, 1, none⟩ = some (.int .i64 0) := by simp [World.cell?, TB1.out]
  have d2 : w1.cell? ⟨w.heap.size + 1, 2, none⟩ = some (.int .i64 0) := by simp [World.cell?, TB1.out]
  have d3 : w1.cell? ⟨w.heap.size + 1, 3, none⟩ = some (.int .i64 0) := by simp [World.cell?, TB1.out]
  have y0 : w1.frozen? ⟨w.heap.size + 1, 0, none⟩ = false := by simp [World.frozen?, TB1.out]
  have y1 : w1.frozen? ⟨w.heap.size + 1, 1, none⟩ = false := by simp [World.frozen?, TB1.out]
  have y2 : w1.frozen? ⟨w.heap.size + 1, 2, none⟩ = false := by simp [World.frozen?, TB1.out]
  have y3 : w1.frozen? ⟨w.heap.size + 1, 3, none⟩ = false := by simp [World.frozen?, TB1.out]
  clear b1 TA TB BA
  rcases endsV_forms k ta with e9 | e9
  · obtain ⟨z, sb, soff, hz, hzV, rfl, hc, hsb⟩ := home_cell HL1.out (he ta (by rw [e9]; simp)).1 (he ta (by rw [e9]; simp)).2
    obtain ⟨h, HH⟩ : ∃ h, Hid (homeAt l ta = h) := ⟨_, rfl⟩
    rw [HH.out] at hc
    have HTA : Hid ((renT l ⟨k, ta, tt, te⟩).a = h) := by
      show (renT l ⟨k, ta, tt, te⟩).a = h
      simp [renT, e9, HH.out]
    rw [e9, List.length_singleton]
    subst hz
    go_wp2
    refine bodyPost_ret (results_term rfl _ _ rfl (term_put ((Below.heap_setCell _ _ _ _ (by show w.heap.size + 1 ≠ w.heap.size; omega)).trans TB1.out) _ _ _ _)) rfl ?_
    exact ⟨by rw [HTA.out], below_four (B1.out.setCell (p := ⟨w.heap.size, 1, none⟩) (Nat.le_refl _) _) (by omega) _ _ _ _⟩
  · have HTA : Hid ((renT l ⟨k, ta, tt, te⟩).a = ta) := by
      show (renT l ⟨k, ta, tt, te⟩).a = ta
      simp [renT, e9]
    rw [e9, List.length_nil]
    go_wp2
    refine bodyPost_ret (results_term rfl _ _ rfl (term_put TB1.out _ _ _ _)) rfl ?_
    exact ⟨by rw [HTA.out], below_four B1.out (by omega) _ _ _ _⟩


set_option maxHeartbeats 4000000 in
set_option maxRecDepth 100000 in
theorem ren_word (V : Nat) (a0 : Option Addr) (cap : Nat) (l : List Int) (op d a b : Int) (w : World) (hl : IntsAt w (.slice a0 V cap) l) (hd : 0 ≤ d ∧ d < (V : Int)) (ha : 0 ≤ a ∧ a < (V : Int)) (hb : 0 ≤ b ∧ b < (V : Int)) :
    Calls Tryz.prog 113 #[.iface 182 (.agg #[.int .i64 op, .int .i64 d, .int .i64 a, .int .i64 b]), .slice a0 V cap] w fun e w' => e = .returned (.iface 182 (.agg #[.int .i64 op, .int .i64 (homeAt l d), .int .i64 (homeAt l a), .int .i64 (homeAt l b)])) ∧ Below w.heap.size w w' := by
  obtain ⟨kd, sb, soff, ed, id, rfl, cd, hsb⟩ := home_cell hl hd.1 hd.2
  obtain ⟨ka, sba, soffa, ea, ia, qa, ca, hsba⟩ := home_cell hl ha.1 ha.2
  simp at qa
  obtain ⟨rfl, rfl⟩ := qa
  obtain ⟨kb, sbb, soffb, eb, ib, qb, cb, hsbb⟩ := home_cell hl hb.1 hb.2
  simp at qb
  obtain ⟨rfl, rfl⟩ := qb
  obtain ⟨xd, hxd⟩ : ∃ q, homeAt l d = q := ⟨_, rfl⟩
  rw [hxd] at cd ⊢
  obtain ⟨xa, hxa⟩ : ∃ q, homeAt l a = q := ⟨_, rfl⟩
  rw [hxa] at ca ⊢
  obtain ⟨xb, hxb⟩ : ∃ q, homeAt l b = q := ⟨_, rfl⟩
  rw [hxb] at cb ⊢
  clear hl hd ha hb hxd hxa hxb
  subst ed
  subst ea
  subst eb
  have y0 := wordPlace_yes
  have n0 := wordPlace_no
  have y1 := constPlace_yes
  have n1 := constPlace_no
  have y2 := loadPlace_yes
  have n2 := loadPlace_no
  have y3 := storePlace_yes
  have n3 := storePlace_no
  have y4 := outPlace_yes
  have n4 := outPlace_no
  have y5 := readPlace_yes
  have n5 := readPlace_no
  have y6 := copyPlace_yes
  have n6 := copyPlace_no
  go_enter Tryz.func113, Tryz.ntmps113
  go_wp2
  go_region_held3 (fun w' => w'.cell? ⟨w.heap.size, 0, none⟩ = some (.int .i64 op) ∧ w'.cell? ⟨w.heap.size, 1, none⟩ = some (.int .i64 (kd : Int)) ∧ w'.cell? ⟨w.heap.size, 2, none⟩ = some (.int .i64 (ka : Int)) ∧ w'.cell? ⟨w.heap.size, 3, none⟩ = some (.int .i64 (kb : Int)) ∧ w'.cell? ⟨sb, soff + kd, none⟩ = some (.int .i64 xd) ∧ w'.cell? ⟨sb, soff + ka, none⟩ = some (.int .i64 xa) ∧ w'.cell? ⟨sb, soff + kb, none⟩ = some (.int .i64 xb)) (go_keep) (fail)
  simp only [Exit.then]
  go_at_K
  go_wp2
  go_ret
  exact ⟨rfl, by repeat (first | exact Below.refl _ _ | apply Below.drew | refine Below.alloc ?_ (by simp <;> omega) _ | refine Below.setCell ?_ (by simp <;> omega) _)⟩

set_option maxHeartbeats 4000000 in
set_option maxRecDepth 100000 in
theorem ren_const (V : Nat) (a0 : Option Addr) (cap : Nat) (l : List Int) (d n : Int) (w : World) (hl : IntsAt w (.slice a0 V cap) l) (hd : 0 ≤ d ∧ d < (V : Int)) :
    Calls Tryz.prog 113 #[.iface 189 (.agg #[.int .i64 d, .int .i64 n]), .slice a0 V cap] w fun e w' => e = .returned (.iface 189 (.agg #[.int .i64 (homeAt l d), .int .i64 n])) ∧ Below w.heap.size w w' := by
  obtain ⟨kd, sb, soff, ed, id, rfl, cd, hsb⟩ := home_cell hl hd.1 hd.2
  obtain ⟨xd, hxd⟩ : ∃ q, homeAt l d = q := ⟨_, rfl⟩
  rw [hxd] at cd ⊢
  clear hl hd hxd
  subst ed
  have y0 := wordPlace_yes
  have n0 := wordPlace_no
  have y1 := constPlace_yes
  have n1 := constPlace_no
  have y2 := loadPlace_yes
  have n2 := loadPlace_no
  have y3 := storePlace_yes
  have n3 := storePlace_no
  have y4 := outPlace_yes
  have n4 := outPlace_no
  have y5 := readPlace_yes
  have n5 := readPlace_no
  have y6 := copyPlace_yes
  have n6 := copyPlace_no
  go_enter Tryz.func113, Tryz.ntmps113
  go_wp2
  go_region_held3 (fun w' => w'.cell? ⟨w.heap.size, 0, none⟩ = some (.int .i64 (kd : Int)) ∧ w'.cell? ⟨w.heap.size, 1, none⟩ = some (.int .i64 n) ∧ w'.cell? ⟨sb, soff + kd, none⟩ = some (.int .i64 xd)) (go_keep) (fail)
  simp only [Exit.then]
  go_at_K
  go_wp2
  go_ret
  exact ⟨rfl, by repeat (first | exact Below.refl _ _ | apply Below.drew | refine Below.alloc ?_ (by simp <;> omega) _ | refine Below.setCell ?_ (by simp <;> omega) _)⟩

set_option maxHeartbeats 4000000 in
set_option maxRecDepth 100000 in
theorem ren_load (V : Nat) (a0 : Option Addr) (cap : Nat) (l : List Int) (d a : Int) (w : World) (hl : IntsAt w (.slice a0 V cap) l) (hd : 0 ≤ d ∧ d < (V : Int)) (ha : 0 ≤ a ∧ a < (V : Int)) :
    Calls Tryz.prog 113 #[.iface 183 (.agg #[.int .i64 d, .int .i64 a]), .slice a0 V cap] w fun e w' => e = .returned (.iface 183 (.agg #[.int .i64 (homeAt l d), .int .i64 (homeAt l a)])) ∧ Below w.heap.size w w' := by
  obtain ⟨kd, sb, soff, ed, id, rfl, cd, hsb⟩ := home_cell hl hd.1 hd.2
  obtain ⟨ka, sba, soffa, ea, ia, qa, ca, hsba⟩ := home_cell hl ha.1 ha.2
  simp at qa
  obtain ⟨rfl, rfl⟩ := qa
  obtain ⟨xd, hxd⟩ : ∃ q, homeAt l d = q := ⟨_, rfl⟩
  rw [hxd] at cd ⊢
  obtain ⟨xa, hxa⟩ : ∃ q, homeAt l a = q := ⟨_, rfl⟩
  rw [hxa] at ca ⊢
  clear hl hd ha hxd hxa
  subst ed
  subst ea
  have y0 := wordPlace_yes
  have n0 := wordPlace_no
  have y1 := constPlace_yes
  have n1 := constPlace_no
  have y2 := loadPlace_yes
  have n2 := loadPlace_no
  have y3 := storePlace_yes
  have n3 := storePlace_no
  have y4 := outPlace_yes
  have n4 := outPlace_no
  have y5 := readPlace_yes
  have n5 := readPlace_no
  have y6 := copyPlace_yes
  have n6 := copyPlace_no
  go_enter Tryz.func113, Tryz.ntmps113
  go_wp2
  go_region_held3 (fun w' => w'.cell? ⟨w.heap.size, 0, none⟩ = some (.int .i64 (kd : Int)) ∧ w'.cell? ⟨w.heap.size, 1, none⟩ = some (.int .i64 (ka : Int)) ∧ w'.cell? ⟨sb, soff + kd, none⟩ = some (.int .i64 xd) ∧ w'.cell? ⟨sb, soff + ka, none⟩ = some (.int .i64 xa)) (go_keep) (fail)
  simp only [Exit.then]
  go_at_K
  go_wp2
  go_ret
  exact ⟨rfl, by repeat (first | exact Below.refl _ _ | apply Below.drew | refine Below.alloc ?_ (by simp <;> omega) _ | refine Below.setCell ?_ (by simp <;> omega) _)⟩

set_option maxHeartbeats 4000000 in
set_option maxRecDepth 100000 in
theorem ren_store (V : Nat) (a0 : Option Addr) (cap : Nat) (l : List Int) (a b : Int) (w : World) (hl : IntsAt w (.slice a0 V cap) l) (ha : 0 ≤ a ∧ a < (V : Int)) (hb : 0 ≤ b ∧ b < (V : Int)) :
    Calls Tryz.prog 113 #[.iface 185 (.agg #[.int .i64 a, .int .i64 b]), .slice a0 V cap] w fun e w' => e = .returned (.iface 185 (.agg #[.int .i64 (homeAt l a), .int .i64 (homeAt l b)])) ∧ Below w.heap.size w w' := by
  obtain ⟨ka, sb, soff, ea, ia, rfl, ca, hsb⟩ := home_cell hl ha.1 ha.2
  obtain ⟨kb, sbb, soffb, eb, ib, qb, cb, hsbb⟩ := home_cell hl hb.1 hb.2
  simp at qb
  obtain ⟨rfl, rfl⟩ := qb
  obtain ⟨xa, hxa⟩ : ∃ q, homeAt l a = q := ⟨_, rfl⟩
  rw [hxa] at ca ⊢
  obtain ⟨xb, hxb⟩ : ∃ q, homeAt l b = q := ⟨_, rfl⟩
  rw [hxb] at cb ⊢
  clear hl ha hb hxa hxb
  subst ea
  subst eb
  have y0 := wordPlace_yes
  have n0 := wordPlace_no
  have y1 := constPlace_yes
  have n1 := constPlace_no
  have y2 := loadPlace_yes
  have n2 := loadPlace_no
  have y3 := storePlace_yes
  have n3 := storePlace_no
  have y4 := outPlace_yes
  have n4 := outPlace_no
  have y5 := readPlace_yes
  have n5 := readPlace_no
  have y6 := copyPlace_yes
  have n6 := copyPlace_no
  go_enter Tryz.func113, Tryz.ntmps113
  go_wp2
  go_region_held3 (fun w' => w'.cell? ⟨w.heap.size, 0, none⟩ = some (.int .i64 (ka : Int)) ∧ w'.cell? ⟨w.heap.size, 1, none⟩ = some (.int .i64 (kb : Int)) ∧ w'.cell? ⟨sb, soff + ka, none⟩ = some (.int .i64 xa) ∧ w'.cell? ⟨sb, soff + kb, none⟩ = some (.int .i64 xb)) (go_keep) (fail)
  simp only [Exit.then]
  go_at_K
  go_wp2
  go_ret
  exact ⟨rfl, by repeat (first | exact Below.refl _ _ | apply Below.drew | refine Below.alloc ?_ (by simp <;> omega) _ | refine Below.setCell ?_ (by simp <;> omega) _)⟩

set_option maxHeartbeats 4000000 in
set_option maxRecDepth 100000 in
theorem ren_out (V : Nat) (a0 : Option Addr) (cap : Nat) (l : List Int) (a : Int) (w : World) (hl : IntsAt w (.slice a0 V cap) l) (ha : 0 ≤ a ∧ a < (V : Int)) :
    Calls Tryz.prog 113 #[.iface 187 (.agg #[.int .i64 a]), .slice a0 V cap] w fun e w' => e = .returned (.iface 187 (.agg #[.int .i64 (homeAt l a)])) ∧ Below w.heap.size w w' := by
  obtain ⟨ka, sb, soff, ea, ia, rfl, ca, hsb⟩ := home_cell hl ha.1 ha.2
  obtain ⟨xa, hxa⟩ : ∃ q, homeAt l a = q := ⟨_, rfl⟩
  rw [hxa] at ca ⊢
  clear hl ha hxa
  subst ea
  have y0 := wordPlace_yes
  have n0 := wordPlace_no
  have y1 := constPlace_yes
  have n1 := constPlace_no
  have y2 := loadPlace_yes
  have n2 := loadPlace_no
  have y3 := storePlace_yes
  have n3 := storePlace_no
  have y4 := outPlace_yes
  have n4 := outPlace_no
  have y5 := readPlace_yes
  have n5 := readPlace_no
  have y6 := copyPlace_yes
  have n6 := copyPlace_no
  go_enter Tryz.func113, Tryz.ntmps113
  go_wp2
  go_ret
  exact ⟨rfl, by repeat (first | exact Below.refl _ _ | apply Below.drew | refine Below.alloc ?_ (by simp <;> omega) _ | refine Below.setCell ?_ (by simp <;> omega) _)⟩

set_option maxHeartbeats 4000000 in
set_option maxRecDepth 100000 in
theorem ren_read (V : Nat) (a0 : Option Addr) (cap : Nat) (l : List Int) (d : Int) (w : World) (hl : IntsAt w (.slice a0 V cap) l) (hd : 0 ≤ d ∧ d < (V : Int)) :
    Calls Tryz.prog 113 #[.iface 191 (.agg #[.int .i64 d]), .slice a0 V cap] w fun e w' => e = .returned (.iface 191 (.agg #[.int .i64 (homeAt l d)])) ∧ Below w.heap.size w w' := by
  obtain ⟨kd, sb, soff, ed, id, rfl, cd, hsb⟩ := home_cell hl hd.1 hd.2
  obtain ⟨xd, hxd⟩ : ∃ q, homeAt l d = q := ⟨_, rfl⟩
  rw [hxd] at cd ⊢
  clear hl hd hxd
  subst ed
  have y0 := wordPlace_yes
  have n0 := wordPlace_no
  have y1 := constPlace_yes
  have n1 := constPlace_no
  have y2 := loadPlace_yes
  have n2 := loadPlace_no
  have y3 := storePlace_yes
  have n3 := storePlace_no
  have y4 := outPlace_yes
  have n4 := outPlace_no
  have y5 := readPlace_yes
  have n5 := readPlace_no
  have y6 := copyPlace_yes
  have n6 := copyPlace_no
  go_enter Tryz.func113, Tryz.ntmps113
  go_wp2
  go_ret
  exact ⟨rfl, by repeat (first | exact Below.refl _ _ | apply Below.drew | refine Below.alloc ?_ (by simp <;> omega) _ | refine Below.setCell ?_ (by simp <;> omega) _)⟩

set_option maxHeartbeats 4000000 in
set_option maxRecDepth 100000 in
theorem ren_copy (V : Nat) (a0 : Option Addr) (cap : Nat) (l : List Int) (d a : Int) (w : World) (hl : IntsAt w (.slice a0 V cap) l) (hd : 0 ≤ d ∧ d < (V : Int)) (ha : 0 ≤ a ∧ a < (V : Int)) :
    Calls Tryz.prog 113 #[.iface 144 (.agg #[.int .i64 d, .int .i64 a]), .slice a0 V cap] w fun e w' => e = .returned (.iface 144 (.agg #[.int .i64 (homeAt l d), .int .i64 (homeAt l a)])) ∧ Below w.heap.size w w' := by
  obtain ⟨kd, sb, soff, ed, id, rfl, cd, hsb⟩ := home_cell hl hd.1 hd.2
  obtain ⟨ka, sba, soffa, ea, ia, qa, ca, hsba⟩ := home_cell hl ha.1 ha.2
  simp at qa
  obtain ⟨rfl, rfl⟩ := qa
  obtain ⟨xd, hxd⟩ : ∃ q, homeAt l d = q := ⟨_, rfl⟩
  rw [hxd] at cd ⊢
  obtain ⟨xa, hxa⟩ : ∃ q, homeAt l a = q := ⟨_, rfl⟩
  rw [hxa] at ca ⊢
  clear hl hd ha hxd hxa
  subst ed
  subst ea
  have y0 := wordPlace_yes
  have n0 := wordPlace_no
  have y1 := constPlace_yes
  have n1 := constPlace_no
  have y2 := loadPlace_yes
  have n2 := loadPlace_no
  have y3 := storePlace_yes
  have n3 := storePlace_no
  have y4 := outPlace_yes
  have n4 := outPlace_no
  have y5 := readPlace_yes
  have n5 := readPlace_no
  have y6 := copyPlace_yes
  have n6 := copyPlace_no
  go_enter Tryz.func113, Tryz.ntmps113
  go_wp2
  go_region_held3 (fun w' => w'.cell? ⟨w.heap.size, 0, none⟩ = some (.int .i64 (kd : Int)) ∧ w'.cell? ⟨w.heap.size, 1, none⟩ = some (.int .i64 (ka : Int)) ∧ w'.cell? ⟨sb, soff + kd, none⟩ = some (.int .i64 xd) ∧ w'.cell? ⟨sb, soff + ka, none⟩ = some (.int .i64 xa)) (go_keep) (fail)
  simp only [Exit.then]
  go_at_K
  go_wp2
  go_ret
  exact ⟨rfl, by repeat (first | exact Below.refl _ _ | apply Below.drew | refine Below.alloc ?_ (by simp <;> omega) _ | refine Below.setCell ?_ (by simp <;> omega) _)⟩

end Go.Proofs.YtldcohhifmpedaaGreat

namespace Go.Proofs.YtldcohhifmpedaaGreat
open Go.ChangeShapes Go.WideShapes Go.ChangeAt Go.RowKit Go.Shelf
set_option linter.unusedVariables false

/-- A place of a program that is right, by its kind. -/
theorem ok_kinds {V op d a b n : Int} (h : insOkV V op d a b n = true) : (op = 20 ∧ valIn V d = true ∧ a = 0 ∧ b = 0) ∨ (op = 21 ∧ valIn V d = true ∧ valIn V a = true ∧ b = 0 ∧ n = 0) ∨ (op = 22 ∧ valIn V a = true ∧ valIn V b = true ∧ d = 0 ∧ n = 0) ∨ (op = 23 ∧ valIn V a = true ∧ d = 0 ∧ b = 0 ∧ n = 0) ∨ (op = 24 ∧ valIn V d = true ∧ a = 0 ∧ b = 0 ∧ n = 0) ∨ (op = 25 ∧ valIn V d = true ∧ valIn V a = true ∧ b = 0 ∧ n = 0) ∨ ((1 ≤ op ∧ op ≤ 10) ∧ valIn V d = true ∧ valIn V a = true ∧ valIn V b = true ∧ n = 0) := by
  unfold insOkV at h
  split at h
  · rename_i h1
    simp at h
    exact .inr (.inr (.inr (.inr (.inr (.inr ⟨h1, h.1.1.1, h.1.1.2, h.1.2, h.2⟩)))))
  · split at h
    · rename_i h1
      simp at h
      exact .inl ⟨h1, h.1.1, h.1.2, h.2⟩
    · split at h
      · rename_i h1
        simp at h
        rcases h1 with h1 | h1
        · exact .inr (.inl ⟨h1, h.1.1.1, h.1.1.2, h.1.2, h.2⟩)
        · exact .inr (.inr (.inr (.inr (.inr (.inl ⟨h1, h.1.1.1, h.1.1.2, h.1.2, h.2⟩)))))
      · split at h
        · rename_i h1
          simp at h
          exact .inr (.inr (.inl ⟨h1, h.1.1.1, h.1.1.2, h.1.2, h.2⟩))
        · split at h
          · rename_i h1
            simp at h
            exact .inr (.inr (.inr (.inl ⟨h1, h.1.1.1, h.1.1.2, h.1.2, h.2⟩)))
          · split at h
            · rename_i h1
              simp at h
              exact .inr (.inr (.inr (.inr (.inl ⟨h1, h.1.1.1, h.1.1.2, h.1.2, h.2⟩))))
            · cases h
def placeX (x : InsD) : Value := placeV x.op x.d x.a x.b x.n
def insX (x : InsD) : Value := .agg #[.int .i64 x.op, .int .i64 x.d, .int .i64 x.a, .int .i64 x.b, .int .i64 x.n]
theorem word_ne {op : Int} (h : 1 ≤ op ∧ op ≤ 10) : (op == 20) = false ∧ (op == 21) = false ∧ (op == 22) = false ∧ (op == 23) = false ∧ (op == 24) = false ∧ (op == 25) = false := by
  refine ⟨?_, ?_, ?_, ?_, ?_, ?_⟩ <;> simp <;> omega
theorem placeX_word {op d a b n : Int} (h : 1 ≤ op ∧ op ≤ 10) : placeV op d a b n = .iface 182 (.agg #[.int .i64 op, .int .i64 d, .int .i64 a, .int .i64 b]) := by
  obtain ⟨e0, e1, e2, e3, e4, e5⟩ := word_ne h
  exact placeV_word e0 e1 e2 e3 e4 e5 h.1 h.2

theorem renPlace_any (V : Nat) (a0 : Option Addr) (cap : Nat) (l : List Int) (x : InsD) (w : World) (hl : IntsAt w (.slice a0 V cap) l) (hok : placeOkV (V : Int) x = true) :
    Calls Tryz.prog 113 #[placeX x, .slice a0 V cap] w fun e w' => e = .returned (placeX (renX l x)) ∧ Below w.heap.size w w' := by
  obtain ⟨op, d, a, b, n⟩ := x
  unfold placeX
  rcases ok_kinds hok with ⟨rfl, h1, rfl, rfl⟩ | ⟨rfl, h1, h2, rfl, rfl⟩ | ⟨rfl, h1, h2, rfl, rfl⟩ | ⟨rfl, h1, rfl, rfl, rfl⟩ | ⟨rfl, h1, rfl, rfl, rfl⟩ | ⟨rfl, h1, h2, rfl, rfl⟩ | ⟨hw, h1, h2, h3, rfl⟩
  · have h0 := (valIn_two h1).1
    have e9 : renX l ⟨20, d, 0, 0, n⟩ = ⟨20, homeAt l d, 0, 0, n⟩ := by simp [renX, insDefV, makesV, usesV, h0]
    rw [e9]
    exact ren_const V a0 cap l d n w hl (valIn_two h1)
  · have h0 := (valIn_two h1).1
    have e9 : renX l ⟨21, d, a, 0, 0⟩ = ⟨21, homeAt l d, homeAt l a, 0, 0⟩ := by simp [renX, insDefV, makesV, usesV, h0]
    rw [e9]
    exact ren_load V a0 cap l d a w hl (valIn_two h1) (valIn_two h2)
  · have e9 : renX l ⟨22, 0, a, b, 0⟩ = ⟨22, 0, homeAt l a, homeAt l b, 0⟩ := by simp [renX, insDefV, makesV, usesV]
    rw [e9]
    exact ren_store V a0 cap l a b w hl (valIn_two h1) (valIn_two h2)
  · have e9 : renX l ⟨23, 0, a, 0, 0⟩ = ⟨23, 0, homeAt l a, 0, 0⟩ := by simp [renX, insDefV, makesV, usesV]
    rw [e9]
    exact ren_out V a0 cap l a w hl (valIn_two h1)
  · have h0 := (valIn_two h1).1
    have e9 : renX l ⟨24, d, 0, 0, 0⟩ = ⟨24, homeAt l d, 0, 0, 0⟩ := by simp [renX, insDefV, makesV, usesV, h0]
    rw [e9]
    exact ren_read V a0 cap l d w hl (valIn_two h1)
  · have h0 := (valIn_two h1).1
    have e9 : renX l ⟨25, d, a, 0, 0⟩ = ⟨25, homeAt l d, homeAt l a, 0, 0⟩ := by simp [renX, insDefV, makesV, usesV, h0]
    rw [e9]
    exact ren_copy V a0 cap l d a w hl (valIn_two h1) (valIn_two h2)
  · have h0 := (valIn_two h1).1
    have e9 : renX l ⟨op, d, a, b, 0⟩ = ⟨op, homeAt l d, homeAt l a, homeAt l b, 0⟩ := by
      simp [renX, insDefV_word hw.1 hw.2, usesV_word hw.1 hw.2, h0]
    rw [e9]
    dsimp only
    rw [placeX_word hw, placeX_word hw]
    exact ren_word V a0 cap l op d a b w hl (valIn_two h1) (valIn_two h2) (valIn_two h3)
/-- Of the right kind: what it does not name is zero. -/
def KindZ (x : InsD) : Prop := (x.op = 20 ∧ x.a = 0 ∧ x.b = 0) ∨ (x.op = 21 ∧ x.b = 0 ∧ x.n = 0) ∨ (x.op = 22 ∧ x.d = 0 ∧ x.n = 0) ∨ (x.op = 23 ∧ x.d = 0 ∧ x.b = 0 ∧ x.n = 0) ∨ (x.op = 24 ∧ x.a = 0 ∧ x.b = 0 ∧ x.n = 0) ∨ (x.op = 25 ∧ x.b = 0 ∧ x.n = 0) ∨ ((1 ≤ x.op ∧ x.op ≤ 10) ∧ x.n = 0)
theorem kindZ_ren {V : Int} {l : List Int} {x : InsD} (h : placeOkV V x = true) : KindZ (renX l x) := by
  obtain ⟨op, d, a, b, n⟩ := x
  unfold KindZ
  rcases ok_kinds h with ⟨rfl, h1, rfl, rfl⟩ | ⟨rfl, h1, h2, rfl, rfl⟩ | ⟨rfl, h1, h2, rfl, rfl⟩ | ⟨rfl, h1, rfl, rfl, rfl⟩ | ⟨rfl, h1, rfl, rfl, rfl⟩ | ⟨rfl, h1, h2, rfl, rfl⟩ | ⟨hw, h1, h2, h3, rfl⟩
  · simp [renX, insDefV, makesV, usesV]
  · simp [renX, insDefV, makesV, usesV]
  · simp [renX, insDefV, makesV, usesV]
  · simp [renX, insDefV, makesV, usesV]
  · simp [renX, insDefV, makesV, usesV]
  · simp [renX, insDefV, makesV, usesV]
  · exact .inr (.inr (.inr (.inr (.inr (.inr ⟨hw, rfl⟩)))))
theorem assertX_yes {x : InsD} (h : x.op = 25) (w : World) : (Instr.typeAssert (placeX x) 130 144 true).run Tryz.prog w = .ok (.tuple #[.agg #[.int .i64 x.d, .int .i64 x.a], .bool true]) w := by
  unfold placeX
  rw [h]
  exact copyPlace_yes _ w
theorem assertX_no {x : InsD} (hz : KindZ x) (h : x.op ≠ 25) (w : World) : (Instr.typeAssert (placeX x) 130 144 true).run Tryz.prog w = .ok (.tuple #[.agg #[.int .i64 0, .int .i64 0], .bool false]) w := by
  obtain ⟨op, d, a, b, n⟩ := x
  unfold placeX
  dsimp only at h ⊢
  rcases hz with ⟨e, _⟩ | ⟨e, _⟩ | ⟨e, _⟩ | ⟨e, _⟩ | ⟨e, _⟩ | ⟨e, _⟩ | ⟨e, _⟩
  all_goals dsimp only at e
  · subst e; exact copyPlace_no _ _ w (by decide)
  · subst e; exact copyPlace_no _ _ w (by decide)
  · subst e; exact copyPlace_no _ _ w (by decide)
  · subst e; exact copyPlace_no _ _ w (by decide)
  · subst e; exact copyPlace_no _ _ w (by decide)
  · exact absurd e h
  · rw [placeX_word e]; exact copyPlace_no _ _ w (by decide)
set_option maxRecDepth 100000 in
theorem ins_run {x : InsD} (hz : KindZ x) {ρ : Operand → Value} {o : Oper} {r : Operand} (ho : o.op = Op.call { callee := .invoke r "loop.example/g00192/impl.ins", args := #[], argTypes := #[] }) (hr : ρ r = placeX x) (w : World) : ∃ f args, (execOp ρ o).run Tryz.prog w = .ok (.enter f args) w ∧ ∀ W, Calls Tryz.prog f args W (fun e w' => e = .returned (insX x) ∧ Below W.heap.size W w') := by
  obtain ⟨op, d, a, b, n⟩ := x
  unfold placeX at hr
  unfold insX
  dsimp only at hr ⊢
  have key : ∀ {T : TypeId} {v : Value} {f : FuncId}, ρ r = .iface T v → ((execOp (fun _ => Value.iface T v) { dst := none, op := Op.call { callee := .invoke (.tmp 0) "loop.example/g00192/impl.ins", args := #[], argTypes := #[] }, type := 0, pos := "", after := #[], guard := none }).run Tryz.prog w = .ok (.enter f #[v]) w) → (execOp ρ o).run Tryz.prog w = .ok (.enter f #[v]) w := fun {T v f} h1 h2 => by
    simp [execOp, ho, resolve, h1] at h2 ⊢
    exact h2
  rcases hz with ⟨e, e1, e2⟩ | ⟨e, e1, e2⟩ | ⟨e, e1, e2⟩ | ⟨e, e1, e2, e3⟩ | ⟨e, e1, e2, e3⟩ | ⟨e, e1, e2⟩ | ⟨e, e1⟩
  all_goals dsimp only at e e1
  all_goals try dsimp only at e2
  all_goals try dsimp only at e3
  · subst e e1 e2
    exact ⟨282, _, key (T := 189) hr (by kernel_rfl), fun W => constPlace_ins d n W⟩
  · subst e e1 e2
    exact ⟨279, _, key (T := 183) hr (by kernel_rfl), fun W => loadPlace_ins d a W⟩
  · subst e e1 e2
    exact ⟨280, _, key (T := 185) hr (by kernel_rfl), fun W => storePlace_ins a b W⟩
  · subst e e1 e2 e3
    exact ⟨281, _, key (T := 187) hr (by kernel_rfl), fun W => outPlace_ins a W⟩
  · subst e e1 e2 e3
    exact ⟨283, _, key (T := 191) hr (by kernel_rfl), fun W => readPlace_ins d W⟩
  · subst e e1 e2
    exact ⟨277, _, key (T := 144) hr (by kernel_rfl), fun W => copyPlace_ins d a W⟩
  · subst e1
    rw [placeX_word e] at hr
    exact ⟨278, _, key (T := 182) hr (by kernel_rfl), fun W => wordPlace_ins op d a b W⟩
theorem run_addIns {wq W0 : World} {XB m : Nat} {la : Option Addr} {lcap : Nat} {ys : List InsD} {t : TermD} (y : InsD) (B : Nat) (hB : W0.heap.size = B) (hra : RenAt wq W0 XB (.slice la m lcap) ys t) (hn : ys.length = m) (hm : m ≤ 100000) (ty : TypeId) :
    ∃ (a' : Option Addr) (c' : Nat) (wa : World), (Builtin.append_ #[52, 52] ty #[.slice la m lcap, .slice (some ⟨B, 0, none⟩) 1 1]).run Tryz.prog (W0.alloc (.cells #[.int .i64 y.op, .int .i64 y.d, .int .i64 y.a, .int .i64 y.b, .int .i64 y.n] 59)) = .ok (.slice a' (m + 1) c') wa ∧ wa.cell? ⟨XB, 1, none⟩ = some (.slice la m lcap) ∧ wa.frozen? ⟨XB, 1, none⟩ = false ∧ RenAt wq (wa.setCell ⟨XB, 1, none⟩ (.slice a' (m + 1) c')) XB (.slice a' (m + 1) c') (ys ++ [y]) t := by
  obtain ⟨i0, hi, hz0, hz1, hz2⟩ := info_parts hinfo_ins
  have hmx : 2000000 ≤ maxLen := by decide
  have hown := hra.list
  unfold OwnIns at hown
  rw [hn] at hown
  have hlt := hra.lt
  obtain ⟨v', wa, hrun, hown', hgr, _, _⟩ := run_append_own_at (P := Tryz.prog) (W0.alloc (.cells #[.int .i64 y.op, .int .i64 y.d, .int .i64 y.a, .int .i64 y.b, .int .i64 y.n] 59)) (XB + 1) 52 ty 59 i0 (.agg #[.int .i64 0, .int .i64 0, .int .i64 0, .int .i64 0, .int .i64 0]) 5 40 Tryz.underlying52 hi hz0 hz1 hz2 rfl (by decide) (.slice la m lcap) m (insC ys) (World.ownsRow.alloc hown _) ⟨B, 0, none⟩ 1 1 [.int .i64 y.op, .int .i64 y.d, .int .i64 y.a, .int .i64 y.b, .int .i64 y.n] rfl (cells_newB hB _ _) (by simp [Value.oneCell']) (by omega) (by omega) (by simp; omega)
  obtain ⟨a', c', rfl⟩ := own_slice hown'
  obtain ⟨k1, k2, k3⟩ := hra.more hn hown' hgr
  exact ⟨a', c', wa, hrun, k2, k3, k1⟩
theorem run_addBlock {w1 W0 : World} {OB m : Nat} {la : Option Addr} {lcap : Nat} {own : OwnF} {bs : List BlockD} {ys : List InsD} {lv : Value} (t : TermD) (B : Nat) (hB : W0.heap.size = B) (hra : RenTo w1 W0 OB own (.slice la m lcap) bs) (hlv : OwnIns W0 (OB + 1) lv ys) (hno : ∀ g, lv.ownBlock = some g → 3 < (own g).1) (h1 : lv.oneCell' = true) (hn : bs.length = m) (hm : m ≤ 100000) (ty : TypeId) :
    ∃ (a' : Option Addr) (c' : Nat) (wa : World), (Builtin.append_ #[24, 24] ty #[.slice la m lcap, .slice (some ⟨B, 0, none⟩) 1 1]).run Tryz.prog (W0.alloc (.cells #[.slice none 0 0, lv, .int .i64 t.k, .int .i64 t.a, .int .i64 t.t, .int .i64 t.e] 56)) = .ok (.slice a' (m + 1) c') wa ∧ wa.cell? ⟨OB, 0, none⟩ = some (.slice la m lcap) ∧ wa.frozen? ⟨OB, 0, none⟩ = false ∧ (∃ own', RenTo w1 (wa.setCell ⟨OB, 0, none⟩ (.slice a' (m + 1) c')) OB own' (.slice a' (m + 1) c') (bs ++ [⟨[], ys, t⟩])) ∧ (W0.alloc (.cells #[.slice none 0 0, lv, .int .i64 t.k, .int .i64 t.a, .int .i64 t.t, .int .i64 t.e] 56)).grownBy wa (Value.slice la m lcap).ownBlock := by
  obtain ⟨i0, hi, hz0, hz1, hz2⟩ := info_parts hinfo_block
  have hmx : 2000000 ≤ maxLen := by decide
  obtain ⟨xs, hxs⟩ := hra.room.owns
  rw [hn] at hxs
  have hlt := hra.lt
  obtain ⟨v', wa, hrun, hown', hgr, _, hob⟩ := run_append_own_at (P := Tryz.prog) (W0.alloc (.cells #[.slice none 0 0, lv, .int .i64 t.k, .int .i64 t.a, .int .i64 t.t, .int .i64 t.e] 56)) (OB + 1) 24 ty 56 i0 (.agg #[.slice none 0 0, .slice none 0 0, .int .i64 0, .int .i64 0, .int .i64 0, .int .i64 0]) 6 80 Tryz.underlying24 hi hz0 hz1 hz2 rfl (by decide) (.slice la m lcap) m xs (World.ownsRow.alloc hxs _) ⟨B, 0, none⟩ 1 1 [.slice none 0 0, lv, .int .i64 t.k, .int .i64 t.a, .int .i64 t.t, .int .i64 t.e] rfl (cells_newB hB _ _) (by simp [Value.oneCell'] at h1 ⊢; exact h1) (by omega) (by omega) (by simp; omega)
  obtain ⟨a', c', rfl⟩ := own_slice hown'
  obtain ⟨k1, k2, k3⟩ := hra.more hn hxs hlv hno (by omega) hown' hgr hob
  exact ⟨a', c', wa, hrun, k2, k3, k1, hgr⟩
end Go.Proofs.YtldcohhifmpedaaGreat

namespace Go.Proofs.YtldcohhifmpedaaGreat
open Go.ChangeShapes Go.WideShapes Go.ChangeAt Go.RowKit Go.Shelf
set_option linter.unusedVariables false

theorem run_addOpR {P : Program} {o : Oper} {a : Act} {w : World} {x y : Operand} {t : TypeId} {p q v : Value} {w' : World} (ho : o.op = Op.call { callee := Callee.builtin Builtin.append, args := #[x, y], argTypes := #[t, t] }) (hx : a.eval x = p) (hy : a.eval y = q) (h : (Builtin.append_ #[t, t] o.type #[p, q]).run P w = .ok v w') : (execOp a.eval o).run P w = .ok (.value v) w' := by
  simp [execOp, ho, resolve, invoke, builtin, hx, hy, h]
theorem wp_skipsR {P : Program} {Q : Exit → Act → World → Prop} {o : Oper} {a : Act} {w w' : World} {K : Act → World → Prop} (h : (execOp a.eval o).run P w = .ok .skip w') (hk : K (a.put o.dst undef) w') : o.wp P a w K Q := by
  unfold Oper.wp
  rw [h]
  exact hk
theorem six_other {W0 : World} {B g : Nat} (h : g ≠ B) (k0 k1 k2 k3 k4 k5 : Value) : ((((((W0.setCell ⟨B, 0, none⟩ k0).setCell ⟨B, 1, none⟩ k1).setCell ⟨B, 2, none⟩ k2).setCell ⟨B, 3, none⟩ k3).setCell ⟨B, 4, none⟩ k4).setCell ⟨B, 5, none⟩ k5).heap[g]? = W0.heap[g]? := by
  simp only [Below.heap_setCell _ _ _ _ (show g ≠ (⟨B, _, none⟩ : Addr).block from h)]
theorem wp_ins {x : InsD} (hz : KindZ x) {o : Oper} {a : Act} {w : World} {K : Act → World → Prop} {Q : Exit → Act → World → Prop} {r : Operand} (ho : o.op = Op.call { callee := .invoke r "loop.example/g00192/impl.ins", args := #[], argTypes := #[] }) (hr : a.eval r = placeX x) (h : ∀ w', Below w.heap.size w w' → K (a.put o.dst (insX x)) w') : o.wp Tryz.prog a w K Q := by
  obtain ⟨f, args, hrun, hcall⟩ := ins_run hz (ρ := a.eval) ho hr w
  refine wp_call_of hrun (hcall _) ?_
  rintro e w8 ⟨rfl, b8⟩
  exact ⟨_, rfl, h w8 b8⟩
def GivesBk (w : World) (ys : List InsD) (t : TermD) (e : Ending) (w' : World) : Prop := ∃ (la : Option Addr) (lc : Nat), e = .returned (.agg #[.slice none 0 0, .slice la ys.length lc, .int .i64 t.k, .int .i64 t.a, .int .i64 t.t, .int .i64 t.e]) ∧ OwnIns w' w.heap.size (.slice la ys.length lc) ys ∧ Below w.heap.size w w'

set_option maxRecDepth 100000 in
set_option maxHeartbeats 8000000 in
theorem renBlock_any (V : Nat) (a : Option Addr) (cap : Nat) (l : List Int) (xl : List InsD) (pa la : Option Addr) (np pcap nl lcap : Nat) (tk ta tt te : Int) (w : World) (hl : IntsAt w (.slice a V cap) l) (hlv : ListAt 0 5 InsAt w (.slice la nl lcap) xl) (hn : xl.length = nl) (h24 : nl ≤ 24) (hok : ∀ y ∈ xl, placeOkV (V : Int) y = true) (he : ∀ z ∈ endsV tk ta, 0 ≤ z ∧ z < (V : Int)) :
    Calls Tryz.prog 65 #[.agg #[.slice pa np pcap, .slice la nl lcap, .int .i64 tk, .int .i64 ta, .int .i64 tt, .int .i64 te], .slice a V cap] w fun e w' => GivesBk w (renL l xl) (renT l ⟨tk, ta, tt, te⟩) e w' := by
  have HL : Hid (IntsAt w (.slice a V cap) l) := hl
  have HLV : Hid (ListAt 0 5 InsAt w (.slice la nl lcap) xl) := hlv
  have HNL : Hid (xl.length = nl) := hn
  have HOK : Hid (∀ y ∈ xl, placeOkV (V : Int) y = true) := hok
  obtain ⟨wA, hwA⟩ : ∃ W, w.alloc (.cells #[.slice pa np pcap, .slice la nl lcap, .int .i64 tk, .int .i64 ta, .int .i64 tt, .int .i64 te] 56) = W := ⟨_, rfl⟩
  have bA : Below w.heap.size w wA := by rw [← hwA]; exact Bel.alloc _ _
  have hsA : wA.heap.size = w.heap.size + 1 := by rw [← hwA]; simp
  have TA : Hid (wA.heap[w.heap.size]? = some (.cells #[.slice pa np pcap, .slice la nl lcap, .int .i64 tk, .int .i64 ta, .int .i64 tt, .int .i64 te] 56 (0, 0))) := by rw [← hwA]; exact World.alloc_heap_new w _
  obtain ⟨wB, hwB⟩ : ∃ W, wA.alloc (.cells #[.slice none 0 0, .slice none 0 0, .int .i64 0, .int .i64 0, .int .i64 0, .int .i64 0] 56) = W := ⟨_, rfl⟩
  have bAB : Below wA.heap.size wA wB := by rw [← hwB]; exact Bel.alloc _ _
  have BB : Hid (Below w.heap.size w wB) := Bel.after bA bAB
  have hsB : wB.heap.size = w.heap.size + 2 := by rw [← hwB]; simp; omega
  have TB : Hid (wB.heap[w.heap.size + 1]? = some (.cells #[.slice none 0 0, .slice none 0 0, .int .i64 0, .int .i64 0, .int .i64 0, .int .i64 0] 56 (0, 0))) := by
    have h9 := World.alloc_heap_new wA (.cells #[.slice none 0 0, .slice none 0 0, .int .i64 0, .int .i64 0, .int .i64 0, .int .i64 0] 56)
    rw [hwB, hsA] at h9
    exact h9
  obtain ⟨⟨c0, c1, c2, c3, c4, c5⟩, _⟩ := blockBox_cells ((bAB.block _ (by omega)).trans TA.out)
  clear hl hlv hn hok bA
  go_enter Tryz.func65, Tryz.ntmps65
  go_wp2_with fail
  try rw [hwA]
  try rw [hwB]
  clear hwA hwB bAB TA
  refine (renTerm_any V a cap l tk ta tt te wB (HL.out.keep BB.out) he).mono ?_
  rintro e w1 ⟨rfl, b1⟩
  have B1 : Hid (Below w.heap.size w w1) := Bel.after BB.out b1
  have TB1 : Hid (w1.heap[w.heap.size + 1]? = some (.cells #[.slice none 0 0, .slice none 0 0, .int .i64 0, .int .i64 0, .int .i64 0, .int .i64 0] 56 (0, 0))) := (b1.block _ (by omega)).trans TB.out
  have hs1 : w.heap.size + 1 < w1.heap.size := by have := b1.size; omega
  have hs0 : w.heap.size < w1.heap.size := by omega
  replace c1 := Bel.keeps b1 c1
  obtain ⟨h, HH⟩ : ∃ h, Hid ((renT l ⟨tk, ta, tt, te⟩).a = h) := ⟨_, rfl⟩
  have HTA : Hid (renT l ⟨tk, ta, tt, te⟩ = ⟨tk, h, tt, te⟩) := by
    show renT l ⟨tk, ta, tt, te⟩ = ⟨tk, h, tt, te⟩
    rw [← HH.out]
    rfl
  rw [HH.out]
  clear b1 c0 c2 c3 c4 c5 TB BB
  go_wp2_with fail
  obtain ⟨wX, hwX⟩ : ∃ W, w1.alloc (.cells #[.slice none 0 0, .slice none 0 0, .int .i64 tk, .int .i64 h, .int .i64 tt, .int .i64 te] 56) = W := ⟨_, rfl⟩
  have RZ : Hid (RenAt w1 wX w1.heap.size (.slice none 0 0) [] ⟨tk, h, tt, te⟩) := by
    rw [← hwX]
    exact ⟨Bel.alloc _ _, by simp, World.alloc_heap_new w1 _, ownIns_nil _ _⟩
  rw [hwX]
  clear hwX c1
  go_loopw [19] (fun i wr => RenInR w1 l xl ⟨tk, h, tt, te⟩ nl i wr) (fun i _ => nl - (intOf i).toNat)
  case atStart => exact ⟨0, _, Nat.zero_le _, rfl, by rw [renL_nil]; exact RZ.out⟩
  case round =>
    clear RZ
    obtain ⟨wy, hwy⟩ : ∃ x, x = wr := ⟨_, rfl⟩
    subst hwy
    obtain ⟨j, lv, hj, rfl, hra⟩ := hrel
    obtain ⟨m, HM⟩ : ∃ m, Hid ((renL l (xl.take j)).length = m) := ⟨_, rfl⟩
    have hmj : m ≤ 24 := by have h1 := renL_len l (xl.take j); have h2 := HM.out; rw [List.length_take] at h1; omega
    obtain ⟨ra, rcap, hlv9⟩ := hra.list.form
    rw [HM.out] at hlv9
    subst hlv9
    have RY : Hid (RenAt w1 wy w1.heap.size (.slice ra m rcap) (renL l (xl.take j)) ⟨tk, h, tt, te⟩) := hra
    have hlty := hra.lt
    have BY : Hid (Below w.heap.size w wy) := Bel.after B1.out hra.bel
    clear hra
    by_cases hlj : (j : Int) < (nl : Int)
    · obtain ⟨y, HY⟩ : ∃ y, Hid (xl[j]? = some y) := ⟨xl[j]'(by have := HNL.out; omega), List.getElem?_eq_getElem _⟩
      obtain ⟨lb, lo2, hla, hin⟩ := placeAt HLV.out HY.out
      subst hla
      have HYO : Hid (placeOkV (V : Int) y = true) := HOK.out y (List.mem_of_getElem? HY.out)
      obtain ⟨i0, i1, i2, i3, i4⟩ := hin
      replace i0 := Bel.keeps BY.out i0
      replace i1 := Bel.keeps BY.out i1
      replace i2 := Bel.keeps BY.out i2
      replace i3 := Bel.keeps BY.out i3
      replace i4 := Bel.keeps BY.out i4
      obtain ⟨yop, yd, ya, yb, yn⟩ := y
      dsimp only at i0 i1 i2 i3 i4
      go_wp2_with fail
      obtain ⟨wC, hwC⟩ : ∃ W, wy.alloc (.cells #[.int .i64 yop, .int .i64 yd, .int .i64 ya, .int .i64 yb, .int .i64 yn] 59) = W := ⟨_, rfl⟩
      have bC : Below wy.heap.size wy wC := by rw [← hwC]; exact Bel.alloc _ _
      rw [hwC]
      clear hwC i0 i1 i2 i3 i4
      refine (placeOf_any yop yd ya yb yn wC).mono ?_
      rw [show placeV yop yd ya yb yn = placeX ⟨yop, yd, ya, yb, yn⟩ from rfl]
      rintro e w5 ⟨rfl, b5⟩
      have B5 : Hid (Below wy.heap.size wy w5) := Bel.after bC b5
      clear b5 bC
      go_wp2_with fail
      refine (renPlace_any V a cap l ⟨yop, yd, ya, yb, yn⟩ w5 (HL.out.keep (Bel.after BY.out B5.out)) HYO.out).mono ?_
      have HKZ : Hid (KindZ (renX l ⟨yop, yd, ya, yb, yn⟩)) := kindZ_ren HYO.out
      obtain ⟨y', HY'⟩ : ∃ q, Hid (renX l ⟨yop, yd, ya, yb, yn⟩ = q) := ⟨_, rfl⟩
      rw [HY'.out] at HKZ ⊢
      rintro e w6 ⟨rfl, b6⟩
      have B6 : Hid (Below wy.heap.size wy w6) := Bel.after B5.out b6
      have HADD : Hid (selfC y' = false → renL l (xl.take j) ++ [y'] = renL l (xl.take (j + 1))) := fun hs9 => by
        rw [← HY'.out] at hs9 ⊢
        exact (renL_more HY.out hs9).symm
      have HSTAY : Hid (selfC y' = true → renL l (xl.take j) = renL l (xl.take (j + 1))) := fun hs9 => by
        rw [← HY'.out] at hs9
        exact (renL_stay HY.out hs9).symm
      clear b6 B5
      obtain ⟨rop, rd, ra', rb, rn⟩ := y'
      by_cases h25 : rop = 25
      · have hA := fun w => assertX_yes (x := ⟨rop, rd, ra', rb, rn⟩) h25 w
        dsimp only at hA
        by_cases hself : rd = ra'
        · have f26 : (rd == ra') = true := by simp [hself]
          have HSELF : Hid (selfC ⟨rop, rd, ra', rb, rn⟩ = true) := by show selfC _ = true; simp [selfC, h25, hself]
          clear h25 hself
          go_wp2_with fail
          go_roundw
          case rel =>
            first
              | exact (show RenInR w1 l xl ⟨tk, h, tt, te⟩ nl _ _ from ⟨j + 1, _, by omega, by simp, by rw [← HSTAY.out HSELF.out]; exact RY.out.keep (Bel.after B6.out (Bel.alloc _ _))⟩)
              | ((repeat apply Exists.intro); exact ⟨(show RenInR w1 l xl ⟨tk, h, tt, te⟩ nl _ _ from ⟨j + 1, _, by omega, by simp, by rw [← HSTAY.out HSELF.out]; exact RY.out.keep (Bel.after B6.out (Bel.alloc _ _))⟩), rfl⟩)
          case measure => simp [intOf]; omega
        · have f26 : (rd == ra') = false := by simpa using hself
          have HSELF : Hid (selfC ⟨rop, rd, ra', rb, rn⟩ = false) := by show selfC _ = false; simp [selfC, hself]
          clear h25 hself
          go_wp2_with fail
          obtain ⟨w7, hw7⟩ : ∃ W, w6.alloc (.cells #[.int .i64 rd, .int .i64 ra'] 144) = W := ⟨_, rfl⟩
          have B7 : Hid (Below wy.heap.size wy w7) := by rw [← hw7]; exact Bel.after B6.out (Bel.alloc _ _)
          rw [hw7]
          clear hw7 hA
          have RY7 : Hid (RenAt w1 w7 w1.heap.size (.slice ra m rcap) (renL l (xl.take j)) ⟨tk, h, tt, te⟩) := RY.out.keep B7.out
          obtain ⟨⟨x0, x1, x2, x3, x4, x5⟩, xz⟩ := blockBox_cells RY7.out.box
          clear x0 x2 x3 x4 x5 xz
          refine wp_noThrow (region_M 7 (fun w' => w'.cell? ⟨w1.heap.size, 1, none⟩ = some (.slice ra m rcap)) (by kernel_rfl) ?_)
          have hHeld : w7.drew.cell? ⟨w1.heap.size, 1, none⟩ = some (.slice ra m rcap) := x1
          refine wpAnyM_take (i := 0) (oi := { dst := some 40, op := Go.Op.fieldAddr 56 (Go.Operand.tmp 5) 1, type := 0, pos := "l13_home.go:136", after := #[], guard := none }) (v := ?_) rfl (by kernel_rfl) (by kernel_rfl) (by kernel_rfl) (by kernel_rfl) (fun _ _ _ h => h) (Or.inl ⟨by rfl, ?_⟩) (by assumption) ?_
          rotate_left
          · intro w hSw
            (try dsimp only at hSw)
            go_simp
            (try with_reducible rfl)
          try simp only [Act.put, List.setIfInBounds_toArray, List.set_cons_zero, List.set_cons_succ]
          refine wpAnyM_take (i := 1) (oi := { dst := some 41, op := Go.Op.load 52 (Go.Operand.tmp 40), type := 52, pos := "l13_home.go:136", after := #[{ on := 0, ground := Go.Ground.data }], guard := none }) (v := ?_) rfl (by kernel_rfl) (by kernel_rfl) (by kernel_rfl) (by kernel_rfl) (fun _ _ _ h => h) (Or.inl ⟨by rfl, ?_⟩) (by assumption) ?_
          rotate_left
          · intro w hSw
            (try dsimp only at hSw)
            go_simp
            (try with_reducible rfl)
          try simp only [Act.put, List.setIfInBounds_toArray, List.set_cons_zero, List.set_cons_succ]
          refine wpAnyM_take (i := 2) (oi := { dst := some 42, op := Go.Op.move (Go.Operand.tmp 8), type := 130, pos := "l13_home.go:136", after := #[], guard := none }) (v := ?_) rfl (by kernel_rfl) (by kernel_rfl) (by kernel_rfl) (by kernel_rfl) (fun _ _ _ h => h) (Or.inl ⟨by rfl, ?_⟩) (by assumption) ?_
          rotate_left
          · intro w hSw
            (try dsimp only at hSw)
            go_simp
            (try with_reducible rfl)
          try simp only [Act.put, List.setIfInBounds_toArray, List.set_cons_zero, List.set_cons_succ]
          refine cmAnyM_oneK (i := 3) (o := { dst := some 43, op := Go.Op.call { callee := Go.Callee.invoke (Go.Operand.tmp 42) "loop.example/g00192/impl.ins", args := #[], argTypes := #[] }, type := 59, pos := "l13_home.go:136", after := #[{ on := 2, ground := Go.Ground.data }], guard := none }) rfl rfl (by kernel_rfl) (fun K9 hK9 => ?_)
          refine wp_ins HKZ.out (r := .tmp 42) rfl rfl ?_
          intro w8 b8
          have R8 : RenAt w1 w8 w1.heap.size (.slice ra m rcap) (renL l (xl.take j)) ⟨tk, h, tt, te⟩ := (RY7.out.keep ((Below.refl _ w7).drew)).keep b8
          obtain ⟨⟨_, s1, _⟩, _⟩ := blockBox_cells R8.box
          refine hK9 _ _ ⟨fun _ => s1, ?_⟩
          try simp only [Act.put, List.setIfInBounds_toArray, List.set_cons_zero, List.set_cons_succ]
          clear hK9 hHeld x1
          unfold insX
          dsimp only
          refine cmAnyM_oneK (i := 4) (o := { dst := some 44, op := Go.Op.buildSlice 52 1 #[(0, Go.Operand.tmp 43)], type := 52, pos := "l13_home.go:136", after := #[{ on := 3, ground := Go.Ground.data }], guard := none }) rfl rfl (by kernel_rfl) (fun K9 hK9 => ?_)
          refine wp_value (v := .slice (some ⟨w8.heap.size, 0, none⟩) 1 1) (w' := w8.alloc (.cells #[.int .i64 rop, .int .i64 rd, .int .i64 ra', .int .i64 rb, .int .i64 rn] 59)) (by simp [execOp, Instr.buildSlice, go_sem]) (hK9 _ _ ⟨fun _ => Bel.keeps (Bel.alloc _ _) s1, ?_⟩)
          try simp only [Act.put, List.setIfInBounds_toArray, List.set_cons_zero, List.set_cons_succ]
          clear hK9
          refine cmAnyM_oneK (i := 5) (o := { dst := some 45, op := Go.Op.call { callee := Go.Callee.builtin Go.Builtin.append, args := #[Go.Operand.tmp 41, Go.Operand.tmp 44], argTypes := #[52, 52] }, type := 52, pos := "l13_home.go:136", after := #[{ on := 1, ground := Go.Ground.data }, { on := 4, ground := Go.Ground.data }, { on := 3, ground := Go.Ground.chain }], guard := none }) rfl rfl (by kernel_rfl) (fun K9 hK9 => ?_)
          obtain ⟨a9, c9, wa9, hrun, k1, k2, k3⟩ := run_addIns ⟨rop, rd, ra', rb, rn⟩ w8.heap.size rfl R8 HM.out (by omega) 52
          refine wp_value (run_addOpR rfl rfl rfl hrun) (hK9 _ _ ⟨fun _ => k1, ?_⟩)
          try simp only [Act.put, List.setIfInBounds_toArray, List.set_cons_zero, List.set_cons_succ]
          clear hK9 hrun s1
          refine wpAnyM_take (i := 6) (oi := { dst := some 46, op := Go.Op.fieldAddr 56 (Go.Operand.tmp 5) 1, type := 0, pos := "l13_home.go:136", after := #[{ on := 0, ground := Go.Ground.phase }, { on := 1, ground := Go.Ground.phase }, { on := 2, ground := Go.Ground.phase }, { on := 3, ground := Go.Ground.phase }, { on := 4, ground := Go.Ground.phase }, { on := 5, ground := Go.Ground.phase }], guard := none }) (v := ?_) rfl (by kernel_rfl) (by kernel_rfl) (by kernel_rfl) (by kernel_rfl) (fun _ _ _ h => h) (Or.inl ⟨by rfl, ?_⟩) (by assumption) ?_
          rotate_left
          · intro w hSw
            (try dsimp only at hSw)
            go_simp
            (try with_reducible rfl)
          try simp only [Act.put, List.setIfInBounds_toArray, List.set_cons_zero, List.set_cons_succ]
          refine cmAnyM_oneK (i := 7) (o := { dst := none, op := Go.Op.store 52 (Go.Operand.tmp 46) (Go.Operand.tmp 45), type := 0, pos := "l13_home.go:136", after := #[{ on := 6, ground := Go.Ground.data }, { on := 5, ground := Go.Ground.data }, { on := 5, ground := Go.Ground.chain }, { on := 0, ground := Go.Ground.phase }, { on := 1, ground := Go.Ground.phase }, { on := 2, ground := Go.Ground.phase }, { on := 3, ground := Go.Ground.phase }, { on := 4, ground := Go.Ground.phase }, { on := 5, ground := Go.Ground.phase }], guard := none }) rfl rfl (by kernel_rfl) (fun K9 hK9 => ?_)
          refine wp_skipsR (w' := wa9.setCell ⟨w1.heap.size, 1, none⟩ (.slice a9 (m + 1) c9)) (by simp [execOp, go_sem, k1, k2]) (hK9 _ _ ⟨fun h => absurd rfl h, ?_⟩)
          clear hK9 k1 k2
          rw [HADD.out HSELF.out] at k3
          have J3 : Hid (RenAt w1 (wa9.setCell ⟨w1.heap.size, 1, none⟩ (.slice a9 (m + 1) c9)) w1.heap.size (.slice a9 (m + 1) c9) (renL l (xl.take (j + 1))) ⟨tk, h, tt, te⟩) := k3
          clear k3
          generalize wa9.setCell ⟨w1.heap.size, 1, none⟩ (.slice a9 (m + 1) c9) = wZ at J3 ⊢
          refine wpAnyM_done (by kernel_rfl) ?_ _
          simp only [noThrow, Exit.inBlock, Exit.then]
          go_at_K
          go_wp2_with fail
          go_roundw
          case rel =>
            first
              | exact (show RenInR w1 l xl ⟨tk, h, tt, te⟩ nl _ _ from ⟨j + 1, _, by omega, by simp, J3.out⟩)
              | ((repeat apply Exists.intro); exact ⟨(show RenInR w1 l xl ⟨tk, h, tt, te⟩ nl _ _ from ⟨j + 1, _, by omega, by simp, J3.out⟩), rfl⟩)
          case measure => simp [intOf]; omega
      · have hA := fun w => assertX_no (x := ⟨rop, rd, ra', rb, rn⟩) HKZ.out h25 w
        have HSELF : Hid (selfC ⟨rop, rd, ra', rb, rn⟩ = false) := by show selfC _ = false; simp [selfC, h25]
        clear h25
        go_wp2_with fail
        obtain ⟨w7, hw7⟩ : ∃ W, w6.alloc (.cells #[.int .i64 0, .int .i64 0] 144) = W := ⟨_, rfl⟩
        have B7 : Hid (Below wy.heap.size wy w7) := by rw [← hw7]; exact Bel.after B6.out (Bel.alloc _ _)
        rw [hw7]
        clear hw7 hA
        have RY7 : Hid (RenAt w1 w7 w1.heap.size (.slice ra m rcap) (renL l (xl.take j)) ⟨tk, h, tt, te⟩) := RY.out.keep B7.out
        obtain ⟨⟨x0, x1, x2, x3, x4, x5⟩, xz⟩ := blockBox_cells RY7.out.box
        clear x0 x2 x3 x4 x5 xz
        refine wp_noThrow (region_M 7 (fun w' => w'.cell? ⟨w1.heap.size, 1, none⟩ = some (.slice ra m rcap)) (by kernel_rfl) ?_)
        have hHeld : w7.drew.cell? ⟨w1.heap.size, 1, none⟩ = some (.slice ra m rcap) := x1
        refine wpAnyM_take (i := 0) (oi := { dst := some 40, op := Go.Op.fieldAddr 56 (Go.Operand.tmp 5) 1, type := 0, pos := "l13_home.go:136", after := #[], guard := none }) (v := ?_) rfl (by kernel_rfl) (by kernel_rfl) (by kernel_rfl) (by kernel_rfl) (fun _ _ _ h => h) (Or.inl ⟨by rfl, ?_⟩) (by assumption) ?_
        rotate_left
        · intro w hSw
          (try dsimp only at hSw)
          go_simp
          (try with_reducible rfl)
        try simp only [Act.put, List.setIfInBounds_toArray, List.set_cons_zero, List.set_cons_succ]
        refine wpAnyM_take (i := 1) (oi := { dst := some 41, op := Go.Op.load 52 (Go.Operand.tmp 40), type := 52, pos := "l13_home.go:136", after := #[{ on := 0, ground := Go.Ground.data }], guard := none }) (v := ?_) rfl (by kernel_rfl) (by kernel_rfl) (by kernel_rfl) (by kernel_rfl) (fun _ _ _ h => h) (Or.inl ⟨by rfl, ?_⟩) (by assumption) ?_
        rotate_left
        · intro w hSw
          (try dsimp only at hSw)
          go_simp
          (try with_reducible rfl)
        try simp only [Act.put, List.setIfInBounds_toArray, List.set_cons_zero, List.set_cons_succ]
        refine wpAnyM_take (i := 2) (oi := { dst := some 42, op := Go.Op.move (Go.Operand.tmp 8), type := 130, pos := "l13_home.go:136", after := #[], guard := none }) (v := ?_) rfl (by kernel_rfl) (by kernel_rfl) (by kernel_rfl) (by kernel_rfl) (fun _ _ _ h => h) (Or.inl ⟨by rfl, ?_⟩) (by assumption) ?_
        rotate_left
        · intro w hSw
          (try dsimp only at hSw)
          go_simp
          (try with_reducible rfl)
        try simp only [Act.put, List.setIfInBounds_toArray, List.set_cons_zero, List.set_cons_succ]
        refine cmAnyM_oneK (i := 3) (o := { dst := some 43, op := Go.Op.call { callee := Go.Callee.invoke (Go.Operand.tmp 42) "loop.example/g00192/impl.ins", args := #[], argTypes := #[] }, type := 59, pos := "l13_home.go:136", after := #[{ on := 2, ground := Go.Ground.data }], guard := none }) rfl rfl (by kernel_rfl) (fun K9 hK9 => ?_)
        refine wp_ins HKZ.out (r := .tmp 42) rfl rfl ?_
        intro w8 b8
        have R8 : RenAt w1 w8 w1.heap.size (.slice ra m rcap) (renL l (xl.take j)) ⟨tk, h, tt, te⟩ := (RY7.out.keep ((Below.refl _ w7).drew)).keep b8
        obtain ⟨⟨_, s1, _⟩, _⟩ := blockBox_cells R8.box
        refine hK9 _ _ ⟨fun _ => s1, ?_⟩
        try simp only [Act.put, List.setIfInBounds_toArray, List.set_cons_zero, List.set_cons_succ]
        clear hK9 hHeld x1
        unfold insX
        dsimp only
        refine cmAnyM_oneK (i := 4) (o := { dst := some 44, op := Go.Op.buildSlice 52 1 #[(0, Go.Operand.tmp 43)], type := 52, pos := "l13_home.go:136", after := #[{ on := 3, ground := Go.Ground.data }], guard := none }) rfl rfl (by kernel_rfl) (fun K9 hK9 => ?_)
        refine wp_value (v := .slice (some ⟨w8.heap.size, 0, none⟩) 1 1) (w' := w8.alloc (.cells #[.int .i64 rop, .int .i64 rd, .int .i64 ra', .int .i64 rb, .int .i64 rn] 59)) (by simp [execOp, Instr.buildSlice, go_sem]) (hK9 _ _ ⟨fun _ => Bel.keeps (Bel.alloc _ _) s1, ?_⟩)
        try simp only [Act.put, List.setIfInBounds_toArray, List.set_cons_zero, List.set_cons_succ]
        clear hK9
        refine cmAnyM_oneK (i := 5) (o := { dst := some 45, op := Go.Op.call { callee := Go.Callee.builtin Go.Builtin.append, args := #[Go.Operand.tmp 41, Go.Operand.tmp 44], argTypes := #[52, 52] }, type := 52, pos := "l13_home.go:136", after := #[{ on := 1, ground := Go.Ground.data }, { on := 4, ground := Go.Ground.data }, { on := 3, ground := Go.Ground.chain }], guard := none }) rfl rfl (by kernel_rfl) (fun K9 hK9 => ?_)
        obtain ⟨a9, c9, wa9, hrun, k1, k2, k3⟩ := run_addIns ⟨rop, rd, ra', rb, rn⟩ w8.heap.size rfl R8 HM.out (by omega) 52
        refine wp_value (run_addOpR rfl rfl rfl hrun) (hK9 _ _ ⟨fun _ => k1, ?_⟩)
        try simp only [Act.put, List.setIfInBounds_toArray, List.set_cons_zero, List.set_cons_succ]
        clear hK9 hrun s1
        refine wpAnyM_take (i := 6) (oi := { dst := some 46, op := Go.Op.fieldAddr 56 (Go.Operand.tmp 5) 1, type := 0, pos := "l13_home.go:136", after := #[{ on := 0, ground := Go.Ground.phase }, { on := 1, ground := Go.Ground.phase }, { on := 2, ground := Go.Ground.phase }, { on := 3, ground := Go.Ground.phase }, { on := 4, ground := Go.Ground.phase }, { on := 5, ground := Go.Ground.phase }], guard := none }) (v := ?_) rfl (by kernel_rfl) (by kernel_rfl) (by kernel_rfl) (by kernel_rfl) (fun _ _ _ h => h) (Or.inl ⟨by rfl, ?_⟩) (by assumption) ?_
        rotate_left
        · intro w hSw
          (try dsimp only at hSw)
          go_simp
          (try with_reducible rfl)
        try simp only [Act.put, List.setIfInBounds_toArray, List.set_cons_zero, List.set_cons_succ]
        refine cmAnyM_oneK (i := 7) (o := { dst := none, op := Go.Op.store 52 (Go.Operand.tmp 46) (Go.Operand.tmp 45), type := 0, pos := "l13_home.go:136", after := #[{ on := 6, ground := Go.Ground.data }, { on := 5, ground := Go.Ground.data }, { on := 5, ground := Go.Ground.chain }, { on := 0, ground := Go.Ground.phase }, { on := 1, ground := Go.Ground.phase }, { on := 2, ground := Go.Ground.phase }, { on := 3, ground := Go.Ground.phase }, { on := 4, ground := Go.Ground.phase }, { on := 5, ground := Go.Ground.phase }], guard := none }) rfl rfl (by kernel_rfl) (fun K9 hK9 => ?_)
        refine wp_skipsR (w' := wa9.setCell ⟨w1.heap.size, 1, none⟩ (.slice a9 (m + 1) c9)) (by simp [execOp, go_sem, k1, k2]) (hK9 _ _ ⟨fun h => absurd rfl h, ?_⟩)
        clear hK9 k1 k2
        rw [HADD.out HSELF.out] at k3
        have J3 : Hid (RenAt w1 (wa9.setCell ⟨w1.heap.size, 1, none⟩ (.slice a9 (m + 1) c9)) w1.heap.size (.slice a9 (m + 1) c9) (renL l (xl.take (j + 1))) ⟨tk, h, tt, te⟩) := k3
        clear k3
        generalize wa9.setCell ⟨w1.heap.size, 1, none⟩ (.slice a9 (m + 1) c9) = wZ at J3 ⊢
        refine wpAnyM_done (by kernel_rfl) ?_ _
        simp only [noThrow, Exit.inBlock, Exit.then]
        go_at_K
        go_wp2_with fail
        go_roundw
        case rel =>
          first
            | exact (show RenInR w1 l xl ⟨tk, h, tt, te⟩ nl _ _ from ⟨j + 1, _, by omega, by simp, J3.out⟩)
            | ((repeat apply Exists.intro); exact ⟨(show RenInR w1 l xl ⟨tk, h, tt, te⟩ nl _ _ from ⟨j + 1, _, by omega, by simp, J3.out⟩), rfl⟩)
        case measure => simp [intOf]; omega
    · have ejn : nl = j := by omega
      subst ejn
      have exl : renL l (xl.take nl) = renL l xl := by rw [List.take_of_length_le (by have := HNL.out; omega)]
      rw [exl] at RY HM
      obtain ⟨⟨x0, x1, x2, x3, x4, x5⟩, xz⟩ := blockBox_cells RY.out.box
      dsimp only at x2 x3 x4 x5
      have TBy : Hid (wy.heap[w.heap.size + 1]? = some (.cells #[.slice none 0 0, .slice none 0 0, .int .i64 0, .int .i64 0, .int .i64 0, .int .i64 0] 56 (0, 0))) := (RY.out.bel.block _ (by omega)).trans TB1.out
      obtain ⟨⟨r0, r1, r2, r3, r4, r5⟩, rz⟩ := blockBox_cells TBy.out
      have rz0 := rz 0
      have rz1 := rz 1
      have rz2 := rz 2
      have rz3 := rz 3
      have rz4 := rz 4
      have rz5 := rz 5
      clear xz rz
      go_wp2_with fail
      refine bodyPost_ret (results_block rfl _ _ rfl (block_put6 TBy.out _ _ _ _ _ _)) rfl ?_
      refine ⟨ra, rcap, ?_, ?_, below_six BY.out (by omega) _ _ _ _ _ _⟩
      · rw [HM.out, HTA.out]
      · rw [HM.out]
        exact (RY.out.list.low (by omega)).same (fun g hg => six_other (by have := (RY.out.list.lt hg).1; omega) _ _ _ _ _ _)
end Go.Proofs.YtldcohhifmpedaaGreat

namespace Go.Proofs.YtldcohhifmpedaaGreat
open Go.ChangeShapes Go.WideShapes Go.ChangeAt Go.RowKit Go.Shelf
set_option linter.unusedVariables false

set_option maxRecDepth 100000 in
set_option maxHeartbeats 16000000 in
theorem impl_renamed (v : Value) (F : FnD) (a : Option Addr) (ln cap : Nat) (l : List Int) (w : World) (hF : FnAt w v F) (hl : IntsAt w (.slice a ln cap) l) :
    Calls Tryz.prog 15 #[v, .slice a ln cap] w fun e w' => GivesRen w (renamedOf F l) (homesOkOf F l) e w' := by
  have HF : Hid (FnAt w v F) := hF
  have HL : Hid (IntsAt w (.slice a ln cap) l) := hl
  have HLN : Hid (l.length = ln) := intsAt_len hl
  obtain ⟨n, HN⟩ : ∃ n, Hid (F.blocks.length = n) := ⟨_, rfl⟩
  obtain ⟨vals, HV⟩ : ∃ x, Hid (F.values = x) := ⟨_, rfl⟩
  obtain ⟨ba, bcap, rfl⟩ := hF.out HN.out HV.out
  clear hF hl
  obtain ⟨wA, hwA⟩ : ∃ wA, w.alloc (.cells #[.slice ba n bcap, .int .i64 vals] 26) = wA := ⟨_, rfl⟩
  have BA : Hid (Below w.heap.size w wA) := by rw [← hwA]; exact Bel.alloc _ _
  have hsA : wA.heap.size = w.heap.size + 1 := by rw [← hwA]; simp
  have a0 : wA.cell? ⟨w.heap.size, 0, none⟩ = some (.slice ba n bcap) := by rw [← hwA]; simp [go_sem]
  have a1 : wA.cell? ⟨w.heap.size, 1, none⟩ = some (.int .i64 vals) := by rw [← hwA]; simp [go_sem]
  obtain ⟨wB, hwB⟩ : ∃ wB, wA.alloc (.cells #[.slice none 0 0, .int .i64 0] 26) = wB := ⟨_, rfl⟩
  have BB : Hid (Below w.heap.size w wB) := by rw [← hwB]; exact Bel.after BA.out (Bel.alloc _ _)
  have bAB : Below wA.heap.size wA wB := by rw [← hwB]; exact Bel.alloc _ _
  have hsB : wB.heap.size = w.heap.size + 2 := by rw [← hwB]; simp; omega
  have HRB : Hid (wB.heap[w.heap.size + 1]? = some (.cells #[.slice none 0 0, .int .i64 0] 26 (0, 0))) := by
    have h9 := World.alloc_heap_new wA (.cells #[.slice none 0 0, .int .i64 0] 26)
    rw [hwB, hsA] at h9
    exact h9
  replace a0 := Bel.keeps bAB a0
  replace a1 := Bel.keeps bAB a1
  go_enter Tryz.func15, Tryz.ntmps15
  go_wp2_with fail
  try rw [hwA]
  try rw [hwB]
  clear hwA hwB bAB BA hsA
  refine (impl_homesOk _ F a ln cap l wB (HF.out.later BB.out) (HL.out.keep BB.out)).mono ?_
  rintro e w2 ⟨s, rfl, hs, b2⟩
  have HS : Hid (s = true ↔ HomesOkP F l) := hs
  have HRS : Hid (homesOkOf F l = s) := homesOkOf_eq hs
  have B2 : Hid (Below w.heap.size w w2) := Bel.after BB.out b2
  have c0 := Bel.keeps b2 a0
  have c1 := Bel.keeps b2 a1
  have hs2 : w.heap.size + 1 < w2.heap.size := by have := b2.size; omega
  have HR2 : Hid (w2.heap[w.heap.size + 1]? = some (.cells #[.slice none 0 0, .int .i64 0] 26 (0, 0))) := (b2.block _ (by omega)).trans HRB.out
  obtain ⟨⟨r0, r1⟩, rz⟩ := fnBox_cells HR2.out
  have rz0 := rz 0
  have rz1 := rz 1
  clear hs b2 a0 a1 BB HRB rz
  cases s
  · go_wp2_with fail
    have k0 : ((w2.setCell ⟨w.heap.size + 1, 0, none⟩ (.slice none 0 0)).setCell ⟨w.heap.size + 1, 1, none⟩ (.int .i64 0)).cell? ⟨w.heap.size + 1, 0, none⟩ = some (.slice none 0 0) := (World.cell?_setCell_other _ _ _ _ (by simp)).trans (World.cell?_setCell_same _ _ _ r0)
    have k1 : ((w2.setCell ⟨w.heap.size + 1, 0, none⟩ (.slice none 0 0)).setCell ⟨w.heap.size + 1, 1, none⟩ (.int .i64 0)).cell? ⟨w.heap.size + 1, 1, none⟩ = some (.int .i64 0) := World.cell?_setCell_same _ _ _ ((World.cell?_setCell_other _ _ _ _ (by simp)).trans r1)
    refine bodyPost_ret (v := .tuple #[.agg #[.slice none 0 0, .int .i64 0], .bool false]) (results_fn2 rfl _ _ rfl rfl k0 k1) rfl ?_
    rw [HRS.out, renamedOf_no (fun h => by have := HS.out.2 h; cases this)]
    exact ⟨.slice none 0 0, fun _ => (9, 0, 0), rfl, fnO_empty _ _ none 0, (B2.out.setCell (p := ⟨w.heap.size + 1, 0, none⟩) (by show w.heap.size ≤ w.heap.size + 1; omega) _).setCell (p := ⟨w.heap.size + 1, 1, none⟩) (by show w.heap.size ≤ w.heap.size + 1; omega) _⟩
  · have HOK : Hid (HomesOkP F l) := HS.out.1 rfl
    obtain ⟨n', V, hv⟩ := plainV_of HOK.out.1
    have en : n' = n := hv.len.symm.trans HN.out
    subst en
    have HPV : Hid (PlainV F n' V) := hv
    have hV8 := hv.v80
    have hn16 := hv.n16
    have elV : V = ln := by have h1 := HOK.out.2.1; have h2 := hv.vals; have h3 := HLN.out; omega
    subst elV
    have HRO : Hid (renamedOf F l = renF l F) := renamedOf_yes HOK.out
    have HL24 : Hid (∀ (k : Nat) (x : BlockD), F.blocks[k]? = some x → x.list.length ≤ 24) := plain24h HOK.out.1
    clear hv HS
    have hs20 : w.heap.size < w2.heap.size := by omega
    go_wp2_with fail
    obtain ⟨wO, hwO⟩ : ∃ W, w2.alloc (.cells #[.slice none 0 0, .int .i64 40] 26) = W := ⟨_, rfl⟩
    have RT0 : Hid (RenTo w2 wO w2.heap.size (fun _ => (9, 0, 0)) (.slice none 0 0) []) := by
      rw [← hwO]
      exact ⟨Bel.alloc _ _, by simp, World.alloc_heap_new w2 _, fnO_empty _ _ none 0, .inl ⟨rfl, rfl⟩⟩
    rw [hwO]
    clear hwO r0 r1 rz0 rz1
    go_loopw [18] (fun i wr => RenOutR w2 F l n' i wr) (fun i _ => n' - (intOf i).toNat)
    case atStart => exact ⟨0, _, _, Nat.zero_le _, rfl, by simpa using RT0.out⟩
    case round =>
      clear RT0
      obtain ⟨wq, hwq⟩ : ∃ x, x = wr := ⟨_, rfl⟩
      subst hwq
      obtain ⟨k, own, bv, hk, rfl, hrt⟩ := hrel
      have hltq := hrt.lt
      have BQ : Hid (Below w.heap.size w wq) := B2.out.trans (hrt.bel.mono (by omega))
      have q0 : wq.cell? ⟨w.heap.size, 0, none⟩ = some (.slice ba n' bcap) := (hrt.bel.cell (p := ⟨w.heap.size, 0, none⟩) (by show w.heap.size < w2.heap.size; omega)).trans c0
      have HQ0 : Hid (wq.cell? ⟨w.heap.size, 0, none⟩ = some (.slice ba n' bcap)) := q0
      obtain ⟨oa, ocap, hbv⟩ : ∃ oa ocap, bv = .slice oa k ocap := by
        obtain ⟨oa, ocap, e⟩ := hrt.fn.rows.is
        rw [List.length_map, List.length_take, show min k F.blocks.length = k by have := HN.out; omega] at e
        exact ⟨oa, ocap, e⟩
      subst hbv
      obtain ⟨⟨o0, o1⟩, oz⟩ := fnBox_cells hrt.box
      have hqz := BQ.out.size
      have hwq1 : w.heap.size < wq.heap.size := by omega
      have RT : Hid (RenTo w2 wq w2.heap.size own (.slice oa k ocap) ((F.blocks.take k).map (renB l))) := hrt
      clear hrt
      by_cases hlt : (k : Int) < (n' : Int)
      · have hkn : k < n' := by omega
        obtain ⟨x, HX⟩ : ∃ x, Hid (F.blocks[k]? = some x) := ⟨F.blocks[k]'(by have := HN.out; omega), List.getElem?_eq_getElem _⟩
        obtain ⟨b0, off0, hba, pv, lv0, t0, t1, t2, t3, t4, t5, hpv, hlv⟩ := FnAt.blockC (HF.out.later BQ.out) HN.out hkn HX.out
        subst hba
        have HPO : Hid (∀ y ∈ x.list, placeOkV (V : Int) y = true) := fun y hy => by
          obtain ⟨q, hq, e⟩ := List.getElem_of_mem hy
          have h9 := (HOK.out.1.1.2.2.2.2 k x HX.out).2.2.2.1 q y (by rw [← e]; exact List.getElem?_eq_getElem hq)
          rw [HPV.out.vals] at h9
          exact h9
        have HB24 : Hid (x.list.length ≤ 24) := HL24.out k x HX.out
        have HEN : Hid (∀ z ∈ endsV x.term.k x.term.a, 0 ≤ z ∧ z < (V : Int)) := HPV.out.ends k x HX.out
        obtain ⟨xp, xl, ⟨tk, ta, tt, te⟩⟩ := x
        dsimp only at t2 t3 t4 t5 hpv hlv HB24 HPO HEN
        obtain ⟨nl, HNL⟩ : ∃ q, Hid (xl.length = q) := ⟨_, rfl⟩
        have HLV : Hid (ListAt 0 5 InsAt wq lv0 xl) := hlv
        obtain ⟨la, lcap, rfl, hlm, _⟩ := hlv
        obtain ⟨np, HNP⟩ : ∃ q, Hid (xp.length = q) := ⟨_, rfl⟩
        obtain ⟨pa, pcap, rfl, _, _⟩ := hpv
        rw [HNL.out] at t1 HLV hlm HB24
        rw [HNP.out] at t0
        have hnl : nl ≤ 24 := HB24.out
        clear o1 oz
        go_wp2_with fail
        obtain ⟨wX, hwX⟩ : ∃ W, wq.alloc (.cells #[.slice pa np pcap, .slice la nl lcap, .int .i64 tk, .int .i64 ta, .int .i64 tt, .int .i64 te] 56) = W := ⟨_, rfl⟩
        have BX : Hid (Below wq.heap.size wq wX) := by rw [← hwX]; exact Bel.alloc _ _
        have XB : Hid (wX.heap[wq.heap.size]? = some (.cells #[.slice pa np pcap, .slice la nl lcap, .int .i64 tk, .int .i64 ta, .int .i64 tt, .int .i64 te] 56 (0, 0))) := by rw [← hwX]; exact World.alloc_heap_new wq _
        have hsX : wX.heap.size = wq.heap.size + 1 := by rw [← hwX]; simp
        rw [hwX]
        clear hwX t0 t1 t2 t3 t4 t5
        obtain ⟨⟨x0, x1, x2, x3, x4, x5⟩, _⟩ := blockBox_cells XB.out
        replace o0 := Bel.keeps BX.out o0
        have hSS : ∀ W, Below wX.heap.size wX W → W.cell? ⟨w2.heap.size, 0, none⟩ = some (.slice oa k ocap) ∧ W.cell? ⟨wq.heap.size, 0, none⟩ = some (.slice pa np pcap) ∧ W.cell? ⟨wq.heap.size, 1, none⟩ = some (.slice la nl lcap) ∧ W.cell? ⟨wq.heap.size, 2, none⟩ = some (.int .i64 tk) ∧ W.cell? ⟨wq.heap.size, 3, none⟩ = some (.int .i64 ta) ∧ W.cell? ⟨wq.heap.size, 4, none⟩ = some (.int .i64 tt) ∧ W.cell? ⟨wq.heap.size, 5, none⟩ = some (.int .i64 te) := fun W hb => ⟨Bel.keeps hb o0, Bel.keeps hb x0, Bel.keeps hb x1, Bel.keeps hb x2, Bel.keeps hb x3, Bel.keeps hb x4, Bel.keeps hb x5⟩
        refine wp_noThrow (region_M 8 (fun W => W.cell? ⟨w2.heap.size, 0, none⟩ = some (.slice oa k ocap) ∧ W.cell? ⟨wq.heap.size, 0, none⟩ = some (.slice pa np pcap) ∧ W.cell? ⟨wq.heap.size, 1, none⟩ = some (.slice la nl lcap) ∧ W.cell? ⟨wq.heap.size, 2, none⟩ = some (.int .i64 tk) ∧ W.cell? ⟨wq.heap.size, 3, none⟩ = some (.int .i64 ta) ∧ W.cell? ⟨wq.heap.size, 4, none⟩ = some (.int .i64 tt) ∧ W.cell? ⟨wq.heap.size, 5, none⟩ = some (.int .i64 te)) (by kernel_rfl) ?_)
        have hHeld := hSS _ ((Below.refl wX.heap.size wX).drew)
        refine wpAnyM_take (i := 0) (oi := { dst := some 22, op := Go.Op.fieldAddr 26 (Go.Operand.tmp 6) 0, type := 0, pos := "l13_home.go:48", after := #[], guard := none }) (v := ?_) rfl (by kernel_rfl) (by kernel_rfl) (by kernel_rfl) (by kernel_rfl) (fun _ _ _ h => h) (Or.inl ⟨by rfl, ?_⟩) (by assumption) ?_
        rotate_left
        · intro w hSw
          (try dsimp only at hSw)
          go_simp
          (try with_reducible rfl)
        try simp only [Act.put, List.setIfInBounds_toArray, List.set_cons_zero, List.set_cons_succ]
        refine wpAnyM_take (i := 1) (oi := { dst := some 23, op := Go.Op.load 24 (Go.Operand.tmp 22), type := 24, pos := "l13_home.go:48", after := #[{ on := 0, ground := Go.Ground.data }], guard := none }) (v := ?_) rfl (by kernel_rfl) (by kernel_rfl) (by kernel_rfl) (by kernel_rfl) (fun _ _ _ h => h) (Or.inl ⟨by rfl, ?_⟩) (by assumption) ?_
        rotate_left
        · intro w hSw
          (try dsimp only at hSw)
          go_simp
          (try with_reducible rfl)
        try simp only [Act.put, List.setIfInBounds_toArray, List.set_cons_zero, List.set_cons_succ]
        refine wpAnyM_take (i := 2) (oi := { dst := some 24, op := Go.Op.load 56 (Go.Operand.tmp 8), type := 56, pos := "l13_home.go:48", after := #[], guard := none }) (v := ?_) rfl (by kernel_rfl) (by kernel_rfl) (by kernel_rfl) (by kernel_rfl) (fun _ _ _ h => h) (Or.inl ⟨by rfl, ?_⟩) (by assumption) ?_
        rotate_left
        · intro w hSw
          (try dsimp only at hSw)
          go_simp
          (try with_reducible rfl)
        try simp only [Act.put, List.setIfInBounds_toArray, List.set_cons_zero, List.set_cons_succ]
        refine wpAnyM_take (i := 3) (oi := { dst := some 25, op := Go.Op.move (Go.Operand.tmp 1), type := 27, pos := "l13_home.go:48", after := #[], guard := none }) (v := ?_) rfl (by kernel_rfl) (by kernel_rfl) (by kernel_rfl) (by kernel_rfl) (fun _ _ _ h => h) (Or.inl ⟨by rfl, ?_⟩) (by assumption) ?_
        rotate_left
        · intro w hSw
          (try dsimp only at hSw)
          go_simp
          (try with_reducible rfl)
        try simp only [Act.put, List.setIfInBounds_toArray, List.set_cons_zero, List.set_cons_succ]
        refine cmAnyM_oneK (i := 4) (o := { dst := some 26, op := Go.Op.call { callee := Go.Callee.value (Go.Operand.func 65), args := #[Go.Operand.tmp 24, Go.Operand.tmp 25], argTypes := #[56, 27] }, type := 56, pos := "l13_home.go:48", after := #[{ on := 2, ground := Go.Ground.data }, { on := 3, ground := Go.Ground.data }], guard := none }) rfl rfl (by kernel_rfl) (fun K9 hK9 => ?_)
        refine wp_call_of (f := 65) (args := #[.agg #[.slice pa np pcap, .slice la nl lcap, .int .i64 tk, .int .i64 ta, .int .i64 tt, .int .i64 te], .slice a V cap]) (by go_simp) (renBlock_any V a cap l xl pa la np pcap nl lcap tk ta tt te _ (HL.out.keep (Bel.after BQ.out (Bel.after BX.out ((Below.refl _ _).drew)))) (HLV.out.keep (fun b o z hb h => h.keep (Keeps.of_below (Bel.after BX.out ((Below.refl _ _).drew)) 0) hb)) HNL.out hnl HPO.out HEN.out) ?_
        obtain ⟨t9, HT9⟩ : ∃ q, Hid (renT l ⟨tk, ta, tt, te⟩ = q) := ⟨_, rfl⟩
        obtain ⟨m, HM⟩ : ∃ m, Hid ((renL l xl).length = m) := ⟨_, rfl⟩
        rintro e w8 ⟨ra, rc, rfl, how, b8⟩
        rw [HT9.out, HM.out]
        rw [HM.out] at how
        obtain ⟨sk, sa, st, se⟩ := t9
        dsimp only
        have B8 : Below wX.heap.size wX w8 := Bel.after ((Below.refl _ wX).drew) b8
        refine ⟨_, rfl, hK9 _ _ ⟨fun _ => hSS _ B8, ?_⟩⟩
        try simp only [Act.put, List.setIfInBounds_toArray, List.set_cons_zero, List.set_cons_succ]
        clear hK9 hHeld
        have RT8 : RenTo w2 w8 w2.heap.size own (.slice oa k ocap) ((F.blocks.take k).map (renB l)) := RT.out.keep (Bel.after BX.out B8)
        have hdz : wX.drew.heap.size = wX.heap.size := rfl
        have HOW : OwnIns w8 (w2.heap.size + 1) (.slice ra m rc) (renL l xl) := how.low (by rw [hdz]; omega)
        have HNO : ∀ g, (Value.slice ra m rc).ownBlock = some g → 3 < (own g).1 := fun g hg => by
          have h1 := (how.lt hg).1
          rw [hdz] at h1
          rcases Nat.lt_or_ge 3 (own g).1 with h2 | h2
          · exact h2
          · have := RT.out.fn.high g h2
            omega
        have HNX : Hid ((F.blocks.take k).map (renB l) ++ [⟨[], renL l xl, ⟨sk, sa, st, se⟩⟩] = (F.blocks.take (k + 1)).map (renB l)) := by
          show _ = _
          rw [renB_next HX.out, HT9.out]
        have HKL : ((F.blocks.take k).map (renB l)).length = k := by
          rw [List.length_map, List.length_take]
          have := HN.out
          omega
        refine cmAnyM_oneK (i := 5) (o := { dst := some 27, op := Go.Op.buildSlice 24 1 #[(0, Go.Operand.tmp 26)], type := 24, pos := "l13_home.go:48", after := #[{ on := 4, ground := Go.Ground.data }], guard := none }) rfl rfl (by kernel_rfl) (fun K9 hK9 => ?_)
        refine wp_value (v := .slice (some ⟨w8.heap.size, 0, none⟩) 1 1) (w' := w8.alloc (.cells #[.slice none 0 0, .slice ra m rc, .int .i64 sk, .int .i64 sa, .int .i64 st, .int .i64 se] 56)) (by simp [execOp, Instr.buildSlice, go_sem]) (hK9 _ _ ⟨fun _ => hSS _ (Bel.after B8 (Bel.alloc _ _)), ?_⟩)
        try simp only [Act.put, List.setIfInBounds_toArray, List.set_cons_zero, List.set_cons_succ]
        clear hK9
        refine cmAnyM_oneK (i := 6) (o := { dst := some 28, op := Go.Op.call { callee := Go.Callee.builtin Go.Builtin.append, args := #[Go.Operand.tmp 23, Go.Operand.tmp 27], argTypes := #[24, 24] }, type := 24, pos := "l13_home.go:48", after := #[{ on := 1, ground := Go.Ground.data }, { on := 5, ground := Go.Ground.data }, { on := 4, ground := Go.Ground.chain }], guard := none }) rfl rfl (by kernel_rfl) (fun K9 hK9 => ?_)
        obtain ⟨a9, c9, wa9, hrun, k1, k2, k3, k4⟩ := run_addBlock ⟨sk, sa, st, se⟩ w8.heap.size rfl RT8 HOW HNO rfl HKL (by omega) 24
        have hS8 := hSS _ (Bel.after B8 (Bel.alloc w8 (.cells #[.slice none 0 0, .slice ra m rc, .int .i64 sk, .int .i64 sa, .int .i64 st, .int .i64 se] 56)))
        have hne : some wq.heap.size ≠ (Value.slice oa k ocap).ownBlock := fun e9 => by
          have h1 := RT.out.room.blk e9.symm
          have h2 := RT.out.fn.high _ (by rw [h1]; simp)
          omega
        have hS9 : wa9.cell? ⟨w2.heap.size, 0, none⟩ = some (.slice oa k ocap) ∧ wa9.cell? ⟨wq.heap.size, 0, none⟩ = some (.slice pa np pcap) ∧ wa9.cell? ⟨wq.heap.size, 1, none⟩ = some (.slice la nl lcap) ∧ wa9.cell? ⟨wq.heap.size, 2, none⟩ = some (.int .i64 tk) ∧ wa9.cell? ⟨wq.heap.size, 3, none⟩ = some (.int .i64 ta) ∧ wa9.cell? ⟨wq.heap.size, 4, none⟩ = some (.int .i64 tt) ∧ wa9.cell? ⟨wq.heap.size, 5, none⟩ = some (.int .i64 te) := ⟨k1, k4.cell hS8.2.1 hne, k4.cell hS8.2.2.1 hne, k4.cell hS8.2.2.2.1 hne, k4.cell hS8.2.2.2.2.1 hne, k4.cell hS8.2.2.2.2.2.1 hne, k4.cell hS8.2.2.2.2.2.2 hne⟩
        refine wp_value (run_addOpR rfl rfl rfl hrun) (hK9 _ _ ⟨fun _ => hS9, ?_⟩)
        try simp only [Act.put, List.setIfInBounds_toArray, List.set_cons_zero, List.set_cons_succ]
        clear hK9 hrun
        refine wpAnyM_take (i := 7) (oi := { dst := some 29, op := Go.Op.fieldAddr 26 (Go.Operand.tmp 6) 0, type := 0, pos := "l13_home.go:48", after := #[{ on := 0, ground := Go.Ground.phase }, { on := 1, ground := Go.Ground.phase }, { on := 2, ground := Go.Ground.phase }, { on := 3, ground := Go.Ground.phase }, { on := 4, ground := Go.Ground.phase }, { on := 5, ground := Go.Ground.phase }, { on := 6, ground := Go.Ground.phase }], guard := none }) (v := ?_) rfl (by kernel_rfl) (by kernel_rfl) (by kernel_rfl) (by kernel_rfl) (fun _ _ _ h => h) (Or.inl ⟨by rfl, ?_⟩) (by assumption) ?_
        rotate_left
        · intro w hSw
          (try dsimp only at hSw)
          go_simp
          (try with_reducible rfl)
        try simp only [Act.put, List.setIfInBounds_toArray, List.set_cons_zero, List.set_cons_succ]
        refine cmAnyM_oneK (i := 8) (o := { dst := none, op := Go.Op.store 24 (Go.Operand.tmp 29) (Go.Operand.tmp 28), type := 0, pos := "l13_home.go:48", after := #[{ on := 7, ground := Go.Ground.data }, { on := 6, ground := Go.Ground.data }, { on := 6, ground := Go.Ground.chain }, { on := 0, ground := Go.Ground.phase }, { on := 1, ground := Go.Ground.phase }, { on := 2, ground := Go.Ground.phase }, { on := 3, ground := Go.Ground.phase }, { on := 4, ground := Go.Ground.phase }, { on := 5, ground := Go.Ground.phase }, { on := 6, ground := Go.Ground.phase }], guard := none }) rfl rfl (by kernel_rfl) (fun K9 hK9 => ?_)
        refine wp_skipsR (w' := wa9.setCell ⟨w2.heap.size, 0, none⟩ (.slice a9 (k + 1) c9)) (by simp [execOp, go_sem, k1, k2]) (hK9 _ _ ⟨fun h => absurd rfl h, ?_⟩)
        clear hK9 k1 k2 hS9 hS8 hSS
        rw [HNX.out] at k3
        obtain ⟨own9, k3⟩ := k3
        have J3 : Hid (RenTo w2 (wa9.setCell ⟨w2.heap.size, 0, none⟩ (.slice a9 (k + 1) c9)) w2.heap.size own9 (.slice a9 (k + 1) c9) ((F.blocks.take (k + 1)).map (renB l))) := k3
        clear k3
        generalize wa9.setCell ⟨w2.heap.size, 0, none⟩ (.slice a9 (k + 1) c9) = wZ at J3 ⊢
        refine wpAnyM_done (by kernel_rfl) ?_ _
        simp only [noThrow, Exit.inBlock, Exit.then]
        go_at_K
        go_wp2_with fail
        go_roundw
        case rel =>
          first
            | exact (show RenOutR w2 F l n' _ _ from ⟨k + 1, own9, _, by omega, by simp, J3.out⟩)
            | ((repeat apply Exists.intro); exact ⟨(show RenOutR w2 F l n' _ _ from ⟨k + 1, own9, _, by omega, by simp, J3.out⟩), rfl⟩)
        case measure => simp [intOf]; omega
      · have ekn : n' = k := by omega
        subst ekn
        have ebs : (F.blocks.take n').map (renB l) = F.blocks.map (renB l) := by rw [List.take_of_length_le (by have := HN.out; omega)]
        rw [ebs] at RT
        have R1q : Hid (wq.heap[w.heap.size + 1]? = some (.cells #[.slice none 0 0, .int .i64 0] 26 (0, 0))) := (RT.out.bel.block _ (by omega)).trans HR2.out
        obtain ⟨⟨r0, r1⟩, rz⟩ := fnBox_cells R1q.out
        have rz0 := rz 0
        have rz1 := rz 1
        go_wp2_with fail
        have k0 : ((wq.setCell ⟨w.heap.size + 1, 0, none⟩ (.slice oa n' ocap)).setCell ⟨w.heap.size + 1, 1, none⟩ (.int .i64 40)).cell? ⟨w.heap.size + 1, 0, none⟩ = some (.slice oa n' ocap) := (World.cell?_setCell_other _ _ _ _ (by simp)).trans (World.cell?_setCell_same _ _ _ r0)
        have k1 : ((wq.setCell ⟨w.heap.size + 1, 0, none⟩ (.slice oa n' ocap)).setCell ⟨w.heap.size + 1, 1, none⟩ (.int .i64 40)).cell? ⟨w.heap.size + 1, 1, none⟩ = some (.int .i64 40) := World.cell?_setCell_same _ _ _ ((World.cell?_setCell_other _ _ _ _ (by simp)).trans r1)
        refine bodyPost_ret (v := .tuple #[.agg #[.slice oa n' ocap, .int .i64 40], .bool true]) (results_fn2 rfl _ _ rfl rfl k0 k1) rfl ?_
        rw [HRS.out, HRO.out]
        refine ⟨.slice oa n' ocap, own, rfl, ?_, (BQ.out.setCell (p := ⟨w.heap.size + 1, 0, none⟩) (by show w.heap.size ≤ w.heap.size + 1; omega) _).setCell (p := ⟨w.heap.size + 1, 1, none⟩) (by show w.heap.size ≤ w.heap.size + 1; omega) _⟩
        refine (FnO.same (w := wq) (RT.out.fn.low' (by omega)) (fun g hg => ?_) (by simp))
        have := RT.out.fn.low g hg
        exact (Below.heap_setCell _ _ _ g (by show g ≠ w.heap.size + 1; omega)).trans (Below.heap_setCell _ _ _ g (by show g ≠ w.heap.size + 1; omega))
end Go.Proofs.YtldcohhifmpedaaGreat

namespace Go.Proofs.YtldcohhifmpedaaGreat
open Go.ChangeShapes Go.WideShapes Go.ChangeAt Go.RowKit Go.Shelf
set_option linter.unusedVariables false

theorem renamedOf_small (F : FnD) (l : List Int) : FnSmall (renamedOf F l) := by
  by_cases h : HomesOkP F l
  · rw [renamedOf_yes h]
    have h16 := h.1.1.2.1
    refine ⟨by simp [renF]; omega, fun x hx => ?_⟩
    simp only [renF, List.mem_map] at hx
    obtain ⟨y, hy, rfl⟩ := hx
    obtain ⟨k, hk, e⟩ := List.getElem_of_mem hy
    have h24 := plain24h h.1 k y (by rw [← e]; exact List.getElem?_eq_getElem hk)
    have h9 := renL_len l y.list
    exact ⟨by simp [renB], by simp [renB]; omega, fun p hp => absurd hp (by simp [renB])⟩
  · rw [renamedOf_no h]
    exact ⟨by simp, fun x hx => absurd hx (by simp)⟩
end Go.Proofs.YtldcohhifmpedaaGreat
