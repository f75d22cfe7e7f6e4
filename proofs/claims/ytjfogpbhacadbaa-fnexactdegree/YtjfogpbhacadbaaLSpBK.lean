/- What is needed ahead of a place, by what is needed behind it: the model's l11Back. -/
import Derived.Test.YtjfogpbhacadbaaLSpAK
import Derived.Test.YtjfogpbhacadbaaKIns
import Derived.Deep.RegionHeld
namespace Go.Proofs.Ytjfogpbhacadbaa
open Go.ChangeShapes Go.WideShapes Go.ChangeAt Go.RowKit
set_option linter.unusedVariables false

def GivesBits (w : World) (V : Nat) (m : List Int) (e : Ending) (w' : World) : Prop := ∃ g cap, e = .returned (.slice (some ⟨g, 0, none⟩) V cap) ∧ OwnBools w' w.heap.size (.slice (some ⟨g, 0, none⟩) V cap) (bitsOf V m) ∧ Below w.heap.size w w'
theorem OwnBools.keepB {w w' : World} {lo : Nat} {v : Value} {l : List Bool} (h : OwnBools w lo v l) (hb : Below w.heap.size w w') : OwnBools w' lo v l := h.keep hb

/-- A loop that puts the flags of a row of numbers. -/
def UpBits (w0 : World) (lo V g cap : Nat) (l us : List Int) (k : Nat) (wr : World) : Prop := OwnBools wr lo (.slice (some ⟨g, 0, none⟩) V cap) (bitsOf V (l ++ us.take k)) ∧ Below lo w0 wr ∧ w0.heap.size ≤ wr.heap.size ∧ ∀ j, j < w0.heap.size → j ≠ g → wr.heap[j]? = w0.heap[j]?
theorem UpBits.put {w0 : World} {lo V g cap : Nat} {l us : List Int} {k : Nat} {wr : World} (h : UpBits w0 lo V g cap l us k wr) (hlo : lo ≤ g) {z : Nat} (hz : z < V) (hk : k < us.length) (hu : us.getD k 0 = (z : Int)) : UpBits w0 lo V g cap l us (k + 1) (wr.setCell ⟨g, z, none⟩ (.bool true)) := by
  obtain ⟨h1, h2, h3, h4⟩ := h
  have hs : (wr.setCell ⟨g, z, none⟩ (.bool true)).heap.size = wr.heap.size := by show (wr.heap.modify _ _).size = _; simp
  refine ⟨?_, h2.setCell (p := ⟨g, z, none⟩) hlo _, by rw [hs]; exact h3, fun j hj hne => (Below.heap_setCell _ _ _ j (by intro e; exact hne e)).trans (h4 j hj hne)⟩
  have := h1.setAt hz true
  rw [bits_set (m := l ++ us.take (k + 1)) hz (fun j hj => ?_)] at this
  · exact this
  · have ht : us.take (k + 1) = us.take k ++ [(z : Int)] := by
      rw [List.take_add_one, List.getElem?_eq_getElem hk]
      have : us[k] = (z : Int) := by rw [← hu, List.getD_eq_getElem?_getD, List.getElem?_eq_getElem hk]; rfl
      rw [this]; rfl
    rw [ht]
    by_cases e : j = z
    · subst e; simp
    · have e2 : ¬ (j : Int) = (z : Int) := fun h => e (by omega)
      simp [e, e2]

theorem bits_drop {V z : Nat} (hz : z < V) (l : List Int) : (bitsOf V l).set z false = bitsOf V (l.filter (fun x => decide (x ≠ (z : Int)))) := by
  refine bits_set hz (fun j hj => ?_)
  by_cases e : j = z
  · subst e; simp
  · have e2 : ¬ (j : Int) = (z : Int) := fun h => e (by omega)
    simp [e, e2]

set_option maxRecDepth 100000 in
set_option maxHeartbeats 4000000 in
theorem l11Back_any (op d a b nn : Int) (la : Option Addr) (V lcap : Nat) (l : List Int) (w : World) (hl : BoolsAt w (.slice la V lcap) (bitsOf V l)) (hV : V ≤ 80) (hd : insDefV op d = -1 ∨ (0 ≤ insDefV op d ∧ insDefV op d < V)) (hu : ∀ x ∈ usesV op a b, 0 ≤ x ∧ x < V) :
    Calls Try.prog 37 #[.agg #[.int .i64 op, .int .i64 d, .int .i64 a, .int .i64 b, .int .i64 nn], .slice la V lcap] w fun e w' => GivesBits w V (backS ⟨op, d, a, b, nn⟩ l) e w' := by
  have HL : Hid (BoolsAt w (.slice la V lcap) (bitsOf V l)) := hl
  have HU : Hid (∀ x ∈ usesV op a b, 0 ≤ x ∧ x < V) := hu
  obtain ⟨dv, HDV⟩ : ∃ z, Hid (insDefV op d = z) := ⟨_, rfl⟩
  rw [HDV.out] at hd
  clear hl hu
  obtain ⟨wA, hwA⟩ : ∃ wA, w.alloc (.cells #[.int .i64 op, .int .i64 d, .int .i64 a, .int .i64 b, .int .i64 nn] 60) = wA := ⟨_, rfl⟩
  have BA : Hid (Below w.heap.size w wA) := by rw [← hwA]; exact Bel.alloc _ _
  have hsA : wA.heap.size = w.heap.size + 1 := by rw [← hwA]; simp
  have IA : Hid (InsBox wA w.heap.size op d a b nn) := by rw [← hwA]; exact insBox_new _ _ _ _ _ _ _
  obtain ⟨wB, hwB⟩ : ∃ wB, wA.alloc (.cells #[] 4) = wB := ⟨_, rfl⟩
  have BB : Hid (Below wA.heap.size wA wB) := by rw [← hwB]; exact Bel.alloc _ _
  have OB : OwnBools wB (w.heap.size + 1) (.slice (some ⟨wA.heap.size, 0, none⟩) 0 0) [] := by rw [← hwB]; exact OwnBools.low (ownBools_new wA) (by omega)
  have hsB : wB.heap.size = w.heap.size + 2 := by rw [← hwB]; simp; omega
  have L3 : BoolsAt wB (.slice la V lcap) (bitsOf V l) := (HL.out.keep BA.out).keep BB.out
  obtain ⟨v', wC, hrun, ⟨g, cap, hv'⟩, hO, BC⟩ := add_bools wA.heap.size (w.heap.size + 1) (.slice la V lcap) (bitsOf V l) wB L3 (by rw [bits_len]; omega) OB (by omega) 35
  rw [bits_len] at hv'
  subst hv'
  have OC : Hid (OwnBools wC (w.heap.size + 1) (.slice (some ⟨g, 0, none⟩) V cap) (bitsOf V l)) := hO
  have BWC : Hid (Below w.heap.size w wC) := Bel.after BA.out (Bel.after BB.out BC)
  have IC : Hid (InsBox wC w.heap.size op d a b nn) := (IA.out.keep BB.out).keep BC
  have hsC : w.heap.size + 2 ≤ wC.heap.size := by have := BC.size; omega
  rw [hsA] at hrun
  obtain ⟨i0, i1, i2, i3, i4⟩ := IC.out
  obtain ⟨_, hlog, ⟨cur, hcur⟩, _, _, _⟩ := hO.cells
  have hgC : g < wC.heap.size := (Array.getElem?_eq_some_iff.1 hcur).1
  clear OB L3 BC hO hcur
  go_enter Try.func37, Try.ntmps37
  rcases hd with hd | ⟨hd0, hd1⟩
  · have EQ0 : ∀ j : Nat, j < V → ((j : Int) ∈ l ++ usesV op a b ↔ (j : Int) ∈ backS ⟨op, d, a, b, nn⟩ l) := fun j hj => by
      rw [backS, norm_mem, List.mem_append, List.mem_append, List.mem_filter]
      dsimp only
      rw [HDV.out, hd]
      constructor
      · rintro (h | h)
        · exact ⟨.inl ⟨h, by simp⟩, by omega, by omega⟩
        · exact ⟨.inr h, by omega, by omega⟩
      · rintro ⟨h | h, _⟩
        · exact .inl h.1
        · exact .inr h
    have hgE0 : w.heap.size + 1 ≤ g ∧ g < wC.heap.size := ⟨hlog, hgC⟩
    have hdn : dv < 0 := by omega
    have EQ : Hid (∀ j : Nat, j < V → ((j : Int) ∈ l ++ usesV op a b ↔ (j : Int) ∈ backS ⟨op, d, a, b, nn⟩ l)) := EQ0
    obtain ⟨us, HUS⟩ : ∃ z, Hid (usesV op a b = z) := ⟨_, rfl⟩
    obtain ⟨un, HUN⟩ : ∃ z, Hid (us.length = z) := ⟨_, rfl⟩
    go_wp2_with (first | (at_builtin; refine Lib.wpList_append_run _ rfl _ _ _ _ rfl _ _ rfl rfl _ _ hrun ?_) | (go_at_call 23; refine (spec_insDef op d a b nn wC).mono ?_; rintro e wD ⟨rfl, bD⟩; rw [HDV.out]; have OE : Hid (OwnBools wD (w.heap.size + 1) (.slice (some ⟨g, 0, none⟩) V cap) (bitsOf V l)) := OC.out.keep bD; have BE : Hid (Below w.heap.size w wD) := Bel.after BWC.out bD; have j0 := Bel.keeps bD i0; have j1 := Bel.keeps bD i1; have j2 := Bel.keeps bD i2; have j3 := Bel.keeps bD i3; have j4 := Bel.keeps bD i4; have hsD := bD.size; clear bD hd) | (go_at_call 62; refine (spec_insUses op d a b nn wD).mono ?_; rintro e wF ⟨uv, kb, rfl, hkb, hR, bF⟩; rw [HUS.out] at hR; have RF : Hid (RowNew wF kb uv us) := hR; have OF : Hid (OwnBools wF (w.heap.size + 1) (.slice (some ⟨g, 0, none⟩) V cap) (bitsOf V (l))) := OE.out.keep bF; have BF : Hid (Below w.heap.size w wF) := Bel.after BE.out bF; obtain ⟨rfl, hmx, hkl, _, _⟩ := hR; rw [HUN.out] at hmx ⊢; clear bF))
    go_loopw [8] (fun i wr => ∃ k : Nat, k ≤ un ∧ i = .int .i64 k ∧ UpBits wF (w.heap.size + 1) V g cap (l) us k wr) (fun i _ => un - (intOf i).toNat)
    case atStart => exact ⟨0, Nat.zero_le _, rfl, by rw [List.take_zero, List.append_nil]; exact OF.out, Below.refl _ _, Nat.le_refl _, fun _ _ _ => rfl⟩
    case round =>
      obtain ⟨wq, hwq⟩ : ∃ x, x = wr := ⟨_, rfl⟩
      subst hwq
      obtain ⟨k, hk, rfl, hup⟩ := hrel
      have UP : Hid (UpBits wF (w.heap.size + 1) V g cap (l) us k wq) := hup
      have hgE := hgE0
      by_cases hlt : (k : Int) < (un : Int)
      · have hku : k < us.length := by have := HUN.out; omega
        obtain ⟨z, HZ, hz⟩ : ∃ z : Nat, Hid (us.getD k 0 = (z : Int)) ∧ z < V := by
          have h9 := HU.out (us.getD k 0) (by rw [HUS.out, List.getD_eq_getElem?_getD, List.getElem?_eq_getElem hku]; exact List.getElem_mem hku)
          have h8 : us.getD k 0 = ((us.getD k 0).toNat : Int) := by omega
          exact ⟨(us.getD k 0).toNat, h8, by omega⟩
        have c0 : wq.cell? ⟨kb, k, none⟩ = some (.int .i64 z) := by
          rw [World.cell?_of_block (w := wF) (a := ⟨kb, k, none⟩) (hup.2.2.2 kb (by omega) (by omega)), RF.out.2.2.2.1 k hku, HZ.out]
        obtain ⟨_, _, _, _, hcell, hfz⟩ := hup.1.cells
        have c1 := hcell z hz
        have c2 := hfz z
        have hzI : (z : Int) < (V : Int) := by omega
        have HKU : Hid (k < us.length) := hku
        clear hup hcell hfz hku
        go_wp2_with fail
        go_roundw
        case rel => exact ⟨k + 1, by omega, by simp, UP.out.put (by omega) hz HKU.out HZ.out⟩
        case measure => simp [intOf]; omega
      · obtain rfl : k = un := by omega
        clear hup
        go_wp2_with fail
        go_ret
        have h1 := UP.out.1
        rw [List.take_of_length_le (by have := HUN.out; omega), ← HUS.out, bits_congr EQ.out] at h1
        exact ⟨g, cap, rfl, h1.low (by omega), BF.out.trans (UP.out.2.1.mono (by omega))⟩
  · obtain ⟨z, rfl⟩ : ∃ z : Nat, dv = (z : Int) := ⟨dv.toNat, by omega⟩
    have hz : z < V := by omega
    have EQ0 : ∀ j : Nat, j < V → ((j : Int) ∈ l.filter (fun x => decide (x ≠ (z : Int))) ++ usesV op a b ↔ (j : Int) ∈ backS ⟨op, d, a, b, nn⟩ l) := fun j hj => by
      rw [backS, norm_mem]
      dsimp only
      rw [HDV.out]
      exact ⟨fun h => ⟨h, by omega, by omega⟩, fun h => h.1⟩
    have hgE0 : w.heap.size + 1 ≤ g ∧ g < wC.heap.size := ⟨hlog, hgC⟩
    have EQ : Hid (∀ j : Nat, j < V → ((j : Int) ∈ l.filter (fun x => decide (x ≠ (z : Int))) ++ usesV op a b ↔ (j : Int) ∈ backS ⟨op, d, a, b, nn⟩ l)) := EQ0
    obtain ⟨us, HUS⟩ : ∃ z, Hid (usesV op a b = z) := ⟨_, rfl⟩
    obtain ⟨un, HUN⟩ : ∃ z, Hid (us.length = z) := ⟨_, rfl⟩
    go_wp2_with (first | (at_builtin; refine Lib.wpList_append_run _ rfl _ _ _ _ rfl _ _ rfl rfl _ _ hrun ?_) | (go_at_call 23; refine (spec_insDef op d a b nn wC).mono ?_; rintro e wD ⟨rfl, bD⟩; rw [HDV.out]; have OD : OwnBools wD (w.heap.size + 1) (.slice (some ⟨g, 0, none⟩) V cap) (bitsOf V l) := OC.out.keep bD; have hsD := bD.size; have OE : Hid (OwnBools (wD.setCell ⟨g, z, none⟩ (.bool false)) (w.heap.size + 1) (.slice (some ⟨g, 0, none⟩) V cap) (bitsOf V (l.filter (fun x => decide (x ≠ (z : Int)))))) := (by have h9 := OD.setAt hz false; rw [bits_drop hz] at h9; exact h9); have BE : Hid (Below w.heap.size w (wD.setCell ⟨g, z, none⟩ (.bool false))) := (Bel.after BWC.out bD).setCell (p := ⟨g, z, none⟩) (by show w.heap.size ≤ g; omega) _; have j0 := (World.cell?_setCell_far wD ⟨g, z, none⟩ ⟨w.heap.size, 0, none⟩ (.bool false) (by show g ≠ w.heap.size; omega)).trans (Bel.keeps bD i0); have j1 := (World.cell?_setCell_far wD ⟨g, z, none⟩ ⟨w.heap.size, 1, none⟩ (.bool false) (by show g ≠ w.heap.size; omega)).trans (Bel.keeps bD i1); have j2 := (World.cell?_setCell_far wD ⟨g, z, none⟩ ⟨w.heap.size, 2, none⟩ (.bool false) (by show g ≠ w.heap.size; omega)).trans (Bel.keeps bD i2); have j3 := (World.cell?_setCell_far wD ⟨g, z, none⟩ ⟨w.heap.size, 3, none⟩ (.bool false) (by show g ≠ w.heap.size; omega)).trans (Bel.keeps bD i3); have j4 := (World.cell?_setCell_far wD ⟨g, z, none⟩ ⟨w.heap.size, 4, none⟩ (.bool false) (by show g ≠ w.heap.size; omega)).trans (Bel.keeps bD i4); obtain ⟨_, _, _, _, hcell, hfz⟩ := OD.cells; have c1 := hcell z hz; have c2 := hfz z; have hszE : (wD.setCell ⟨g, z, none⟩ (.bool false)).heap.size = wD.heap.size := (by show (wD.heap.modify _ _).size = _; simp); clear bD OD hcell hfz) | (go_at_call 62; refine (spec_insUses op d a b nn (wD.setCell ⟨g, z, none⟩ (.bool false))).mono ?_; rintro e wF ⟨uv, kb, rfl, hkb, hR, bF⟩; rw [HUS.out] at hR; have RF : Hid (RowNew wF kb uv us) := hR; have OF : Hid (OwnBools wF (w.heap.size + 1) (.slice (some ⟨g, 0, none⟩) V cap) (bitsOf V (l.filter (fun x => decide (x ≠ (z : Int)))))) := OE.out.keep bF; have BF : Hid (Below w.heap.size w wF) := Bel.after BE.out bF; obtain ⟨rfl, hmx, hkl, _, _⟩ := hR; rw [HUN.out] at hmx ⊢; clear bF))
    go_loopw [8] (fun i wr => ∃ k : Nat, k ≤ un ∧ i = .int .i64 k ∧ UpBits wF (w.heap.size + 1) V g cap (l.filter (fun x => decide (x ≠ (z : Int)))) us k wr) (fun i _ => un - (intOf i).toNat)
    case atStart => exact ⟨0, Nat.zero_le _, rfl, by rw [List.take_zero, List.append_nil]; exact OF.out, Below.refl _ _, Nat.le_refl _, fun _ _ _ => rfl⟩
    case round =>
      obtain ⟨wq, hwq⟩ : ∃ x, x = wr := ⟨_, rfl⟩
      subst hwq
      obtain ⟨k, hk, rfl, hup⟩ := hrel
      have UP : Hid (UpBits wF (w.heap.size + 1) V g cap (l.filter (fun x => decide (x ≠ (z : Int)))) us k wq) := hup
      have hgE := hgE0
      by_cases hlt : (k : Int) < (un : Int)
      · have hku : k < us.length := by have := HUN.out; omega
        obtain ⟨z, HZ, hz⟩ : ∃ z : Nat, Hid (us.getD k 0 = (z : Int)) ∧ z < V := by
          have h9 := HU.out (us.getD k 0) (by rw [HUS.out, List.getD_eq_getElem?_getD, List.getElem?_eq_getElem hku]; exact List.getElem_mem hku)
          have h8 : us.getD k 0 = ((us.getD k 0).toNat : Int) := by omega
          exact ⟨(us.getD k 0).toNat, h8, by omega⟩
        have c0 : wq.cell? ⟨kb, k, none⟩ = some (.int .i64 z) := by
          rw [World.cell?_of_block (w := wF) (a := ⟨kb, k, none⟩) (hup.2.2.2 kb (by omega) (by omega)), RF.out.2.2.2.1 k hku, HZ.out]
        obtain ⟨_, _, _, _, hcell, hfz⟩ := hup.1.cells
        have c1 := hcell z hz
        have c2 := hfz z
        have hzI : (z : Int) < (V : Int) := by omega
        have HKU : Hid (k < us.length) := hku
        clear hup hcell hfz hku
        go_wp2_with fail
        go_roundw
        case rel => exact ⟨k + 1, by omega, by simp, UP.out.put (by omega) hz HKU.out HZ.out⟩
        case measure => simp [intOf]; omega
      · obtain rfl : k = un := by omega
        clear hup
        go_wp2_with fail
        go_ret
        have h1 := UP.out.1
        rw [List.take_of_length_le (by have := HUN.out; omega), ← HUS.out, bits_congr EQ.out] at h1
        exact ⟨g, cap, rfl, h1.low (by omega), BF.out.trans (UP.out.2.1.mono (by omega))⟩
end Go.Proofs.Ytjfogpbhacadbaa
