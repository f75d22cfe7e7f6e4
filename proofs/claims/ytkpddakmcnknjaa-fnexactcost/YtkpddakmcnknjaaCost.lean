/- What a program costs: the program's Cost and the model's Cost tell what the document says, for every program. -/
import Derived.Test.YtkpddakmcnknjaaShape7
import Derived.Test.YtkpddakmcnknjaaShape8
import Derived.Test.YtkpddakmcnknjaaPreds
import Derived.Deep.RegionHeld3
namespace Go.Proofs.Ytkpddakmcnknjaa
open Go.ChangeShapes Go.WideShapes Go.ChangeAt Go.RowKit Go.Shelf
set_option linter.unusedVariables false

/-- A block of a program in memory. -/
theorem FnAt.block {w : World} {ba : Option Addr} {n bcap : Nat} {vals : Int} {F : FnD} (h : FnAt w (.agg #[.slice ba n bcap, .int .i64 vals]) F) {k : Nat} {x : BlockD} (hn : F.blocks.length = n) (hk : k < n) (hx : F.blocks[k]? = some x) : ∃ b off, ba = some ⟨b, off, none⟩ ∧ BlockAt 0 w b (off + k * 6) x := by
  obtain ⟨bv, he, a0, cap0, hbv, _, hc⟩ := h
  have e1 : (.slice ba n bcap : Value) = bv := by simp at he; exact he.1
  rw [hbv] at e1
  simp at e1
  obtain ⟨b, off, hb, _, hel⟩ := hc (by omega)
  exact ⟨b, off, e1.1.trans hb, hel k x hx⟩
/-- How many phis and places the first k blocks have. -/
def costN (l : List BlockD) : Nat := (l.map (fun b => b.phis.length + b.list.length)).sum
open Classical in
/-- What Cost answers. -/
noncomputable def costOf (F : FnD) : Int := if FnShape F then (costN F.blocks : Int) else -1
theorem costN_next {l : List BlockD} {k : Nat} {x : BlockD} (h : l[k]? = some x) : costN (l.take (k + 1)) = costN (l.take k) + (x.phis.length + x.list.length) := by
  have e : l.take (k + 1) = l.take k ++ [x] := by rw [List.take_add_one, h]; rfl
  rw [e]
  simp [costN]
theorem costN_small {F : FnD} (hS : FnShape F) : ∀ k, k ≤ F.blocks.length → costN (F.blocks.take k) ≤ k * 48
  | 0, _ => by simp [costN]
  | k + 1, hk => by
    obtain ⟨x, hx⟩ : ∃ x, F.blocks[k]? = some x := ⟨_, List.getElem?_eq_getElem (by omega)⟩
    have h1 := costN_small hS k (by omega)
    have h2 := hS.2.2.2.2 k x hx
    rw [costN_next hx]
    have := h2.1
    have := h2.2.1
    omega
/-- A number is given; the world only grows. -/
def GivesInt (w : World) (r : Int) (e : Ending) (w' : World) : Prop := e = .returned (.int .i64 r) ∧ Below w.heap.size w w'

set_option maxRecDepth 100000 in
set_option maxHeartbeats 4000000 in
theorem impl_cost (v : Value) (F : FnD) (w : World) (hF : FnAt w v F) :
    Calls Try.prog 29 #[v] w fun e w' => e = .returned (.int .i64 (costOf F)) ∧ Below w.heap.size w w' := by
  have HF : Hid (FnAt w v F) := hF
  obtain ⟨n, HN⟩ : ∃ n, Hid (F.blocks.length = n) := ⟨_, rfl⟩
  obtain ⟨vals, HV⟩ : ∃ x, Hid (F.values = x) := ⟨_, rfl⟩
  obtain ⟨ba, bcap, rfl⟩ := hF.out HN.out HV.out
  clear hF
  obtain ⟨r, HR⟩ : ∃ r, Hid (costOf F = r) := ⟨_, rfl⟩
  rw [HR.out]
  go_enter Try.func29, Try.ntmps29
  go_wp2_with fail
  refine (impl_shapeOk _ F _ (HF.out.later (Bel.alloc _ _))).mono ?_
  rintro e w1 ⟨t, rfl, ht, b1⟩
  have c0 := box_cell b1 0
  have c1 := box_cell b1 1
  simp at c0 c1
  have B1 : Hid (Below w.heap.size w w1) := Bel.after (Bel.alloc _ _) b1
  have HT : Hid (t = true ↔ FnShape F) := ht
  clear b1 ht
  generalize w.heap.size = FB at c0 c1 ⊢
  cases t with
  | false =>
    have hno : ¬ FnShape F := fun h => by have := HT.out.2 h; cases this
    have HO : Hid (r = -1) := by show r = -1; rw [← HR.out]; exact if_neg hno
    clear hno
    go_wp2_with fail
    go_ret
    rw [HO.out]
    exact ⟨rfl, B1.out⟩
  | true =>
    have HS : Hid (FnShape F) := HT.out.1 rfl
    have HO : Hid (r = (costN F.blocks : Int)) := by show r = _; rw [← HR.out]; exact if_pos HS.out
    have hn16 : n ≤ 16 := by have := HS.out.2.1; have := HN.out; omega
    have F1 : Hid (FnAt w1 (.agg #[.slice ba n bcap, .int .i64 vals]) F) := HF.out.later B1.out
    go_wp2_with fail
    go_loopw [3, 12] (fun c i wr => ∃ (k m : Nat), k ≤ n ∧ i = .int .i64 (k : Int) ∧ c = .int .i64 (m : Int) ∧ m = costN (F.blocks.take k) ∧ Below w1.heap.size w1 wr) (fun _ i _ => n - (intOf i).toNat)
    case atStart => exact ⟨0, 0, Nat.zero_le _, rfl, rfl, by simp [costN], Below.refl _ _⟩
    case round =>
      obtain ⟨k, m, hk, rfl, rfl, hm, hb⟩ := hrel
      have HM : Hid (m = costN (F.blocks.take k)) := hm
      have HB : Hid (Below w1.heap.size w1 wr) := hb
      clear hm hb
      by_cases hlt : (k : Int) < (n : Int)
      · have hkn : k < n := by omega
        obtain ⟨x, hx⟩ : ∃ x, F.blocks[k]? = some x := ⟨_, List.getElem?_eq_getElem (by have := HN.out; omega)⟩
        obtain ⟨b, off, rfl, hat⟩ := F1.out.block HN.out hkn hx
        obtain ⟨pv, lv, b0, b1, b2, b3, b4, b5, hps, hls⟩ := hat
        obtain ⟨pa, pcap, rfl, hpm, _⟩ := hps
        obtain ⟨la, lcap, rfl, hlm, _⟩ := hls
        have d0 := Bel.keeps HB.out b0
        have d1 := Bel.keeps HB.out b1
        have d2 := Bel.keeps HB.out b2
        have d3 := Bel.keeps HB.out b3
        have d4 := Bel.keeps HB.out b4
        have d5 := Bel.keeps HB.out b5
        have hbw : b < wr.heap.size := World.block_lt_of_cell? wr _ d0
        obtain ⟨np, HNP⟩ : ∃ n, Hid (x.phis.length = n) := ⟨_, rfl⟩
        obtain ⟨nl, HNL⟩ : ∃ n, Hid (x.list.length = n) := ⟨_, rfl⟩
        rw [HNP.out] at d0 hpm
        rw [HNL.out] at d1 hlm
        have hbo := HS.out.2.2.2.2 k x hx
        have hnp : np ≤ 24 := by have := hbo.1; have := HNP.out; omega
        have hnl : nl ≤ 24 := by have := hbo.2.1; have := HNL.out; omega
        have hm8 : m ≤ 1000 := by have := costN_small HS.out k (by have := HN.out; omega); have := HM.out; omega
        have HX : Hid (F.blocks[k]? = some x) := hx
        clear b0 b1 b2 b3 b4 b5 hbo hx
        go_wp2_with fail
        go_roundw
        case rel =>
          refine ⟨k + 1, m + (np + nl), by omega, by go_num, by go_num, ?_, HB.out.alloc HB.out.size _⟩
          rw [costN_next HX.out, ← HM.out, HNP.out, HNL.out]
        case measure => simp [intOf]; omega
      · have hkn : k = n := by omega
        go_wp2_with fail
        go_ret
        have e : F.blocks.take k = F.blocks := List.take_of_length_le (by have := HN.out; omega)
        have h9 := HM.out
        rw [e] at h9
        rw [HO.out, ← h9]
        exact ⟨rfl, Bel.after B1.out HB.out⟩

set_option maxRecDepth 100000 in
set_option maxHeartbeats 4000000 in
theorem spec_cost (v : Value) (F : FnD) (w : World) (hF : FnAt w v F) :
    Calls Try.prog 28 #[v] w fun e w' => e = .returned (.int .i64 (costOf F)) ∧ Below w.heap.size w w' := by
  have HF : Hid (FnAt w v F) := hF
  obtain ⟨n, HN⟩ : ∃ n, Hid (F.blocks.length = n) := ⟨_, rfl⟩
  obtain ⟨vals, HV⟩ : ∃ x, Hid (F.values = x) := ⟨_, rfl⟩
  obtain ⟨ba, bcap, rfl⟩ := hF.out HN.out HV.out
  clear hF
  obtain ⟨r, HR⟩ : ∃ r, Hid (costOf F = r) := ⟨_, rfl⟩
  rw [HR.out]
  go_enter Try.func28, Try.ntmps28
  go_wp2_with fail
  refine (spec_shapeOk _ F _ (HF.out.later (Bel.alloc _ _))).mono ?_
  rintro e w1 ⟨t, rfl, ht, b1⟩
  have c0 := box_cell b1 0
  have c1 := box_cell b1 1
  simp at c0 c1
  have B1 : Hid (Below w.heap.size w w1) := Bel.after (Bel.alloc _ _) b1
  have HT : Hid (t = true ↔ FnShape F) := ht
  clear b1 ht
  generalize w.heap.size = FB at c0 c1 ⊢
  cases t with
  | false =>
    have hno : ¬ FnShape F := fun h => by have := HT.out.2 h; cases this
    have HO : Hid (r = -1) := by show r = -1; rw [← HR.out]; exact if_neg hno
    clear hno
    go_wp2_with fail
    go_ret
    rw [HO.out]
    exact ⟨rfl, B1.out⟩
  | true =>
    have HS : Hid (FnShape F) := HT.out.1 rfl
    have HO : Hid (r = (costN F.blocks : Int)) := by show r = _; rw [← HR.out]; exact if_pos HS.out
    have hn16 : n ≤ 16 := by have := HS.out.2.1; have := HN.out; omega
    have F1 : Hid (FnAt w1 (.agg #[.slice ba n bcap, .int .i64 vals]) F) := HF.out.later B1.out
    have C0 : Hid (w1.cell? ⟨FB, 0, none⟩ = some (.slice ba n bcap)) := c0
    go_wp2_with fail
    go_loopw [3, 4] (fun c i wr => ∃ (k m : Nat), k ≤ n ∧ i = .int .i64 (k : Int) ∧ c = .int .i64 (m : Int) ∧ m = costN (F.blocks.take k) ∧ Below w1.heap.size w1 wr) (fun _ i _ => n - (intOf i).toNat)
    case atStart => exact ⟨0, 0, Nat.zero_le _, rfl, rfl, by simp [costN], Below.refl _ _⟩
    case round =>
      obtain ⟨k, m, hk, rfl, rfl, hm, hb⟩ := hrel
      have HM : Hid (m = costN (F.blocks.take k)) := hm
      have HB : Hid (Below w1.heap.size w1 wr) := hb
      have f0 := Bel.keeps hb C0.out
      clear hm hb c0 c1
      by_cases hlt : (k : Int) < (n : Int)
      · have hkn : k < n := by omega
        obtain ⟨x, hx⟩ : ∃ x, F.blocks[k]? = some x := ⟨_, List.getElem?_eq_getElem (by have := HN.out; omega)⟩
        obtain ⟨b, off, rfl, hat⟩ := F1.out.block HN.out hkn hx
        obtain ⟨pv, lv, b0, b1, b2, b3, b4, b5, hps, hls⟩ := hat
        obtain ⟨pa, pcap, rfl, hpm, _⟩ := hps
        obtain ⟨la, lcap, rfl, hlm, _⟩ := hls
        have d0 := Bel.keeps HB.out b0
        have d1 := Bel.keeps HB.out b1
        obtain ⟨np, HNP⟩ : ∃ n, Hid (x.phis.length = n) := ⟨_, rfl⟩
        obtain ⟨nl, HNL⟩ : ∃ n, Hid (x.list.length = n) := ⟨_, rfl⟩
        rw [HNP.out] at d0 hpm
        rw [HNL.out] at d1 hlm
        have hbo := HS.out.2.2.2.2 k x hx
        have hnp : np ≤ 24 := by have := hbo.1; have := HNP.out; omega
        have hnl : nl ≤ 24 := by have := hbo.2.1; have := HNL.out; omega
        have hm8 : m ≤ 1000 := by have := costN_small HS.out k (by have := HN.out; omega); have := HM.out; omega
        have HX : Hid (F.blocks[k]? = some x) := hx
        clear b0 b1 b2 b3 b4 b5 hbo hx
        have ew1 : IntKind.i64.wrap ((m : Int) + (np : Int)) = (m : Int) + (np : Int) := by rw [IntKind.wrap_i64]; omega
        have ew2 : IntKind.i64.wrap ((m : Int) + (np : Int) + (nl : Int)) = (m : Int) + (np : Int) + (nl : Int) := by rw [IntKind.wrap_i64]; omega
        go_wp2_with fail
        go_region_held3 (fun w' => w'.cell? ⟨FB, 0, none⟩ = some (.slice (some ⟨b, off, none⟩) n bcap) ∧ w'.cell? ⟨b, off + k * 6, none⟩ = some (.slice pa np pcap) ∧ w'.cell? ⟨b, off + k * 6 + 1, none⟩ = some (.slice la nl lcap)) (go_keep) (fail)
        simp only [Exit.inBlock, Exit.then]
        go_at_K
        go_wp2_with fail
        go_roundw
        case rel =>
          refine ⟨k + 1, m + np + nl, by omega, by go_num, by go_num, ?_, HB.out.drew⟩
          rw [costN_next HX.out, ← HM.out, HNP.out, HNL.out]
          omega
        case measure => simp [intOf]; omega
      · have hkn : k = n := by omega
        go_wp2_with fail
        go_ret
        have e : F.blocks.take k = F.blocks := List.take_of_length_le (by have := HN.out; omega)
        have h9 := HM.out
        rw [e] at h9
        rw [HO.out, ← h9]
        exact ⟨rfl, Bel.after B1.out HB.out⟩
end Go.Proofs.Ytkpddakmcnknjaa
