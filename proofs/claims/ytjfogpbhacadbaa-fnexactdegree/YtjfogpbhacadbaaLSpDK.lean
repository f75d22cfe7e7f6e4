/- What is needed ahead of a place of a block: the model's l11End and l11Before. -/
import Derived.Test.YtjfogpbhacadbaaLSpCK
namespace Go.Proofs.Ytjfogpbhacadbaa
open Go.ChangeShapes Go.WideShapes Go.ChangeAt Go.RowKit
set_option linter.unusedVariables false

set_option maxRecDepth 100000 in
set_option maxHeartbeats 4000000 in
theorem l11End_any (v : Value) (F : FnD) (b n V : Nat) (mg mc : Nat) (ls : Nat → List Int) (w : World) (hF : FnAt w v F) (hn : F.blocks.length = n) (hV : F.values = (V : Int)) (hV8 : V ≤ 80) (hb : b < n) (hsu : ∀ s ∈ succsN F b, 0 ≤ s ∧ s < n) (hM : MatAt w mg n V ls) (x : BlockD) (hx : F.blocks[b]? = some x) (hu : ∀ z ∈ endsV x.term.k x.term.a, 0 ≤ z ∧ z < V) :
    Calls Try.prog 36 #[v, .int .i64 b, .slice (some ⟨mg, 0, none⟩) n mc] w fun e w' => GivesBits w V (endS x.term (outF F ls b)) e w' := by
  have HF : Hid (FnAt w v F) := hF
  have HN : Hid (F.blocks.length = n) := hn
  have HV : Hid (F.values = (V : Int)) := hV
  obtain ⟨ba, bcap, rfl⟩ := hF.out hn hV
  have HSU : Hid (∀ s ∈ succsN F b, 0 ≤ s ∧ s < n) := hsu
  have HM : Hid (MatAt w mg n V ls) := hM
  have HU : Hid (∀ z ∈ endsV x.term.k x.term.a, 0 ≤ z ∧ z < V) := hu
  have HX : Hid (F.blocks[b]? = some x) := hx
  have hbI : (b : Int) < (n : Int) := by omega
  obtain ⟨bb, off, hba, pv, lv, t0, t1, t2, t3, t4, t5, hpv, hlv⟩ := FnAt.blockC hF hn hb hx
  subst hba
  clear hF hn hV hsu hM hu hx hpv hlv t0 t1
  obtain ⟨wA, hwA⟩ : ∃ wA, w.alloc (.cells #[.slice (some ⟨bb, off, none⟩) n bcap, .int .i64 V] 29) = wA := ⟨_, rfl⟩
  have BA : Hid (Below w.heap.size w wA) := by rw [← hwA]; exact Bel.alloc _ _
  have hsA : wA.heap.size = w.heap.size + 1 := by rw [← hwA]; simp
  have a0 : wA.cell? ⟨w.heap.size, 0, none⟩ = some (.slice (some ⟨bb, off, none⟩) n bcap) := by rw [← hwA]; simp [go_sem]
  have a1 : wA.cell? ⟨w.heap.size, 1, none⟩ = some (.int .i64 V) := by rw [← hwA]; simp [go_sem]
  obtain ⟨no, HNO⟩ : ∃ z, Hid (outF F ls b = z) := ⟨_, rfl⟩
  obtain ⟨us, HUS⟩ : ∃ z, Hid (endsV x.term.k x.term.a = z) := ⟨_, rfl⟩
  obtain ⟨un, HUN⟩ : ∃ z, Hid (us.length = z) := ⟨_, rfl⟩
  go_enter Try.func36, Try.ntmps36
  go_wp2_with (first | (go_at_call 60; refine (l11Out_any _ F b n V mg mc ls wA (HF.out.later BA.out) HN.out HV.out hV8 hb HSU.out (HM.out.keep BA.out)).mono ?_; rintro e wC ⟨g, cap, rfl, hO, bC⟩; rw [HNO.out] at hO; have OC : Hid (OwnBools wC (w.heap.size + 1) (.slice (some ⟨g, 0, none⟩) V cap) (bitsOf V no)) := (by rw [hsA] at hO; exact hO); have BC : Hid (Below w.heap.size w wC) := Bel.after BA.out bC; have d0 := Bel.keeps bC a0; have d2 := Bel.keeps BC.out t2; have d3 := Bel.keeps BC.out t3; have d4 := Bel.keeps BC.out t4; have d5 := Bel.keeps BC.out t5; have hsC := bC.size; clear hO bC) | (go_at_call 61; refine (spec_termUses _ _ _ _ wC).mono ?_; rintro e wF ⟨uv, kb, rfl, hkb, hR, bF⟩; rw [HUS.out] at hR; have RF : Hid (RowNew wF kb uv us) := hR; have OF : Hid (OwnBools wF (w.heap.size + 1) (.slice (some ⟨g, 0, none⟩) V cap) (bitsOf V no)) := OC.out.keep bF; have BF : Hid (Below w.heap.size w wF) := Bel.after BC.out bF; obtain ⟨rfl, hmx, hkl, _, _⟩ := hR; rw [HUN.out] at hmx ⊢; clear bF))
  have hgE : w.heap.size + 1 ≤ g ∧ g < wC.heap.size := by
    obtain ⟨_, h1, ⟨cur, h2⟩, _⟩ := OC.out.cells
    exact ⟨h1, (Array.getElem?_eq_some_iff.1 h2).1⟩
  go_loopw [9] (fun i wr => ∃ k : Nat, k ≤ un ∧ i = .int .i64 k ∧ UpBits wF (w.heap.size + 1) V g cap no us k wr) (fun i _ => un - (intOf i).toNat)
  case atStart => exact ⟨0, Nat.zero_le _, rfl, by rw [List.take_zero, List.append_nil]; exact OF.out, Below.refl _ _, Nat.le_refl _, fun _ _ _ => rfl⟩
  case round =>
    obtain ⟨wq, hwq⟩ : ∃ x, x = wr := ⟨_, rfl⟩
    subst hwq
    obtain ⟨k, hk, rfl, hup⟩ := hrel
    have UP : Hid (UpBits wF (w.heap.size + 1) V g cap no us k wq) := hup
    by_cases hlt : (k : Int) < (un : Int)
    · have hku : k < us.length := by have := HUN.out; omega
      obtain ⟨z, HZ, hz⟩ : ∃ z : Nat, Hid (us.getD k 0 = (z : Int)) ∧ z < V := by
        have h9 := HU.out (us.getD k 0) (by rw [HUS.out, List.getD_eq_getElem?_getD, List.getElem?_eq_getElem hku]; exact List.getElem_mem hku)
        have h8 : us.getD k 0 = ((us.getD k 0).toNat : Int) := by omega
        exact ⟨(us.getD k 0).toNat, h8, by omega⟩
      have c0 : wq.cell? ⟨kb, k, none⟩ = some (.int .i64 z) := by
        rw [World.cell?_of_block (w := wF) (a := ⟨kb, k, none⟩) (hup.2.2.2 kb (by omega) (by omega)), RF.out.2.2.2.1 k hku, HZ.out]
      obtain ⟨_, _, _, _, hcell, hfz⟩ := hup.1.cells
      have c1 := hcell z hz
      have c2 := hfz z
      have hzI : (z : Int) < (V : Int) := by omega
      have HKU : Hid (k < us.length) := hku
      clear hup hcell hfz hku
      go_wp2_with fail
      go_roundw
      case rel => exact ⟨k + 1, by omega, by simp, UP.out.put (by omega) hz HKU.out HZ.out⟩
      case measure => simp [intOf]; omega
    · obtain rfl : k = un := by omega
      clear hup
      go_wp2_with fail
      go_ret
      have h1 := UP.out.1
      rw [List.take_of_length_le (by have := HUN.out; omega), ← HUS.out, ← HNO.out, bits_congr (m := endS x.term (outF F ls b)) (fun j hj => by rw [endS, norm_mem]; exact ⟨fun h => ⟨h, by omega, by omega⟩, fun h => h.1⟩)] at h1
      exact ⟨g, cap, rfl, h1.low (by omega), BF.out.trans (UP.out.2.1.mono (by omega))⟩

set_option maxRecDepth 100000 in
set_option maxHeartbeats 4000000 in
theorem l11Before_any (v : Value) (F : FnD) (b n V : Nat) (mg mc at0 : Nat) (ls : Nat → List Int) (w : World) (hF : FnAt w v F) (hn : F.blocks.length = n) (hV : F.values = (V : Int)) (hV8 : V ≤ 80) (hb : b < n) (hsu : ∀ s ∈ succsN F b, 0 ≤ s ∧ s < n) (hM : MatAt w mg n V ls) (x : BlockD) (hx : F.blocks[b]? = some x) (hu : ∀ z ∈ endsV x.term.k x.term.a, 0 ≤ z ∧ z < V)
    (hus : ∀ y ∈ x.list, (∀ z ∈ usesV y.op y.a y.b, 0 ≤ z ∧ z < V) ∧ (insDefV y.op y.d = -1 ∨ (0 ≤ insDefV y.op y.d ∧ insDefV y.op y.d < V))) (hat : at0 ≤ x.list.length) :
    Calls Try.prog 24 #[v, .int .i64 b, .int .i64 at0, .slice (some ⟨mg, 0, none⟩) n mc] w fun e w' => GivesBits w V (atS x (outF F ls b) at0) e w' := by
  have HF : Hid (FnAt w v F) := hF
  have HN : Hid (F.blocks.length = n) := hn
  have HV : Hid (F.values = (V : Int)) := hV
  obtain ⟨ba, bcap, rfl⟩ := hF.out hn hV
  have HSU : Hid (∀ s ∈ succsN F b, 0 ≤ s ∧ s < n) := hsu
  have HM : Hid (MatAt w mg n V ls) := hM
  have HU : Hid (∀ z ∈ endsV x.term.k x.term.a, 0 ≤ z ∧ z < V) := hu
  have HUS : Hid (∀ y ∈ x.list, (∀ z ∈ usesV y.op y.a y.b, 0 ≤ z ∧ z < V) ∧ (insDefV y.op y.d = -1 ∨ (0 ≤ insDefV y.op y.d ∧ insDefV y.op y.d < V))) := hus
  have HX : Hid (F.blocks[b]? = some x) := hx
  have HAT : Hid (at0 ≤ x.list.length) := hat
  have hbI : (b : Int) < (n : Int) := by omega
  obtain ⟨bb, off, hba, pv, lv, t0, t1, t2, t3, t4, t5, hpv, hlv⟩ := FnAt.blockC hF hn hb hx
  subst hba
  have HLV : Hid (ListAt 0 5 InsAt w lv x.list) := hlv
  obtain ⟨la, lcap, rfl, hlm, -⟩ := hlv
  obtain ⟨ln, HLN⟩ : ∃ z, Hid (x.list.length = z) := ⟨_, rfl⟩
  rw [HLN.out] at t1 hlm hat
  clear hF hn hV hsu hM hu hus hx hpv t0 t2 t3 t4 t5
  obtain ⟨wA, hwA⟩ : ∃ wA, w.alloc (.cells #[.slice (some ⟨bb, off, none⟩) n bcap, .int .i64 V] 29) = wA := ⟨_, rfl⟩
  have BA : Hid (Below w.heap.size w wA) := by rw [← hwA]; exact Bel.alloc _ _
  have hsA : wA.heap.size = w.heap.size + 1 := by rw [← hwA]; simp
  have a0 : wA.cell? ⟨w.heap.size, 0, none⟩ = some (.slice (some ⟨bb, off, none⟩) n bcap) := by rw [← hwA]; simp [go_sem]
  have a1 : wA.cell? ⟨w.heap.size, 1, none⟩ = some (.int .i64 V) := by rw [← hwA]; simp [go_sem]
  go_enter Try.func24, Try.ntmps24
  go_wp2_with (go_at_call 36; refine (l11End_any _ F b n V mg mc ls wA (HF.out.later BA.out) HN.out HV.out hV8 hb HSU.out (HM.out.keep BA.out) x HX.out HU.out).mono ?_; rintro e wC ⟨g, cap, rfl, hO, bC⟩; have OC : Hid (OwnBools wC (w.heap.size + 1) (.slice (some ⟨g, 0, none⟩) V cap) (bitsOf V (endS x.term (outF F ls b)))) := (by rw [hsA] at hO; exact hO); have BC : Hid (Below w.heap.size w wC) := Bel.after BA.out bC; have BCA : Hid (Below wA.heap.size wA wC) := bC; have d0 := Bel.keeps bC a0; have d1 := Bel.keeps BC.out t1; clear hO bC)
  obtain ⟨no, HNO⟩ : ∃ z, Hid (outF F ls b = z) := ⟨_, rfl⟩
  rw [HNO.out] at OC
  go_loopw [9, 10] (fun lv i wr => ∃ (m g cap : Nat), at0 ≤ m ∧ m ≤ ln ∧ i = .int .i64 ((m : Int) - 1) ∧ lv = .slice (some ⟨g, 0, none⟩) V cap ∧ OwnBools wr (w.heap.size + 1) (.slice (some ⟨g, 0, none⟩) V cap) (bitsOf V (atS x no m)) ∧ Below wC.heap.size wC wr) (fun _ i _ => (intOf i + 1).toNat)
  case atStart => exact ⟨ln, g, cap, hat, Nat.le_refl _, rfl, rfl, by rw [← HLN.out, atS_end]; exact OC.out, Below.refl _ _⟩
  case round =>
    obtain ⟨wq, hwq⟩ : ∃ x, x = wr := ⟨_, rfl⟩
    subst hwq
    obtain ⟨m, gq, capq, hm1, hm2, rfl, rfl, hO, hB⟩ := hrel
    have OQ : Hid (OwnBools wq (w.heap.size + 1) (.slice (some ⟨gq, 0, none⟩) V capq) (bitsOf V (atS x no m))) := hO
    have BQ : Hid (Below wC.heap.size wC wq) := hB
    have f0 := Bel.keeps hB d0
    have f1 := Bel.keeps hB d1
    clear hO hB
    by_cases hlt : at0 < m
    · obtain ⟨j, rfl⟩ : ∃ j, m = j + 1 := ⟨m - 1, by omega⟩
      rw [show ((j + 1 : Nat) : Int) - 1 = (j : Int) by omega]
      have hjl : j < x.list.length := by have := HLN.out; omega
      obtain ⟨y, HY⟩ : ∃ y, Hid (x.list[j]? = some y) := ⟨x.list[j], List.getElem?_eq_getElem hjl⟩
      have hLq := places_keep (places_keep HLV.out (Keeps.of_below BC.out 0)) (Keeps.of_below BQ.out 0)
      rw [HLN.out] at hLq
      obtain ⟨lb, loff, hla, e0, e1, e2, e3, e4⟩ := listAt_at hLq HY.out
      subst hla
      obtain ⟨y0, y1, y2, y3, y4⟩ := y
      dsimp only at e0 e1 e2 e3 e4
      have hge : (at0 : Int) ≤ (j : Int) := by omega
      have hjI : (j : Int) < (ln : Int) := by omega
      obtain ⟨hy1, hy2⟩ := HUS.out _ (List.mem_of_getElem? HY.out)
      have HBK : Hid (Calls Try.prog 37 #[.agg #[.int .i64 y0, .int .i64 y1, .int .i64 y2, .int .i64 y3, .int .i64 y4], .slice (some ⟨gq, 0, none⟩) V capq] wq fun e w' => GivesBits wq V (backS ⟨y0, y1, y2, y3, y4⟩ (atS x no (j + 1))) e w') := l11Back_any y0 y1 y2 y3 y4 _ V capq _ wq OQ.out.at hV8 hy2 hy1
      have hszq := BQ.out.size
      have hszC := BC.out.size
      clear hLq hjl hy1 hy2
      go_wp2_with (go_at_call 37; refine HBK.out.mono ?_; rintro e w2 ⟨g2, cap2, rfl, hO2, b2⟩)
      go_roundw
      case rel => exact ⟨j, g2, cap2, by omega, by omega, rfl, rfl, by rw [atS_step HY.out]; exact hO2.low (by have := BC.out.size; have := BCA.out.size; omega), Bel.after BQ.out b2⟩
      case measure => simp [intOf]
    · obtain rfl : m = at0 := by omega
      have hno : ¬ ((m : Int) - 1 ≥ (m : Int)) := by omega
      go_wp2_with fail
      go_ret
      rw [HNO.out]
      exact ⟨gq, capq, rfl, OQ.out.low (by omega), Bel.after BC.out BQ.out⟩
end Go.Proofs.Ytjfogpbhacadbaa
