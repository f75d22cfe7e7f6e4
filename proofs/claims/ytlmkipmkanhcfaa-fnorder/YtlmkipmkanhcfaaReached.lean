/- Reached, of the program and of the model: for each block whether one comes to it. -/
import Derived.Test.YtlmkipmkanhcfaaWalk
import Derived.Test.YtlmkipmkanhcfaaSOrder2
import Derived.Test.YtlmkipmkanhcfaaBools
namespace Go.Proofs.Ytlmkipmkanhcfaa
open Go.ChangeShapes Go.WideShapes Go.ChangeAt Go.RowKit Go.Shelf
set_option linter.unusedVariables false

theorem SeenRow.own {w : World} {g n lo : Nat} {S : List Nat} (h : SeenRow w g n S) (hlo : lo ≤ g) (hn : n ≤ 100) : OwnBools w lo (.slice (some ⟨g, 0, none⟩) n n) ((List.range n).map (fun i => decide (i ∈ S))) := by
  refine ⟨by simp, .inr ⟨g, n, seenCells n S, by simp, hlo, h, by simp, Nat.le_trans hn (by decide), by simp [seenCells], ?_⟩⟩
  simp [seenCells]
  rw [List.take_of_length_le (by simp)]
  simp

/-- What was told of a list of blocks is what was come to. -/
theorem order_mem {F : FnD} (h : FnShape F) (x : Nat) : x ∈ (((wayOf F).2.reverse).map Int.toNat).reverse ↔ x ∈ (wayOf F).1 := by
  rw [wayOf_same, List.mem_reverse, List.mem_map]
  constructor
  · rintro ⟨y, hy, rfl⟩
    rw [List.mem_reverse] at hy
    have := ((wayOf_len h).2.2 y hy).1
    rw [Int.toNat_of_nonneg this]
    exact hy
  · intro hx
    exact ⟨(x : Int), by rw [List.mem_reverse]; exact hx, by simp⟩

theorem ownBools_nil {w : World} {g lo : Nat} (hg : w.heap.size = g) (hl : lo ≤ g) : OwnBools (w.alloc (.cells #[] 4)) lo (.slice (some ⟨g, 0, none⟩) 0 0) [] := by
  subst hg
  exact (ownBools_new w).low hl

set_option maxRecDepth 100000 in
set_option maxHeartbeats 4000000 in
theorem spec_reached (v : Value) (F : FnD) (w : World) (hF : FnAt w v F) :
    Calls Try.prog 21 #[v] w fun e w' => GivesOwnB w (reachedOf F) e w' := by
  have HF : Hid (FnAt w v F) := hF
  obtain ⟨n, HN⟩ : ∃ n, Hid (F.blocks.length = n) := ⟨_, rfl⟩
  obtain ⟨vals, HV⟩ : ∃ x, Hid (F.values = x) := ⟨_, rfl⟩
  obtain ⟨ba, bcap, rfl⟩ := hF.out HN.out HV.out
  clear hF
  go_enter Try.func21, Try.ntmps21
  go_wp2_with fail
  refine (spec_shapeOk _ F _ (HF.out.later (by repeat (first | exact Below.refl _ _ | apply Below.drew | refine Below.alloc ?_ (by simp <;> omega) _ | refine Below.setCell ?_ (by simp <;> omega) _)))).mono ?_
  rintro e w1 ⟨s1, rfl, hs1, b1⟩
  have S1 : Hid (s1 = true ↔ FnShape F) := hs1
  have B1 : Hid (Below w.heap.size w w1) := Bel.after (by repeat (first | exact Below.refl _ _ | apply Below.drew | refine Below.alloc ?_ (by simp <;> omega) _ | refine Below.setCell ?_ (by simp <;> omega) _)) b1
  have c0 : w1.cell? ⟨w.heap.size, 0, none⟩ = some (.slice ba n bcap) := Bel.keeps b1 (by simp [go_sem])
  have c1 : w1.cell? ⟨w.heap.size, 1, none⟩ = some (.int .i64 vals) := Bel.keeps b1 (by simp [go_sem])
  have hs01 : w.heap.size < w1.heap.size := by have h := b1.size; simp at h; omega
  clear b1 hs1
  cases s1 with
  | false =>
    have HE : Hid (reachedOf F = []) := reachedOf_no (fun h => by have := S1.out.2 h; cases this)
    go_wp2_with fail
    go_ret
    rw [HE.out]
    exact ⟨_, rfl, ownBools_nil rfl B1.out.size, Bel.after B1.out (by repeat (first | exact Below.refl _ _ | apply Below.drew | refine Below.alloc ?_ (by simp <;> omega) _ | refine Below.setCell ?_ (by simp <;> omega) _))⟩
  | true =>
    have hyes : Hid (FnShape F) := S1.out.1 rfl
    have HE : Hid (reachedOf F = reachedN F) := reachedOf_yes hyes.out
    have h16 : n ≤ 16 := by rw [← HN.out]; exact hyes.out.2.1
    have hmk := make_bools n (by omega) w1
    go_wp2_with fail
    obtain ⟨wB, hwB⟩ : ∃ wB, w1.alloc (.cells (madeCells #[.bool false] n) 4) = wB := ⟨_, rfl⟩
    have hsB : wB.heap.size = w1.heap.size + 1 := by rw [← hwB]; simp
    have BB : Hid (Below w1.heap.size w1 wB) := by rw [← hwB]; exact Bel.alloc _ _
    have SB : Hid (SeenRow wB w1.heap.size n []) := by rw [← hwB]; exact seen_new rfl
    try rw [hwB]
    clear hwB hmk
    refine (l3Order_any _ F _ (HF.out.later (Bel.after B1.out BB.out)) hyes.out).mono ?_
    rintro e w2 ⟨v2, rfl, o2, b2⟩
    obtain ⟨O, HOO⟩ : ∃ O, Hid ((wayOf F).2.reverse = O) := ⟨_, rfl⟩
    rw [HOO.out] at o2
    have HOI : Hid (∀ x ∈ O, 0 ≤ x ∧ x < (n : Int)) := by
      rw [← HOO.out, ← HN.out]
      exact fun x hx => (wayOf_len hyes.out).2.2 x (List.mem_reverse.1 hx)
    have OL : Hid (IntsAt w2 v2 O) := o2.at
    have OLT : Hid (∀ k, v2.ownBlock = some k → wB.heap.size ≤ k) := fun k hk => (World.ownsRow.lt o2 k hk).1
    have S2 : Hid (SeenRow w2 w1.heap.size n []) := SB.out.later b2
    have B2 : Hid (Below w1.heap.size w1 w2) := Bel.after BB.out b2
    obtain ⟨m, HM⟩ : ∃ m, Hid (O.length = m) := ⟨_, rfl⟩
    obtain ⟨la, lcap, hv2, hlm, _⟩ := OL.out
    rw [HM.out] at hv2 hlm
    subst hv2
    clear o2 b2 c0 c1
    go_wp2_with fail
    go_loopw [5] (fun i wr => ∃ k : Nat, k ≤ m ∧ i = .int .i64 (k : Int) ∧ SeenRow wr w1.heap.size n ((O.take k).map Int.toNat).reverse ∧ Below w1.heap.size w1 wr ∧ IntsAt wr (.slice la m lcap) O) (fun i _ => m - (intOf i).toNat)
    case atStart => exact ⟨0, Nat.zero_le _, rfl, S2.out, B2.out, OL.out⟩
    case round =>
      obtain ⟨k, hk, rfl, s3, b3, i3⟩ := hrel
      have S3 : Hid (SeenRow wr w1.heap.size n ((O.take k).map Int.toNat).reverse) := s3
      have B3 : Hid (Below w1.heap.size w1 wr) := b3
      have I3 : Hid (IntsAt wr (.slice la m lcap) O) := i3
      clear s3 b3 i3
      by_cases hlt : (k : Int) < (m : Int)
      · have hkm : k < O.length := by have := HM.out; omega
        obtain ⟨la', lcap', hla, _, hlc⟩ := I3.out
        obtain ⟨lb, loff, e0, hld⟩ := hlc (by omega)
        subst e0
        simp only [Value.slice.injEq] at hla
        obtain ⟨hla1, hla2, hla3⟩ := hla
        subst hla1 hla3
        clear hla2
        have q1 := hld k hkm
        obtain ⟨x, HX⟩ : ∃ x, Hid (O.getD k 0 = x) := ⟨_, rfl⟩
        rw [HX.out] at q1
        have hx := HOI.out x (by rw [← HX.out]; simp [List.getD, hkm])
        obtain ⟨xn, rfl⟩ : ∃ xn : Nat, x = (xn : Int) := ⟨x.toNat, by omega⟩
        have hxn : xn < n := by omega
        have hxi : (xn : Int) < (n : Int) := by omega
        have q2 := S3.out.cell hxn
        have q3 := S3.out.frozen xn
        have s4 : SeenRow (wr.setCell ⟨w1.heap.size, xn, none⟩ (.bool true)) w1.heap.size n ((O.take (k + 1)).map Int.toNat).reverse := by
          rw [take_next hkm, HX.out]
          have h := S3.out.put xn
          simpa using h
        have S4 : Hid (SeenRow (wr.setCell ⟨w1.heap.size, xn, none⟩ (.bool true)) w1.heap.size n ((O.take (k + 1)).map Int.toNat).reverse) := s4
        clear s4
        have hlb : lb ≠ w1.heap.size := by
          have h := OLT.out lb rfl
          omega
        have I4 : Hid (IntsAt (wr.setCell ⟨w1.heap.size, xn, none⟩ (.bool true)) (.slice (some ⟨lb, loff, none⟩) m lcap) O) := by
          refine IntsAt.apart (g := w1.heap.size) (ov := .slice none 0 0) I3.out ⟨by simp [World.setCell], fun j _ h1 _ => Below.heap_setCell _ _ _ j h1⟩ (fun j hj => ?_) (fun j _ => by simp [Value.ownBlock])
          obtain rfl : lb = j := by simpa [Value.ownBlock] using hj
          exact ⟨World.block_lt_of_cell? wr _ q1, hlb⟩
        clear hld hlc hx
        go_wp2_with fail
        go_roundw
        case rel => exact ⟨k + 1, by omega, by go_num, S4.out, B3.out.setCell (p := ⟨w1.heap.size, xn, none⟩) (Nat.le_refl _) _, I4.out⟩
        case measure => simp [intOf]; omega
      · have hkm : k = m := by omega
        subst hkm
        go_wp2_with fail
        go_ret
        rw [HE.out]
        refine ⟨_, rfl, ?_, Bel.after B1.out B3.out⟩
        have h := S3.out
        rw [← HM.out, List.take_length, ← HOO.out] at h
        have h2 := (h.congr (fun i _ => order_mem hyes.out i)).own B1.out.size (by omega)
        unfold reachedN
        rw [HN.out]
        exact h2

theorem WalkSt.aside {w w' : World} {P0 mb lo g : Nat} {x0 x1 : Value} {st : Way} {lv : Value} {n : Nat} {S : List Nat} (h : WalkSt w P0 mb lo x0 x1 st lv) (hs : SeenRow w g n S) (hg : w.grownBy w' (some g)) : WalkSt w' P0 mb lo x0 x1 st lv := by
  refine ⟨(hg.block P0 (Array.getElem?_eq_some_iff.1 h.box).1 (fun e => ?_)).trans h.box, ?_, World.ownsRow.kept h.left hg (.inr (hs.not_row h.left).symm)⟩
  · obtain rfl : P0 = g := by simpa using e
    have := h.box.symm.trans hs
    simp at this
  · obtain ⟨es, ck, e⟩ := h.seen.isMap
    refine h.seen.kept (hg.block mb (Array.getElem?_eq_some_iff.1 e).1 (fun e2 => ?_))
    obtain rfl : mb = g := by simpa using e2
    have := e.symm.trans hs
    simp at this

set_option maxRecDepth 100000 in
set_option maxHeartbeats 4000000 in
theorem impl_reached (v : Value) (F : FnD) (w : World) (hF : FnAt w v F) :
    Calls Try.prog 19 #[v] w fun e w' => GivesOwnB w (reachedOf F) e w' := by
  have HF : Hid (FnAt w v F) := hF
  obtain ⟨n, HN⟩ : ∃ n, Hid (F.blocks.length = n) := ⟨_, rfl⟩
  obtain ⟨vals, HV⟩ : ∃ x, Hid (F.values = x) := ⟨_, rfl⟩
  obtain ⟨ba, bcap, rfl⟩ := hF.out HN.out HV.out
  clear hF
  go_enter Try.func19, Try.ntmps19
  go_wp2_with fail
  refine (impl_shapeOk _ F _ (HF.out.later (by repeat (first | exact Below.refl _ _ | apply Below.drew | refine Below.alloc ?_ (by simp <;> omega) _ | refine Below.setCell ?_ (by simp <;> omega) _)))).mono ?_
  rintro e w1 ⟨s1, rfl, hs1, b1⟩
  have S1 : Hid (s1 = true ↔ FnShape F) := hs1
  have B1 : Hid (Below w.heap.size w w1) := Bel.after (by repeat (first | exact Below.refl _ _ | apply Below.drew | refine Below.alloc ?_ (by simp <;> omega) _ | refine Below.setCell ?_ (by simp <;> omega) _)) b1
  have c0 : w1.cell? ⟨w.heap.size, 0, none⟩ = some (.slice ba n bcap) := Bel.keeps b1 (by simp [go_sem])
  have c1 : w1.cell? ⟨w.heap.size, 1, none⟩ = some (.int .i64 vals) := Bel.keeps b1 (by simp [go_sem])
  have hs01 : w.heap.size < w1.heap.size := by have h := b1.size; simp at h; omega
  clear b1 hs1
  cases s1 with
  | false =>
    have HE : Hid (reachedOf F = []) := reachedOf_no (fun h => by have := S1.out.2 h; cases this)
    go_wp2_with fail
    go_ret
    rw [HE.out]
    exact ⟨_, rfl, ownBools_nil rfl B1.out.size, Bel.after B1.out (by repeat (first | exact Below.refl _ _ | apply Below.drew | refine Below.alloc ?_ (by simp <;> omega) _ | refine Below.setCell ?_ (by simp <;> omega) _))⟩
  | true =>
    have hyes : Hid (FnShape F) := S1.out.1 rfl
    have HE : Hid (reachedOf F = reachedN F) := reachedOf_yes hyes.out
    have h16 : n ≤ 16 := by rw [← HN.out]; exact hyes.out.2.1
    go_wp2_with fail
    refine (walkAll_any F ba n bcap vals _ (HF.out.later B1.out) hyes.out HN.out).mono ?_
    rintro e w2 ⟨P0, mb, lv, rfl, hP, hm, hne, ws, b2⟩
    have WS : Hid (WalkSt w2 P0 mb w1.heap.size (.slice ba n bcap) (.int .i64 vals) (wayOf F) lv) := ws
    have B2 : Hid (Below w1.heap.size w1 w2) := b2
    have hs12 : w1.heap.size ≤ w2.heap.size := b2.size
    replace c0 := Bel.keeps b2 c0
    replace c1 := Bel.keeps b2 c1
    have hmk := make_bools n (by omega) w2
    clear ws b2
    go_wp2_with fail
    obtain ⟨wB, hwB⟩ : ∃ wB, w2.alloc (.cells (madeCells #[.bool false] n) 4) = wB := ⟨_, rfl⟩
    have BB : Hid (Below w2.heap.size w2 wB) := by rw [← hwB]; exact Bel.alloc _ _
    have SB : Hid (SeenRow wB w2.heap.size n []) := by rw [← hwB]; exact seen_new rfl
    have WB : Hid (WalkSt wB P0 mb w1.heap.size (.slice ba n bcap) (.int .i64 vals) (wayOf F) lv) := WS.out.later BB.out
    try rw [hwB]
    clear hwB hmk c0 c1
    go_loopw [18] (fun i wr => ∃ k : Nat, k ≤ n ∧ i = .int .i64 (k : Int) ∧ SeenRow wr w2.heap.size n ((List.range k).filter (fun x => decide (x ∈ (wayOf F).1))) ∧ Below w2.heap.size w2 wr ∧ WalkSt wr P0 mb w1.heap.size (.slice ba n bcap) (.int .i64 vals) (wayOf F) lv) (fun i _ => n - (intOf i).toNat)
    case atStart => exact ⟨0, Nat.zero_le _, rfl, SB.out, BB.out, WB.out⟩
    case round =>
      obtain ⟨k, hk, rfl, s3, b3, ws3⟩ := hrel
      have S3 : Hid (SeenRow wr w2.heap.size n ((List.range k).filter (fun x => decide (x ∈ (wayOf F).1)))) := s3
      have B3 : Hid (Below w2.heap.size w2 wr) := b3
      have W3 : Hid (WalkSt wr P0 mb w1.heap.size (.slice ba n bcap) (.int .i64 vals) (wayOf F) lv) := ws3
      clear s3 b3 ws3
      by_cases hlt : (k : Int) < (n : Int)
      · go_wp2_with fail
        refine (has_any P0 mb w1.heap.size _ _ (wayOf F) lv k _ W3.out (by omega)).mono ?_
        rintro e w4 ⟨rfl, b4⟩
        have S4 : Hid (SeenRow w4 w2.heap.size n ((List.range k).filter (fun x => decide (x ∈ (wayOf F).1)))) := S3.out.later b4
        have B4 : Hid (Below w2.heap.size w2 w4) := B3.out.trans (b4.mono B3.out.size)
        have W4 : Hid (WalkSt w4 P0 mb w1.heap.size (.slice ba n bcap) (.int .i64 vals) (wayOf F) lv) := W3.out.later b4
        obtain ⟨bb, HBB⟩ : ∃ bb, Hid (decide (k ∈ (wayOf F).1) = bb) := ⟨_, rfl⟩
        rw [HBB.out]
        have hkn : k < n := by omega
        have q2 := S4.out.cell hkn
        have q3 := S4.out.frozen k
        have s5 : SeenRow (w4.setCell ⟨w2.heap.size, k, none⟩ (.bool bb)) w2.heap.size n ((List.range (k + 1)).filter (fun x => decide (x ∈ (wayOf F).1))) := by
          refine S4.out.store k bb (fun i hi => ?_)
          rw [← HBB.out, List.range_succ]
          by_cases e : i = k
          · subst e
            simp
          · have e2 : ¬ i = k := e
            simp [e2]
        have S5 : Hid (SeenRow (w4.setCell ⟨w2.heap.size, k, none⟩ (.bool bb)) w2.heap.size n ((List.range (k + 1)).filter (fun x => decide (x ∈ (wayOf F).1)))) := s5
        have W5 : Hid (WalkSt (w4.setCell ⟨w2.heap.size, k, none⟩ (.bool bb)) P0 mb w1.heap.size (.slice ba n bcap) (.int .i64 vals) (wayOf F) lv) := W4.out.aside S4.out (grown_set _ _ _ _)
        clear b4 s5
        go_wp2_with fail
        go_roundw
        case rel => exact ⟨k + 1, by omega, by go_num, S5.out, B4.out.setCell (p := ⟨w2.heap.size, k, none⟩) (Nat.le_refl _) _, W5.out⟩
        case measure => simp [intOf]; omega
      · have hkm : k = n := by omega
        subst hkm
        go_wp2_with fail
        go_ret
        rw [HE.out]
        refine ⟨_, rfl, ?_, Bel.after B1.out (Bel.after B2.out B3.out)⟩
        have h2 := (S3.out.congr (b := (wayOf F).1) (fun i hi => by simp [hi])).own (Nat.le_trans B1.out.size hs12) (by omega)
        unfold reachedN
        rw [HN.out]
        exact h2
end Go.Proofs.Ytlmkipmkanhcfaa
