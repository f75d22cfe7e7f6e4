/- MovesOk, of both sides. -/
import Derived.Test.YtijihgkhdknkeaaMvDef
namespace Go.Proofs.Ytijihgkhdknkeaa
open Go.ChangeShapes Go.WideShapes Go.ChangeAt Go.RowKit
set_option linter.unusedVariables false

theorem Bel.drewN {B : Nat} {a w : World} (h : Below B a w) (n : Nat) : Below B a (w.drewN n) := ⟨h.os, h.tape, h.output, h.size, h.block⟩

set_option maxHeartbeats 1000000 in
theorem moveWithin_any (d s n : Int) (w : World) :
    Calls Try.prog 32 #[.agg #[.int .i64 d, .int .i64 s], .int .i64 n] w fun e w' => GivesBool w (mvIn ⟨d, s⟩ n) e w' := by
  have t : ∀ b, mvIn ⟨d, s⟩ n = b → Calls Try.prog 32 #[.agg #[.int .i64 d, .int .i64 s], .int .i64 n] w fun e w' => GivesBool w b e w' := by
    intro b hb
    by_cases h1 : d ≥ 0
    · by_cases h2 : d < n
      · by_cases h3 : s ≥ 0
        · by_cases h4 : s < n
          · have e : b = true := by rw [← hb]; exact mvIn_iff.2 ⟨by omega, h2, by omega, h4⟩
            subst e
            clear hb
            go_enter Try.func32, Try.ntmps32
            go_wp2
            go_ret
            exact ⟨rfl, by repeat (first | exact Below.refl _ _ | apply Below.drew | refine Below.alloc ?_ (by simp <;> omega) _ | refine Below.setCell ?_ (by simp <;> omega) _)⟩
          · have e : b = false := by rw [← hb]; simp [mvIn]; omega
            subst e
            clear hb
            go_enter Try.func32, Try.ntmps32
            go_wp2
            go_ret
            exact ⟨rfl, by repeat (first | exact Below.refl _ _ | apply Below.drew | refine Below.alloc ?_ (by simp <;> omega) _ | refine Below.setCell ?_ (by simp <;> omega) _)⟩
        · have e : b = false := by rw [← hb]; simp [mvIn]; omega
          subst e
          clear hb
          go_enter Try.func32, Try.ntmps32
          go_wp2
          go_ret
          exact ⟨rfl, by repeat (first | exact Below.refl _ _ | apply Below.drew | refine Below.alloc ?_ (by simp <;> omega) _ | refine Below.setCell ?_ (by simp <;> omega) _)⟩
      · have e : b = false := by rw [← hb]; simp [mvIn]; omega
        subst e
        clear hb
        go_enter Try.func32, Try.ntmps32
        go_wp2
        go_ret
        exact ⟨rfl, by repeat (first | exact Below.refl _ _ | apply Below.drew | refine Below.alloc ?_ (by simp <;> omega) _ | refine Below.setCell ?_ (by simp <;> omega) _)⟩
    · have e : b = false := by rw [← hb]; simp [mvIn]; omega
      subst e
      clear hb
      go_enter Try.func32, Try.ntmps32
      go_wp2
      go_ret
      exact ⟨rfl, by repeat (first | exact Below.refl _ _ | apply Below.drew | refine Below.alloc ?_ (by simp <;> omega) _ | refine Below.setCell ?_ (by simp <;> omega) _)⟩
  exact t _ rfl

set_option maxHeartbeats 1000000 in
theorem index_any (v : Value) (l : List Int) (x : Int) (w : World) (h : IntsAt w v l) :
    Calls Try.prog 46 #[v, .int .i64 x] w fun e w' => (∃ r : Int, e = .returned (.int .i64 r) ∧ (0 ≤ r ↔ x ∈ l)) ∧ w' = w := by
  obtain ⟨a, cap, rfl, hm, hc⟩ := h
  obtain ⟨n, HN⟩ : ∃ n, Hid (l.length = n) := ⟨_, rfl⟩
  rw [HN.out] at hm hc ⊢
  have HC : Hid (0 < n → ∃ b off, a = some ⟨b, off, none⟩ ∧ ∀ i, i < n → w.cell? ⟨b, off + i, none⟩ = some (.int .i64 (l.getD i 0))) := hc
  clear hc
  go_enter Try.func46, Try.ntmps46
  go_wp2
  go_loop [8] (fun i => ∃ k : Nat, k ≤ n ∧ i = .int .i64 k ∧ x ∉ l.take k) (fun i => n - (intOf i).toNat)
  case atStart => exact ⟨0, Nat.zero_le _, rfl, by simp⟩
  case round =>
    obtain ⟨k, hk, rfl, hno⟩ := hrel
    have HX : Hid (x ∉ l.take k) := hno
    clear hno
    by_cases hlt : (k : Int) < (n : Int)
    · obtain ⟨b, off, rfl, hc1⟩ := HC.out (by omega)
      have q1 := hc1 k (by omega)
      have hkl : k < l.length := by have := HN.out; omega
      have HG : Hid (l[k]? = some (l.getD k 0)) := by show _ = _; simp [List.getD, hkl]
      clear hc1 hkl
      generalize l.getD k 0 = y at *
      by_cases hy : x = y
      · subst hy
        have hee : (x == x) = true := by simp
        go_wp2
        go_ret
        exact ⟨⟨_, rfl, ⟨fun _ => List.mem_of_getElem? HG.out, fun _ => by omega⟩⟩, rfl⟩
      · have hee : (x == y) = false := by simpa using hy
        have HY : Hid (¬ x = y) := hy
        clear hy
        go_wp2
        go_round
        case rel =>
          refine ⟨k + 1, by omega, by go_num, ?_⟩
          rw [take_one_more HG.out]
          intro h
          rcases List.mem_append.1 h with h | h
          · exact HX.out h
          · simp at h; exact HY.out h
        case measure => simp [intOf]; omega
    · have hkn : k = n := by omega
      subst hkn
      go_wp2
      go_ret
      refine ⟨⟨_, rfl, ⟨fun h => absurd h (by omega), fun h => absurd ?_ HX.out⟩⟩, rfl⟩
      rw [List.take_of_length_le (by have := HN.out; omega)]
      exact h

theorem contains_any (v : Value) (l : List Int) (x : Int) (w : World) (h : IntsAt w v l) :
    Calls Try.prog 33 #[v, .int .i64 x] w fun e w' => (∃ b : Bool, e = .returned (.bool b) ∧ (b = true ↔ x ∈ l)) ∧ w' = w := by
  have HH : Hid (IntsAt w v l) := h
  obtain ⟨a, cap, rfl, hm, hc⟩ := h
  clear hc
  go_enter Try.func33, Try.ntmps33
  go_wp2_with fail
  refine (index_any _ l x _ HH.out).mono ?_
  rintro e w1 ⟨⟨r, rfl, hr⟩, rfl⟩
  have HR : Hid (0 ≤ r ↔ x ∈ l) := hr
  clear hr
  by_cases h0 : r ≥ 0
  · go_wp2
    go_ret
    exact ⟨⟨_, rfl, ⟨fun _ => HR.out.1 (by omega), fun _ => rfl⟩⟩, rfl⟩
  · go_wp2
    go_ret
    exact ⟨⟨_, rfl, by rw [decide_eq_true_iff]; exact HR.out⟩, rfl⟩

set_option maxHeartbeats 4000000 in
theorem impl_movesOk (v : Value) (l : List ArmD) (n : Int) (w : World) (ha : MovesAt w v l) :
    Calls Try.prog 11 #[v, .int .i64 n] w fun e w' => GivesBool w (movesOk l n) e w' := by
  obtain ⟨a, cap, rfl, hm, hc⟩ := ha
  obtain ⟨m, HM⟩ : ∃ m, Hid (l.length = m) := ⟨_, rfl⟩
  obtain ⟨R, HR⟩ : ∃ R, Hid (movesOk l n = R) := ⟨_, rfl⟩
  rw [HM.out] at hm hc ⊢
  rw [HR.out]
  have HC : Hid (0 < m → ∃ b off, a = some ⟨b, off, none⟩ ∧ 0 ≤ b ∧ ∀ i x, l[i]? = some x → ArmAt w b (off + i * 2) x) := hc
  clear hc
  by_cases h24 : (m : Int) > 24
  · obtain rfl : R = false := by rw [← HR.out]; exact movesOk_long (by have := HM.out; omega)
    go_enter Try.func11, Try.ntmps11
    go_wp2
    go_ret
    exact ⟨rfl, by repeat (first | exact Below.refl _ _ | apply Below.drew | refine Below.alloc ?_ (by simp <;> omega) _ | refine Below.setCell ?_ (by simp <;> omega) _)⟩
  · obtain ⟨i0, hi, hz0, hz1, hz2⟩ := info_parts info_int
    have hmx : 100 ≤ maxLen := by decide
    go_enter Try.func11, Try.ntmps11
    go_wp2_with fail
    obtain ⟨w1, hw1⟩ : ∃ W, w.alloc (.cells #[] 3) = W := ⟨_, rfl⟩
    have B1 : Hid (Below w.heap.size w w1) := by show Below _ _ _; rw [← hw1]; repeat (first | exact Below.refl _ _ | apply Below.drew | refine Below.alloc ?_ (by simp <;> omega) _ | refine Below.setCell ?_ (by simp <;> omega) _)
    have O1 : Hid (OwnInts w1 w.heap.size (.slice (some ⟨w.heap.size, 0, none⟩) 0 0) []) := by show OwnInts _ _ _ _; rw [← hw1]; exact ownInts_nil rfl (Nat.le_refl _)
    rw [hw1]
    clear hw1
    go_loopw [5, 14] (fun s i wr => ∃ k : Nat, k ≤ m ∧ i = .int .i64 k ∧ OwnInts wr w.heap.size s ((l.take k).map (fun a => a.fr)) ∧ mvFine (l.take k) n = true ∧ Below w.heap.size w wr) (fun _ i _ => m - (intOf i).toNat)
    case atStart => exact ⟨0, Nat.zero_le _, rfl, O1.out, mvFine_nil n, B1.out⟩
    case round =>
      obtain ⟨wq, hwq⟩ : ∃ x, x = wr := ⟨_, rfl⟩
      subst hwq
      obtain ⟨k, hk, rfl, ho, hfi, hB⟩ := hrel
      have HO : Hid (OwnInts wq w.heap.size u5 ((l.take k).map (fun a => a.fr))) := ho
      have HF : Hid (mvFine (l.take k) n = true) := hfi
      have HB : Hid (Below w.heap.size w wq) := hB
      have hlen : ((l.take k).map (fun a => a.fr)).length = k := by have := HM.out; simp; omega
      have HLEN : Hid (((l.take k).map (fun a => a.fr)).length = k) := hlen
      clear ho hfi hB hlen
      by_cases hlt2 : (k : Int) < (m : Int)
      · obtain ⟨b, off, rfl, _, hc1⟩ := HC.out (by omega)
        have hkl : k < l.length := by have := HM.out; omega
        obtain ⟨x, HX⟩ : ∃ x, Hid (l[k]? = some x) := ⟨l[k], List.getElem?_eq_getElem hkl⟩
        obtain ⟨c0, c1⟩ := (hc1 k x HX.out).keep (Keeps.of_below HB.out 0) (Nat.zero_le _)
        have hsz := HB.out.size
        clear hc1 hkl
        obtain ⟨d, s⟩ := x
        dsimp only at c0 c1
        obtain ⟨bI, HI⟩ : ∃ q, Hid (mvIn ⟨d, s⟩ n = q) := ⟨_, rfl⟩
        go_wp2_with fail
        refine (moveWithin_any d s n _).mono ?_
        rw [HI.out]
        rintro e w2 ⟨rfl, b2⟩
        have B2 : Hid (Below (wq.heap.size + 1) (wq.alloc (.cells #[.int .i64 d, .int .i64 s] 44)) w2) := by
          have := b2
          rwa [show (wq.alloc (.cells #[.int .i64 d, .int .i64 s] 44)).heap.size = wq.heap.size + 1 by simp] at this
        have x0 : w2.cell? ⟨wq.heap.size, 0, none⟩ = some (.int .i64 d) := Bel.keeps b2 (by simp [go_sem])
        have x1 : w2.cell? ⟨wq.heap.size, 1, none⟩ = some (.int .i64 s) := Bel.keeps b2 (by simp [go_sem])
        have HO2 : Hid (OwnInts w2 w.heap.size u5 ((l.take k).map (fun a => a.fr))) := (HO.out.keep (Bel.alloc _ _)).keep b2
        have HB2 : Hid (Below w.heap.size w w2) := Bel.after (HB.out.alloc hsz _) b2
        have hsz2 := HB2.out.size
        clear b2
        cases bI with
        | false =>
          obtain rfl : R = false := by rw [← HR.out]; exact movesOk_not (mvFine_out (List.mem_of_getElem? HX.out) HI.out)
          go_wp2
          go_ret
          exact ⟨rfl, HB2.out⟩
        | true =>
          go_wp2_with fail
          refine (contains_any _ _ d _ HO2.out.at).mono ?_
          rintro e w3 ⟨⟨bC, rfl, hC⟩, rfl⟩
          have HC2 : Hid (bC = true ↔ d ∈ (l.take k).map (fun a => a.fr)) := hC
          clear hC
          cases bC with
          | true =>
            obtain rfl : R = false := by rw [← HR.out]; exact movesOk_not (mvFine_twice HX.out (HC2.out.1 rfl))
            go_wp2
            go_ret
            exact ⟨rfl, HB2.out⟩
          | false =>
            go_wp2_with (at_builtin; refine wpList_append_own _ rfl _ _ 25 rfl w.heap.size 3 i0 (.int .i64 0) 1 8 Try.underlying25 hi hz0 hz1 hz2 rfl (by decide) _ _ _ rfl (World.ownsRow.alloc HO2.out _) ⟨w3.heap.size, 0, none⟩ 1 1 [.int .i64 d] rfl rfl (by have h := cell_one_new w3 (.int .i64 d) 3; exact h) (by simp [Value.oneCell']) (by have := HLEN.out; omega) (by have := HLEN.out; omega) (by simp; omega) ?_; intro v' wa hown' hgrow hnil; have HO' : Hid (OwnInts wa w.heap.size v' ((l.take k).map (fun a => a.fr) ++ [d])) := OwnInts.next hown'; have HG : Hid (Below w.heap.size (w3.alloc _) wa) := ownsRow_under (World.ownsRow.alloc HO2.out _) (by simp; omega) hgrow; clear hown' hgrow hnil)
            go_roundw
            case rel =>
              refine ⟨k + 1, by omega, by go_num, ?_, mvFine_next HX.out HF.out HI.out (fun h => by cases HC2.out.2 h), (HB2.out.alloc hsz2 _).trans HG.out⟩
              rw [take_one_more HX.out, List.map_append]
              exact HO'.out
            case measure => simp [intOf]; omega
      · have hkm : k = m := by omega
        subst hkm
        obtain rfl : R = true := by
          rw [← HR.out]
          have := HF.out
          rw [List.take_of_length_le (by have := HM.out; omega)] at this
          exact movesOk_yes (by have := HM.out; omega) this
        go_wp2
        go_ret
        exact ⟨rfl, HB.out⟩

set_option maxHeartbeats 4000000 in
theorem spec_movesOk (v : Value) (l : List ArmD) (n : Int) (w : World) (ha : MovesAt w v l) :
    Calls Try.prog 14 #[v, .int .i64 n] w fun e w' => GivesBool w (movesOk l n) e w' := by
  obtain ⟨a, cap, rfl, hm, hc⟩ := ha
  obtain ⟨m, HM⟩ : ∃ m, Hid (l.length = m) := ⟨_, rfl⟩
  obtain ⟨R, HR⟩ : ∃ R, Hid (movesOk l n = R) := ⟨_, rfl⟩
  rw [HM.out] at hm hc ⊢
  rw [HR.out]
  have HC : Hid (0 < m → ∃ b off, a = some ⟨b, off, none⟩ ∧ 0 ≤ b ∧ ∀ i x, l[i]? = some x → ArmAt w b (off + i * 2) x) := hc
  clear hc
  go_enter Try.func14, Try.ntmps14
  go_wp2
  go_loopw [5] (fun i wr => ∃ k : Nat, k ≤ m ∧ i = .int .i64 k ∧ mvFine (l.take k) n = true ∧ Below w.heap.size w wr) (fun i _ => m - (intOf i).toNat)
  case atStart => exact ⟨0, Nat.zero_le _, rfl, mvFine_nil n, Below.refl _ _⟩
  case round =>
    obtain ⟨k, hk, rfl, hfi, hB⟩ := hrel
    have HF : Hid (mvFine (l.take k) n = true) := hfi
    have HB : Hid (Below w.heap.size w wr) := hB
    clear hfi hB
    by_cases hlt2 : (k : Int) < (m : Int)
    · obtain ⟨b, off, rfl, _, hc1⟩ := HC.out (by omega)
      have HC1 : Hid (∀ i x, l[i]? = some x → ArmAt w b (off + i * 2) x) := hc1
      have hkl : k < l.length := by have := HM.out; omega
      obtain ⟨x, HX⟩ : ∃ x, Hid (l[k]? = some x) := ⟨l[k], List.getElem?_eq_getElem hkl⟩
      obtain ⟨c0, c1⟩ := (hc1 k x HX.out).keep (Keeps.of_below HB.out 0) (Nat.zero_le _)
      clear hc1 hkl
      obtain ⟨d, s⟩ := x
      dsimp only at c0 c1
      have HC0 : Hid (w.cell? ⟨b, off + k * 2, none⟩ = some (.int .i64 d)) := (HC1.out k _ HX.out).1
      cases hI : mvIn ⟨d, s⟩ n with
      | false =>
        obtain rfl : R = false := by rw [← HR.out]; exact movesOk_not (mvFine_out (List.mem_of_getElem? HX.out) hI)
        have hno : d < 0 ∨ d ≥ n ∨ s < 0 ∨ s ≥ n := by simp [mvIn] at hI; omega
        clear hI
        by_cases h1 : d < 0
        · go_wp2
          go_ret
          exact ⟨rfl, HB.out⟩
        · by_cases h2 : d ≥ n
          · go_wp2
            go_ret
            exact ⟨rfl, HB.out⟩
          · by_cases h3 : s < 0
            · go_wp2
              go_ret
              exact ⟨rfl, HB.out⟩
            · have h4 : s ≥ n := by omega
              go_wp2
              go_ret
              exact ⟨rfl, HB.out⟩
      | true =>
        have HI : Hid (mvIn ⟨d, s⟩ n = true) := hI
        obtain ⟨h1, h2, h3, h4⟩ := mvIn_iff.1 hI
        dsimp only at h1 h2 h3 h4
        have g1 : ¬ d < 0 := by omega
        have g2 : ¬ d ≥ n := by omega
        have g3 : ¬ s < 0 := by omega
        have g4 : ¬ s ≥ n := by omega
        clear h1 h2 h3 h4 hI
        go_wp2
        clear c0 c1
        go_loopw [6] (fun i w2 => ∃ j : Nat, j ≤ k ∧ i = .int .i64 j ∧ d ∉ (l.take j).map (fun a => a.fr) ∧ Below w.heap.size w w2) (fun i _ => k - (intOf i).toNat)
        case atStart => exact ⟨0, Nat.zero_le _, rfl, by simp, HB.out⟩
        case round =>
          obtain ⟨j, hj, rfl, hno, hB2⟩ := hrel
          have HNO : Hid (d ∉ (l.take j).map (fun a => a.fr)) := hno
          have HB2 : Hid (Below w.heap.size w wr) := hB2
          have c0 := Bel.keeps hB2 HC0.out
          clear hno hB2
          by_cases hlt3 : (j : Int) < (k : Int)
          · have hjl : j < l.length := by have := HM.out; omega
            obtain ⟨y, HY⟩ : ∃ y, Hid (l[j]? = some y) := ⟨l[j], List.getElem?_eq_getElem hjl⟩
            have q0 := Bel.keeps HB2.out (HC1.out j y HY.out).1
            obtain ⟨d2, s2⟩ := y
            dsimp only at q0
            clear hjl
            by_cases hd : d2 = d
            · subst hd
              have hee : (d2 == d2) = true := by simp
              obtain rfl : R = false := by
                rw [← HR.out]
                exact movesOk_not (mvFine_twice HX.out (List.mem_map.2 ⟨⟨d2, s2⟩, List.mem_of_getElem? (i := j) (by rw [List.getElem?_take_of_lt (by omega)]; exact HY.out), rfl⟩))
              go_wp2
              go_quiet (fail)
              go_wp2
              go_ret
              exact ⟨rfl, Bel.drewN HB2.out _⟩
            · have hee : (d2 == d) = false := by simpa using hd
              have HD : Hid (¬ d2 = d) := hd
              clear hd
              go_wp2
              go_quiet (fail)
              go_wp2
              go_roundw
              case rel =>
                refine ⟨j + 1, by omega, by go_num, ?_, Bel.drewN HB2.out _⟩
                rw [take_one_more HY.out, List.map_append]
                intro h
                rcases List.mem_append.1 h with h | h
                · exact HNO.out h
                · simp at h; exact HD.out h.symm
              case measure => simp [intOf]; omega
          · have hjk : j = k := by omega
            subst hjk
            go_wp2
            go_roundw
            case rel => exact ⟨j + 1, by omega, by go_num, mvFine_next HX.out HF.out HI.out HNO.out, HB2.out⟩
            case measure => simp [intOf]; omega
    · have hkm : k = m := by omega
      subst hkm
      have hfa : mvFine l n = true := by
        have := HF.out
        rwa [List.take_of_length_le (by have := HM.out; omega)] at this
      have HFA : Hid (mvFine l n = true) := hfa
      clear hfa
      by_cases h24 : (k : Int) ≤ 24
      · obtain rfl : R = true := by rw [← HR.out]; exact movesOk_yes (by have := HM.out; omega) HFA.out
        go_wp2
        go_ret
        exact ⟨rfl, HB.out⟩
      · obtain rfl : R = false := by rw [← HR.out]; exact movesOk_long (by have := HM.out; omega)
        go_wp2
        go_ret
        exact ⟨rfl, HB.out⟩
end Go.Proofs.Ytijihgkhdknkeaa
