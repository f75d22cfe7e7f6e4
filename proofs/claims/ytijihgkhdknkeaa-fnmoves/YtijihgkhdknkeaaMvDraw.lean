/- The drawn lists of moves and of numbers. -/
import Derived.Test.YtijihgkhdknkeaaMvSp2
namespace Go.Proofs.Ytijihgkhdknkeaa
open Go.ChangeShapes Go.WideShapes Go.ChangeAt Go.RowKit
set_option linter.unusedVariables false

theorem Fr.newer {p : Nat} {a w w' : World} (h : Fr p a w) (hb : Below a.heap.size w w') : Fr p a w' :=
  ⟨hb.os.trans h.os, hb.tape.trans h.tape, hb.output.trans h.output, Nat.le_trans h.size hb.size, fun k hk hp => (hb.block k hk).trans (h.block k hk hp)⟩
theorem OwnMoves.frc {w w' : World} {lo p : Nat} {v : Value} {l : List ArmD} (h : OwnMoves w lo v l) (hf : Fr p w w') (hp : p < lo) : OwnMoves w' lo v l := by
  obtain ⟨h0, h1⟩ := h
  refine ⟨h0, ?_⟩
  rcases h1 with h1 | ⟨g, cap, cur, rfl, hlo, hg, h2⟩
  · exact .inl h1
  · exact .inr ⟨g, cap, cur, rfl, hlo, (hf.block g (Array.getElem?_eq_some_iff.1 hg).1 (by omega)).trans hg, h2⟩
theorem OwnInts.frc {w w' : World} {lo p : Nat} {v : Value} {l : List Int} (h : OwnInts w lo v l) (hf : Fr p w w') (hp : p < lo) : OwnInts w' lo v l := by
  obtain ⟨h0, h1⟩ := h
  refine ⟨h0, ?_⟩
  rcases h1 with h1 | ⟨g, cap, cur, rfl, hlo, hg, h2⟩
  · exact .inl h1
  · exact .inr ⟨g, cap, cur, rfl, hlo, (hf.block g (Array.getElem?_eq_some_iff.1 hg).1 (by omega)).trans hg, h2⟩
theorem OwnMoves.open' {w : World} {lo : Nat} {v : Value} {l : List ArmD} (h : OwnMoves w lo v l) (hn : v ≠ .slice none 0 0) {k : Nat} (hk : l.length = k) : ∃ g cap, v = .slice (some ⟨g, 0, none⟩) k cap ∧ k ≤ cap ∧ cap ≤ maxLen ∧ lo ≤ g ∧ g < w.heap.size := by
  rcases h.2 with ⟨h0, _⟩ | ⟨g, cap, cur, h0, h1, h2, h3, h4, _⟩
  · exact absurd h0 hn
  · exact ⟨g, cap, by rw [h0, hk], by omega, h4, h1, (Array.getElem?_eq_some_iff.1 h2).1⟩
theorem OwnInts.open' {w : World} {lo : Nat} {v : Value} {l : List Int} (h : OwnInts w lo v l) (hn : v ≠ .slice none 0 0) {k : Nat} (hk : l.length = k) : ∃ g cap, v = .slice (some ⟨g, 0, none⟩) k cap ∧ k ≤ cap ∧ cap ≤ maxLen ∧ lo ≤ g ∧ g < w.heap.size := by
  rcases h.2 with ⟨h0, _⟩ | ⟨g, cap, cur, h0, h1, h2, h3, h4, _⟩
  · exact absurd h0 hn
  · exact ⟨g, cap, by rw [h0, hk], by omega, h4, h1, (Array.getElem?_eq_some_iff.1 h2).1⟩
/-- D of one move is turned. -/
theorem OwnMoves.setD {w : World} {lo g n cap : Nat} {l : List ArmD} (h : OwnMoves w lo (.slice (some ⟨g, 0, none⟩) n cap) l) {i : Nat} {x : ArmD} (hx : l[i]? = some x) (z : Int) : OwnMoves (w.setCell ⟨g, i * 2, none⟩ (.int .i64 z)) lo (.slice (some ⟨g, 0, none⟩) n cap) (l.set i ⟨z, x.v⟩) := by
  have hi := (List.getElem?_eq_some_iff.1 hx).1
  rcases h with ⟨h00, h⟩
  rcases h with ⟨h0, _⟩ | ⟨g', cap', cur, h0, hlo, hg, h1, h2, h3, h4⟩
  · cases h0
  · cases h0
    refine ⟨by rw [moveC_len], .inr ⟨g, cap, cur.setIfInBounds (i * 2) (.int .i64 z), by simp, hlo, heap_setCell_same _ _ _ _ _ _ hg, by simpa using h1, by simpa using h2, by simpa using h3, ?_⟩⟩
    have e : (cur.setIfInBounds (i * 2) (Value.int .i64 z)).toList = cur.toList.set (i * 2) (.int .i64 z) := by simp
    rw [e, List.length_set, List.take_set, h4]
    clear e h4 h3 h2 h1 hg h00
    revert i x
    induction l with
    | nil => intro i x hx; simp at hx
    | cons y l ih =>
      intro i x hx hi
      cases i with
      | zero =>
        simp at hx
        subst hx
        rfl
      | succ i =>
        simp at hx hi
        have := ih hx hi
        rw [show (i + 1) * 2 = i * 2 + 1 + 1 by omega]
        simp only [moveC, List.set_cons_succ]
        rw [this]
theorem OwnMoves.setBoth {w : World} {lo g n cap : Nat} {l : List ArmD} (h : OwnMoves w lo (.slice (some ⟨g, 0, none⟩) n cap) l) {i : Nat} (hi : i < l.length) (a b : Int) : OwnMoves ((w.setCell ⟨g, i * 2, none⟩ (.int .i64 a)).setCell ⟨g, i * 2 + 1, none⟩ (.int .i64 b)) lo (.slice (some ⟨g, 0, none⟩) n cap) (l.set i ⟨a, b⟩) := by
  have h1 := h.setD (List.getElem?_eq_getElem hi) a
  have h2 := h1.setS (i := i) (x := ⟨a, l[i].v⟩) (by simp [hi]) b
  rwa [List.set_set] at h2
/-- A drawn list so far: of at most N, in memory of its own. -/
def DrawnMoves (lo N : Nat) (w : World) (v : Value) : Prop := ∃ l, OwnMoves w lo v l ∧ l.length ≤ N ∧ v ≠ .slice none 0 0
theorem DrawnMoves.keep {lo N : Nat} {w w' : World} {v : Value} (h : DrawnMoves lo N w v) (hb : Below w.heap.size w w') : DrawnMoves lo N w' v := by
  obtain ⟨l, h1, h2⟩ := h
  exact ⟨l, h1.keep hb, h2⟩
theorem DrawnMoves.frc {lo N p : Nat} {w w' : World} {v : Value} (h : DrawnMoves lo N w v) (hf : Fr p w w') (hp : p < lo) : DrawnMoves lo N w' v := by
  obtain ⟨l, h1, h2⟩ := h
  exact ⟨l, h1.frc hf hp, h2⟩
theorem DrawnMoves.mono {lo N N' : Nat} {w : World} {v : Value} (h : DrawnMoves lo N w v) (hN : N ≤ N') : DrawnMoves lo N' w v := by
  obtain ⟨l, h1, h2, h3⟩ := h
  exact ⟨l, h1, by omega, h3⟩
theorem DrawnMoves.slice {lo N : Nat} {w : World} {v : Value} (h : DrawnMoves lo N w v) : ∃ a k c, v = .slice a k c ∧ k ≤ N := by
  obtain ⟨l, h1, h2, h3⟩ := h
  obtain ⟨a, c, e⟩ := h1.form rfl
  exact ⟨a, _, c, e, h2⟩
def GivesDrawn (w : World) (C : Nat) (e : Ending) (w' : World) : Prop := ∃ v n, e = .returned (.tuple #[v, .int .i64 n]) ∧ DrawnMoves w.heap.size 26 w' v ∧ 1 ≤ n ∧ n ≤ 26 ∧ Fr C w w' ∧ Cur w' C
/-- What a draw's part leaves. -/
def DrawAtW (w : World) (C N : Nat) (wr : World) (v : Value) : Prop := DrawnMoves w.heap.size N wr v ∧ Fr C w wr ∧ Cur wr C
/-- The list lies in block g, m long, whatever it is. -/
def InRow (w : World) (C g m cap : Nat) (wr : World) : Prop := ∃ l, OwnMoves wr w.heap.size (.slice (some ⟨g, 0, none⟩) m cap) l ∧ l.length = m ∧ Fr C w wr ∧ Cur wr C
theorem InRow.fr {w wr w' : World} {C g m cap : Nat} (h : InRow w C g m cap wr) (hC : C < w.heap.size) (hf : Fr C wr w') (hc : Cur w' C) : InRow w C g m cap w' := by
  obtain ⟨l, h1, h2, h3, h4⟩ := h
  exact ⟨l, h1.frc hf hC, h2, h3.trans hf, hc⟩
theorem DrawAtW.fr {w wr w' : World} {C N : Nat} {v : Value} (h : DrawAtW w C N wr v) (hC : C < w.heap.size) (hf : Fr C wr w') (hc : Cur w' C) : DrawAtW w C N w' v := ⟨h.1.frc hf hC, h.2.1.trans hf, hc⟩
theorem DrawAtW.pushed {w wr wa : World} {C N : Nat} {v v' : Value} {l : List ArmD} {x : ArmD} {o : Obj} (h : DrawAtW w C N wr v) (hC : C < w.heap.size) (hl : l.length ≤ N) (ho : OwnMoves wa w.heap.size v' (l ++ [x])) (hg : Below w.heap.size (wr.alloc o) wa) (hn : v' ≠ .slice none 0 0) : DrawAtW w C (N + 1) wa v' := by
  have hsz : w.heap.size ≤ wr.heap.size := h.2.1.size
  have hb : Below w.heap.size wr wa := ((Below.refl w.heap.size wr).alloc hsz o).trans hg
  exact ⟨⟨_, ho, by simp; omega, hn⟩, h.2.1.newer hb, h.2.2.below hC hb⟩
theorem DrawAtW.turned {w wr wa : World} {C N : Nat} {v : Value} {l : List ArmD} (h : DrawAtW w C N wr v) (hC : C < w.heap.size) (hl : l.length ≤ N) (ho : OwnMoves wa w.heap.size v l) (hb : Below w.heap.size wr wa) : DrawAtW w C N wa v :=
  ⟨⟨l, ho, hl, by obtain ⟨_, _, _, hn⟩ := h.1; exact hn⟩, h.2.1.newer hb, h.2.2.below hC hb⟩

set_option maxRecDepth 100000 in
set_option maxHeartbeats 20000000 in
theorem l9Draw_any (C : Nat) (w : World) (hc : Cur w C) :
    Calls Try.prog 43 #[.pointer (some ⟨C, 0, none⟩)] w fun e w' => GivesDrawn w C e w' := by
  have HC0 : Hid (Cur w C) := hc
  have hC : C < w.heap.size := hc.lt
  clear hc
  obtain ⟨i0, hi, hz0, hz1, hz2⟩ := info_parts info_move
  have hmx : 20000 ≤ maxLen := by decide
  go_enter Try.func43, Try.ntmps43
  go_wp2_with fail
  refine (below_any C 7 _ HC0.out).mono ?_
  rintro e w1 ⟨x, rfl, hx0, hx1, _, f1, c1⟩
  have hx7 := hx1 (by omega)
  obtain ⟨n, HN⟩ : ∃ n : Nat, Hid ((n : Int) = 1 + x) := ⟨(1 + x).toNat, by show _ = _; omega⟩
  have hn1 : 1 ≤ n := by have := HN.out; omega
  have hn7 : n ≤ 7 := by have := HN.out; omega
  have F1 : Hid (Fr C w w1) := f1
  have C1 : Hid (Cur w1 C) := c1
  have hs1 := f1.size
  have hxw : IntKind.i64.wrap (1 + x) = (n : Int) := by rw [HN.out]; simp [IntKind.wrap, IntKind.bits, IntKind.signed]; omega
  have hxn : 1 + x = (n : Int) := HN.out.symm
  clear f1 c1 hx1
  go_wp2_with fail
  clear hxw hxn
  have D2 : Hid (DrawAtW w C 0 (w1.alloc (.cells #[] 44)) (.slice (some ⟨w1.heap.size, 0, none⟩) 0 0)) := ⟨⟨[], ownMoves_nil (w := w) (World.alloc_heap_new w1 _) hs1, Nat.le_refl _, by simp⟩, F1.out.alloc _, C1.out.later (Bel.alloc _ _)⟩
  generalize w1.alloc (.cells #[] 44) = w2 at D2 ⊢
  generalize hsl : Value.slice (some ⟨w1.heap.size, 0, none⟩) 0 0 = v2 at D2 ⊢
  clear hsl
  go_loopw [5, 6] (fun s i wr => ∃ k : Nat, k ≤ n ∧ i = .int .i64 k ∧ DrawAtW w C k wr s) (fun _ i _ => n - (intOf i).toNat)
  case atStart => exact ⟨0, Nat.zero_le _, rfl, D2.out⟩
  case round =>
    obtain ⟨k, hk, rfl, hd⟩ := hrel
    have HD : Hid (DrawAtW w C k wr u5) := hd
    clear hd
    by_cases hlt : (k : Int) < (n : Int)
    · go_wp2_with fail
      refine (once_any C 3 _ HD.out.2.2).mono ?_
      rintro e w3 ⟨q, rfl, f3, c3⟩
      have HD3 : Hid (DrawAtW w C k w3 u5) := HD.out.fr hC f3 c3
      clear f3 c3
      cases q with
      | true =>
        go_wp2_with fail
        go_roundw
        case rel => exact ⟨k + 1, by omega, by go_num, ⟨HD3.out.1.mono (by omega), HD3.out.2.1, HD3.out.2.2⟩⟩
        case measure => simp [intOf]; omega
      | false =>
        go_wp2_with fail
        refine (below_any C (n : Int) _ HD3.out.2.2).mono ?_
        rintro e w4 ⟨y, rfl, _, _, _, f4, c4⟩
        have HD4 : Hid (DrawAtW w C k w4 u5) := HD3.out.fr hC f4 c4
        clear f4 c4
        obtain ⟨l, ho, hll, _⟩ := HD4.out.1
        have HO4 : Hid (OwnMoves w4 w.heap.size u5 l) := ho
        have hs4 := HD4.out.2.1.size
        clear ho
        go_wp2_with (at_builtin; refine wpList_append_own _ rfl _ _ 24 rfl w.heap.size 44 i0 (.agg #[.int .i64 0, .int .i64 0]) 2 16 Try.underlying24 hi hz0 hz1 hz2 rfl (by decide) _ l.length (moveC l) rfl (World.ownsRow.alloc HO4.out _) ⟨w4.heap.size, 0, none⟩ 1 1 [.int .i64 (k : Int), .int .i64 y] rfl rfl (cells_duo w4 _ _ _) (by simp [Value.oneCell']) (by omega) (by omega) (by simp; omega) ?_; intro v' wa hown' hgrow hnil; have HO' : Hid (OwnMoves wa w.heap.size v' (l ++ [⟨(k : Int), y⟩])) := OwnMoves.next hown'; have HG : Hid (Below w.heap.size (w4.alloc (.cells #[.int .i64 (k : Int), .int .i64 y] 44)) wa) := ownsRow_under (World.ownsRow.alloc HO4.out _) (by simp; omega) hgrow; have HN' : Hid (v' ≠ .slice none 0 0) := (fun h => absurd (hnil.1 h).2 (by omega)); clear hown' hgrow hnil)
        go_roundw
        case rel => exact ⟨k + 1, by omega, by go_num, HD4.out.pushed hC hll HO'.out HG.out HN'.out⟩
        case measure => simp [intOf]; omega
    · have hkn : k = n := by omega
      subst hkn
      obtain ⟨l, ho, hll, hnn⟩ := HD.out.1
      obtain ⟨m, HM⟩ : ∃ m, Hid (l.length = m) := ⟨_, rfl⟩
      obtain ⟨g, cap, rfl, hmc, hcm, hglo, hglt⟩ := ho.open' hnn HM.out
      have hm7 : m ≤ 7 := by have := HM.out; omega
      have HO : Hid (OwnMoves wr w.heap.size (.slice (some ⟨g, 0, none⟩) m cap) l) := ho
      have HW : Hid (InRow w C g m cap wr) := ⟨l, ho, HM.out, HD.out.2⟩
      clear ho hll hnn
      by_cases h1m : (m : Int) > 1
      · go_wp2_with fail
        refine (once_any C 3 _ (by obtain ⟨_, _, _, _, h⟩ := HW.out; exact h)).mono ?_
        rintro e w3 ⟨q, rfl, f3, c3⟩
        have HW3 : Hid (InRow w C g m cap w3) := HW.out.fr hC f3 c3
        clear f3 c3
        cases q with
        | true =>
          go_wp2_with fail
          go_loopw [7] (fun i wr => ∃ j : Nat, j ≤ m ∧ i = .int .i64 j ∧ InRow w C g m cap wr) (fun i _ => m - (intOf i).toNat)
          case atStart => exact ⟨0, Nat.zero_le _, rfl, HW3.out⟩
          case round =>
            obtain ⟨j, hj, rfl, hin⟩ := hrel
            have HIN : Hid (InRow w C g m cap wr) := hin
            clear hin
            by_cases hlt9 : (j : Int) < (m : Int)
            · obtain ⟨l5, o5, hl5, F5, C5⟩ := HIN.out
              have HO5 : Hid (OwnMoves wr w.heap.size (.slice (some ⟨g, 0, none⟩) m cap) l5) := o5
              have HL5 : Hid (l5.length = m) := hl5
              have HF5 : Hid (Fr C w wr) := F5
              have HC5 : Hid (Cur wr C) := C5
              obtain ⟨r, HRM⟩ : ∃ r, Hid ((j + 1) % m = r) := ⟨_, rfl⟩
              have hrm : r < m := by rw [← HRM.out]; exact Nat.mod_lt _ (by omega)
              have hrem : Int.tmod ((j : Int) + 1) (m : Int) = (r : Int) := by rw [← HRM.out]; exact (Int.natCast_emod (j + 1) m).symm ▸ (Int.tmod_eq_emod_of_nonneg (by omega))
              obtain ⟨x1, hx1⟩ : ∃ x, l5[j]? = some x := ⟨_, List.getElem?_eq_getElem (by omega)⟩
              obtain ⟨x2, hx2⟩ : ∃ x, l5[r]? = some x := ⟨_, List.getElem?_eq_getElem (by omega)⟩
              have HX1 : Hid (l5[j]? = some x1) := hx1
              obtain ⟨p0, p1⟩ := o5.cellAt hx1
              obtain ⟨q0, q1⟩ := o5.cellAt hx2
              obtain ⟨a1, b1⟩ := x1
              obtain ⟨a2, b2⟩ := x2
              dsimp only at p0 p1 q0 q1
              have fz1 := frozen_of_cells o5.heapOf (j * 2 + 1)
              clear o5 hl5 F5 C5 hx1 hx2
              go_wp2_with fail
              refine ⟨⟨j + 1, by omega, by go_num, _, HO5.out.setS HX1.out a2, by rw [List.length_set]; exact HL5.out, HF5.out.newer ((Below.refl _ _).setCell (p := ⟨g, j * 2 + 1, none⟩) hglo _), HC5.out.below hC ((Below.refl _ _).setCell (p := ⟨g, j * 2 + 1, none⟩) hglo _)⟩, by simp [intOf]; omega⟩
            · have HWC : Hid (InRow w C g m cap wr) := HIN.out
              clear HIN HW3 HW
              have HW : Hid (InRow w C g m cap wr) := HWC.out
              clear HWC
              go_wp2_with fail
              go_loopw [8] (fun i wr => ∃ j : Nat, j ≤ m ∧ i = .int .i64 j ∧ InRow w C g m cap wr) (fun i _ => m - (intOf i).toNat)
              case atStart => exact ⟨0, Nat.zero_le _, rfl, HW.out⟩
              case round =>
                obtain ⟨j, hj, rfl, hin⟩ := hrel
                have HIN : Hid (InRow w C g m cap wr) := hin
                clear hin
                by_cases hlt9 : (j : Int) < (m : Int)
                · go_wp2_with fail
                  refine (below_any C (m : Int) _ (by obtain ⟨_, _, _, _, h⟩ := HIN.out; exact h)).mono ?_
                  rintro e w5 ⟨y, rfl, hy0, hy1, _, f5, c5⟩
                  have hym := hy1 (by omega)
                  obtain ⟨y, rfl⟩ := Int.eq_ofNat_of_zero_le hy0
                  have HIN5 : Hid (InRow w C g m cap w5) := HIN.out.fr hC f5 c5
                  clear f5 c5 hy1
                  obtain ⟨l5, o5, hl5, F5, C5⟩ := HIN5.out
                  have HO5 : Hid (OwnMoves w5 w.heap.size (.slice (some ⟨g, 0, none⟩) m cap) l5) := o5
                  have HL5 : Hid (l5.length = m) := hl5
                  obtain ⟨x1, hx1⟩ : ∃ x, l5[j]? = some x := ⟨_, List.getElem?_eq_getElem (by omega)⟩
                  obtain ⟨x2, hx2⟩ : ∃ x, l5[y]? = some x := ⟨_, List.getElem?_eq_getElem (by omega)⟩
                  obtain ⟨p0, p1⟩ := o5.cellAt hx1
                  obtain ⟨q0, q1⟩ := o5.cellAt hx2
                  obtain ⟨a1, b1⟩ := x1
                  obtain ⟨a2, b2⟩ := x2
                  dsimp only at p0 p1 q0 q1
                  have hg5 : w.heap.size ≤ g ∧ g < w5.heap.size := o5.lt g rfl
                  obtain ⟨hg5a, hg5b⟩ := hg5
                  have fz := frozen_of_cells o5.heapOf
                  have fz0 := fz (j * 2)
                  have fz1 := fz (j * 2 + 1)
                  have fz2 := fz (y * 2)
                  have fz3 := fz (y * 2 + 1)
                  have hs5 : w.heap.size ≤ w5.heap.size := F5.size
                  have HF5 : Hid (Fr C w w5) := F5
                  have HC5 : Hid (Cur w5 C) := C5
                  clear o5 hl5 F5 C5 fz hx1 hx2
                  by_cases hjy : j = y
                  · subst hjy
                    obtain rfl : a1 = a2 := by have := p0.symm.trans q0; simpa using this
                    obtain rfl : b1 = b2 := by have := p1.symm.trans q1; simpa using this
                    go_wp2_with fail
                    refine ⟨⟨j + 1, by omega, by go_num, _, World.ownsRow.alloc ((HO5.out.setBoth (i := j) (by have := HL5.out; omega) a1 b1).setBoth (i := j) (by rw [List.length_set]; have := HL5.out; omega) a1 b1) _, by rw [List.length_set, List.length_set]; exact HL5.out, HF5.out.newer ?_, HC5.out.below hC ?_⟩, by simp [intOf]; omega⟩
                    all_goals
                      refine Below.alloc ?_ (by simpa using hs5) _
                      exact ((((Below.refl _ _).setCell (p := ⟨g, j * 2, none⟩) hg5a _).setCell (p := ⟨g, j * 2 + 1, none⟩) hg5a _).setCell (p := ⟨g, j * 2, none⟩) hg5a _).setCell (p := ⟨g, j * 2 + 1, none⟩) hg5a _
                  · have e1 : ¬ j * 2 = y * 2 := by omega
                    have e2 : ¬ j * 2 + 1 = y * 2 := by omega
                    have e3 : ¬ j * 2 = y * 2 + 1 := by omega
                    have e4 : ¬ j * 2 + 1 = y * 2 + 1 := by omega
                    go_wp2_with fail
                    refine ⟨⟨j + 1, by omega, by go_num, _, World.ownsRow.alloc ((HO5.out.setBoth (i := j) (by have := HL5.out; omega) a2 b2).setBoth (i := y) (by rw [List.length_set]; have := HL5.out; omega) a1 b1) _, by rw [List.length_set, List.length_set]; exact HL5.out, HF5.out.newer ?_, HC5.out.below hC ?_⟩, by simp [intOf]; omega⟩
                    all_goals
                      refine Below.alloc ?_ (by simpa using hs5) _
                      exact ((((Below.refl _ _).setCell (p := ⟨g, j * 2, none⟩) hg5a _).setCell (p := ⟨g, j * 2 + 1, none⟩) hg5a _).setCell (p := ⟨g, y * 2, none⟩) hg5a _).setCell (p := ⟨g, y * 2 + 1, none⟩) hg5a _
                · obtain ⟨l9, HW9⟩ : ∃ l9, Hid (OwnMoves wr w.heap.size (.slice (some ⟨g, 0, none⟩) m cap) l9 ∧ l9.length = m ∧ Fr C w wr ∧ Cur wr C) := HIN.out
                  clear HIN
                  go_wp2_with fail
                  refine (below_any C 20 _ HW9.out.2.2.2).mono ?_
                  rintro e w9 ⟨z, rfl, hz0', hz1', _, f9, c9⟩
                  have HA9 : Hid (DrawAtW w C 7 w9 (.slice (some ⟨g, 0, none⟩) m cap)) := DrawAtW.fr ⟨⟨_, HW9.out.1, by have := HW9.out.2.1; omega, by simp⟩, HW9.out.2.2.1, HW9.out.2.2.2⟩ hC f9 c9
                  clear f9 c9 HW9
                  by_cases hza : z = 0
                  · subst hza
                    have hk2 : IntKind.i64.wrap ((k : Int) + 2) = (k : Int) + 2 := by simp [IntKind.wrap, IntKind.bits, IntKind.signed]; omega
                    go_wp2_with fail
                    refine (below_any C ((k : Int) + 2) _ HA9.out.2.2).mono ?_
                    rintro e w10 ⟨y1, rfl, _, hy1, _, f10, c10⟩
                    have hy1' := hy1 (by omega)
                    have HA10 : Hid (DrawAtW w C 7 w10 (.slice (some ⟨g, 0, none⟩) m cap)) := HA9.out.fr hC f10 c10
                    clear f10 c10 hy1
                    go_wp2_with fail
                    refine (below_any C ((k : Int) + 2) _ HA10.out.2.2).mono ?_
                    rintro e w11 ⟨y2, rfl, _, hy2, _, f11, c11⟩
                    have hy2' := hy2 (by omega)
                    have HA11 : Hid (DrawAtW w C 7 w11 (.slice (some ⟨g, 0, none⟩) m cap)) := HA10.out.fr hC f11 c11
                    clear f11 c11 hy2
                    obtain ⟨l11, ho11, hll11, _⟩ := HA11.out.1
                    have HO11 : Hid (OwnMoves w11 w.heap.size (.slice (some ⟨g, 0, none⟩) m cap) l11) := ho11
                    have hs11 := HA11.out.2.1.size
                    clear ho11
                    obtain ⟨u1, HU1⟩ : ∃ u, Hid (y1 - 1 = u) := ⟨_, rfl⟩
                    obtain ⟨u2, HU2⟩ : ∃ u, Hid (y2 - 1 = u) := ⟨_, rfl⟩
                    have hu1 : y1 - 1 = u1 := HU1.out
                    have hu2 : y2 - 1 = u2 := HU2.out
                    go_wp2_with (at_builtin; refine wpList_append_own _ rfl _ _ 24 rfl w.heap.size 44 i0 (.agg #[.int .i64 0, .int .i64 0]) 2 16 Try.underlying24 hi hz0 hz1 hz2 rfl (by decide) _ l11.length (moveC l11) rfl (World.ownsRow.alloc HO11.out _) ⟨w11.heap.size, 0, none⟩ 1 1 [.int .i64 u1, .int .i64 u2] rfl rfl (cells_duo w11 _ _ _) (by simp [Value.oneCell']) (by omega) (by omega) (by simp; omega) ?_; intro v' wa hown' hgrow hnil; have HO' : Hid (OwnMoves wa w.heap.size v' (l11 ++ [⟨u1, u2⟩])) := OwnMoves.next hown'; have HG : Hid (Below w.heap.size (w11.alloc (.cells #[.int .i64 u1, .int .i64 u2] 44)) wa) := ownsRow_under (World.ownsRow.alloc HO11.out _) (by simp; omega) hgrow; have HN' : Hid (v' ≠ .slice none 0 0) := (fun h => absurd (hnil.1 h).2 (by omega)); clear hown' hgrow hnil)
                    go_ret2
                    have h9 := HA11.out.pushed hC hll11 HO'.out HG.out HN'.out
                    exact ⟨_, _, rfl, h9.1.mono (by omega), by omega, by omega, h9.2⟩
                  · by_cases hzb : z = 1
                    · subst hzb
                      clear hza
                      have DN : Hid (OwnMoves w9 w.heap.size (.slice none 0 0) [] ∧ Fr C w w9 ∧ Cur w9 C) := ⟨World.ownsRow_nil _ _ _ _, HA9.out.2⟩
                      go_wp2_with fail
                      go_loopw [5, 11] (fun s i wr => ∃ (d : Nat) (l : List ArmD), d ≤ 25 ∧ i = .int .i64 d ∧ OwnMoves wr w.heap.size s l ∧ l.length ≤ d ∧ (0 < d → s ≠ .slice none 0 0) ∧ Fr C w wr ∧ Cur wr C) (fun _ i _ => 26 - (intOf i).toNat)
                      case atStart => exact ⟨0, [], Nat.zero_le _, rfl, DN.out.1, Nat.le_refl _, fun h => absurd h (by omega), DN.out.2⟩
                      case round =>
                        obtain ⟨d, l10, hd25, rfl, ho10, hl10, hn10, F10, C10⟩ := hrel
                        have HO10 : Hid (OwnMoves wr w.heap.size u5 l10) := ho10
                        have HN10 : Hid (0 < d → u5 ≠ .slice none 0 0) := hn10
                        have HF10 : Hid (Fr C w wr) := F10
                        have HC10 : Hid (Cur wr C) := C10
                        clear ho10 hn10 F10 C10
                        go_wp2_with fail
                        refine (below_any C 2 _ HC10.out).mono ?_
                        rintro e w12 ⟨y, rfl, hy0, hy1, _, f12, c12⟩
                        have hy2 := hy1 (by omega)
                        have HO12 : Hid (OwnMoves w12 w.heap.size u5 l10) := HO10.out.frc f12 hC
                        have HF12 : Hid (Fr C w w12) := HF10.out.trans f12
                        have HC12 : Hid (Cur w12 C) := c12
                        have hs12 := HF12.out.size
                        clear f12 c12 hy1
                        by_cases hdl : (d : Int) < 24 + y
                        · have hd1 : IntKind.i64.wrap ((d : Int) + 1) = (d : Int) + 1 := by simp [IntKind.wrap, IntKind.bits, IntKind.signed]; omega
                          go_wp2_with (at_builtin; refine wpList_append_own _ rfl _ _ 24 rfl w.heap.size 44 i0 (.agg #[.int .i64 0, .int .i64 0]) 2 16 Try.underlying24 hi hz0 hz1 hz2 rfl (by decide) _ l10.length (moveC l10) rfl (World.ownsRow.alloc HO12.out _) ⟨w12.heap.size, 0, none⟩ 1 1 [.int .i64 (d : Int), .int .i64 ((d : Int) + 1)] rfl rfl (cells_duo w12 _ _ _) (by simp [Value.oneCell']) (by omega) (by omega) (by simp; omega) ?_; intro v' wa hown' hgrow hnil; have HO' : Hid (OwnMoves wa w.heap.size v' (l10 ++ [⟨(d : Int), ((d : Int) + 1)⟩])) := OwnMoves.next hown'; have HG : Hid (Below w.heap.size (w12.alloc (.cells #[.int .i64 (d : Int), .int .i64 ((d : Int) + 1)] 44)) wa) := ownsRow_under (World.ownsRow.alloc HO12.out _) (by simp; omega) hgrow; have HN' : Hid (v' ≠ .slice none 0 0) := (fun h => absurd (hnil.1 h).2 (by omega)); clear hown' hgrow hnil)
                          go_roundw
                          case rel =>
                            have hb : Below w.heap.size w12 wa := ((Below.refl w.heap.size w12).alloc hs12 _).trans HG.out
                            exact ⟨d + 1, _, by omega, by go_num, HO'.out, by simp; omega, fun _ => HN'.out, HF12.out.newer hb, HC12.out.below hC hb⟩
                          case measure => simp [intOf]; omega
                        · go_wp2_with fail
                          go_ret2
                          exact ⟨_, _, rfl, ⟨l10, HO12.out, by omega, HN10.out (by omega)⟩, by omega, by omega, HF12.out, HC12.out⟩
                    · have hz2 : (z == 0) = false := by simpa using hza
                      have hz3 : (z == 1) = false := by simpa using hzb
                      clear hza hzb
                      go_wp2_with fail
                      go_ret2
                      exact ⟨_, _, rfl, HA9.out.1.mono (by omega), by omega, by omega, HA9.out.2⟩
        | false =>
          clear HW
          have HW : Hid (InRow w C g m cap w3) := HW3.out
          clear HW3
          go_wp2_with fail
          go_loopw [8] (fun i wr => ∃ j : Nat, j ≤ m ∧ i = .int .i64 j ∧ InRow w C g m cap wr) (fun i _ => m - (intOf i).toNat)
          case atStart => exact ⟨0, Nat.zero_le _, rfl, HW.out⟩
          case round =>
            obtain ⟨j, hj, rfl, hin⟩ := hrel
            have HIN : Hid (InRow w C g m cap wr) := hin
            clear hin
            by_cases hlt9 : (j : Int) < (m : Int)
            · go_wp2_with fail
              refine (below_any C (m : Int) _ (by obtain ⟨_, _, _, _, h⟩ := HIN.out; exact h)).mono ?_
              rintro e w5 ⟨y, rfl, hy0, hy1, _, f5, c5⟩
              have hym := hy1 (by omega)
              obtain ⟨y, rfl⟩ := Int.eq_ofNat_of_zero_le hy0
              have HIN5 : Hid (InRow w C g m cap w5) := HIN.out.fr hC f5 c5
              clear f5 c5 hy1
              obtain ⟨l5, o5, hl5, F5, C5⟩ := HIN5.out
              have HO5 : Hid (OwnMoves w5 w.heap.size (.slice (some ⟨g, 0, none⟩) m cap) l5) := o5
              have HL5 : Hid (l5.length = m) := hl5
              obtain ⟨x1, hx1⟩ : ∃ x, l5[j]? = some x := ⟨_, List.getElem?_eq_getElem (by omega)⟩
              obtain ⟨x2, hx2⟩ : ∃ x, l5[y]? = some x := ⟨_, List.getElem?_eq_getElem (by omega)⟩
              obtain ⟨p0, p1⟩ := o5.cellAt hx1
              obtain ⟨q0, q1⟩ := o5.cellAt hx2
              obtain ⟨a1, b1⟩ := x1
              obtain ⟨a2, b2⟩ := x2
              dsimp only at p0 p1 q0 q1
              have hg5 : w.heap.size ≤ g ∧ g < w5.heap.size := o5.lt g rfl
              obtain ⟨hg5a, hg5b⟩ := hg5
              have fz := frozen_of_cells o5.heapOf
              have fz0 := fz (j * 2)
              have fz1 := fz (j * 2 + 1)
              have fz2 := fz (y * 2)
              have fz3 := fz (y * 2 + 1)
              have hs5 : w.heap.size ≤ w5.heap.size := F5.size
              have HF5 : Hid (Fr C w w5) := F5
              have HC5 : Hid (Cur w5 C) := C5
              clear o5 hl5 F5 C5 fz hx1 hx2
              by_cases hjy : j = y
              · subst hjy
                obtain rfl : a1 = a2 := by have := p0.symm.trans q0; simpa using this
                obtain rfl : b1 = b2 := by have := p1.symm.trans q1; simpa using this
                go_wp2_with fail
                refine ⟨⟨j + 1, by omega, by go_num, _, World.ownsRow.alloc ((HO5.out.setBoth (i := j) (by have := HL5.out; omega) a1 b1).setBoth (i := j) (by rw [List.length_set]; have := HL5.out; omega) a1 b1) _, by rw [List.length_set, List.length_set]; exact HL5.out, HF5.out.newer ?_, HC5.out.below hC ?_⟩, by simp [intOf]; omega⟩
                all_goals
                  refine Below.alloc ?_ (by simpa using hs5) _
                  exact ((((Below.refl _ _).setCell (p := ⟨g, j * 2, none⟩) hg5a _).setCell (p := ⟨g, j * 2 + 1, none⟩) hg5a _).setCell (p := ⟨g, j * 2, none⟩) hg5a _).setCell (p := ⟨g, j * 2 + 1, none⟩) hg5a _
              · have e1 : ¬ j * 2 = y * 2 := by omega
                have e2 : ¬ j * 2 + 1 = y * 2 := by omega
                have e3 : ¬ j * 2 = y * 2 + 1 := by omega
                have e4 : ¬ j * 2 + 1 = y * 2 + 1 := by omega
                go_wp2_with fail
                refine ⟨⟨j + 1, by omega, by go_num, _, World.ownsRow.alloc ((HO5.out.setBoth (i := j) (by have := HL5.out; omega) a2 b2).setBoth (i := y) (by rw [List.length_set]; have := HL5.out; omega) a1 b1) _, by rw [List.length_set, List.length_set]; exact HL5.out, HF5.out.newer ?_, HC5.out.below hC ?_⟩, by simp [intOf]; omega⟩
                all_goals
                  refine Below.alloc ?_ (by simpa using hs5) _
                  exact ((((Below.refl _ _).setCell (p := ⟨g, j * 2, none⟩) hg5a _).setCell (p := ⟨g, j * 2 + 1, none⟩) hg5a _).setCell (p := ⟨g, y * 2, none⟩) hg5a _).setCell (p := ⟨g, y * 2 + 1, none⟩) hg5a _
            · obtain ⟨l9, HW9⟩ : ∃ l9, Hid (OwnMoves wr w.heap.size (.slice (some ⟨g, 0, none⟩) m cap) l9 ∧ l9.length = m ∧ Fr C w wr ∧ Cur wr C) := HIN.out
              clear HIN
              go_wp2_with fail
              refine (below_any C 20 _ HW9.out.2.2.2).mono ?_
              rintro e w9 ⟨z, rfl, hz0', hz1', _, f9, c9⟩
              have HA9 : Hid (DrawAtW w C 7 w9 (.slice (some ⟨g, 0, none⟩) m cap)) := DrawAtW.fr ⟨⟨_, HW9.out.1, by have := HW9.out.2.1; omega, by simp⟩, HW9.out.2.2.1, HW9.out.2.2.2⟩ hC f9 c9
              clear f9 c9 HW9
              by_cases hza : z = 0
              · subst hza
                have hk2 : IntKind.i64.wrap ((k : Int) + 2) = (k : Int) + 2 := by simp [IntKind.wrap, IntKind.bits, IntKind.signed]; omega
                go_wp2_with fail
                refine (below_any C ((k : Int) + 2) _ HA9.out.2.2).mono ?_
                rintro e w10 ⟨y1, rfl, _, hy1, _, f10, c10⟩
                have hy1' := hy1 (by omega)
                have HA10 : Hid (DrawAtW w C 7 w10 (.slice (some ⟨g, 0, none⟩) m cap)) := HA9.out.fr hC f10 c10
                clear f10 c10 hy1
                go_wp2_with fail
                refine (below_any C ((k : Int) + 2) _ HA10.out.2.2).mono ?_
                rintro e w11 ⟨y2, rfl, _, hy2, _, f11, c11⟩
                have hy2' := hy2 (by omega)
                have HA11 : Hid (DrawAtW w C 7 w11 (.slice (some ⟨g, 0, none⟩) m cap)) := HA10.out.fr hC f11 c11
                clear f11 c11 hy2
                obtain ⟨l11, ho11, hll11, _⟩ := HA11.out.1
                have HO11 : Hid (OwnMoves w11 w.heap.size (.slice (some ⟨g, 0, none⟩) m cap) l11) := ho11
                have hs11 := HA11.out.2.1.size
                clear ho11
                obtain ⟨u1, HU1⟩ : ∃ u, Hid (y1 - 1 = u) := ⟨_, rfl⟩
                obtain ⟨u2, HU2⟩ : ∃ u, Hid (y2 - 1 = u) := ⟨_, rfl⟩
                have hu1 : y1 - 1 = u1 := HU1.out
                have hu2 : y2 - 1 = u2 := HU2.out
                go_wp2_with (at_builtin; refine wpList_append_own _ rfl _ _ 24 rfl w.heap.size 44 i0 (.agg #[.int .i64 0, .int .i64 0]) 2 16 Try.underlying24 hi hz0 hz1 hz2 rfl (by decide) _ l11.length (moveC l11) rfl (World.ownsRow.alloc HO11.out _) ⟨w11.heap.size, 0, none⟩ 1 1 [.int .i64 u1, .int .i64 u2] rfl rfl (cells_duo w11 _ _ _) (by simp [Value.oneCell']) (by omega) (by omega) (by simp; omega) ?_; intro v' wa hown' hgrow hnil; have HO' : Hid (OwnMoves wa w.heap.size v' (l11 ++ [⟨u1, u2⟩])) := OwnMoves.next hown'; have HG : Hid (Below w.heap.size (w11.alloc (.cells #[.int .i64 u1, .int .i64 u2] 44)) wa) := ownsRow_under (World.ownsRow.alloc HO11.out _) (by simp; omega) hgrow; have HN' : Hid (v' ≠ .slice none 0 0) := (fun h => absurd (hnil.1 h).2 (by omega)); clear hown' hgrow hnil)
                go_ret2
                have h9 := HA11.out.pushed hC hll11 HO'.out HG.out HN'.out
                exact ⟨_, _, rfl, h9.1.mono (by omega), by omega, by omega, h9.2⟩
              · by_cases hzb : z = 1
                · subst hzb
                  clear hza
                  have DN : Hid (OwnMoves w9 w.heap.size (.slice none 0 0) [] ∧ Fr C w w9 ∧ Cur w9 C) := ⟨World.ownsRow_nil _ _ _ _, HA9.out.2⟩
                  go_wp2_with fail
                  go_loopw [5, 11] (fun s i wr => ∃ (d : Nat) (l : List ArmD), d ≤ 25 ∧ i = .int .i64 d ∧ OwnMoves wr w.heap.size s l ∧ l.length ≤ d ∧ (0 < d → s ≠ .slice none 0 0) ∧ Fr C w wr ∧ Cur wr C) (fun _ i _ => 26 - (intOf i).toNat)
                  case atStart => exact ⟨0, [], Nat.zero_le _, rfl, DN.out.1, Nat.le_refl _, fun h => absurd h (by omega), DN.out.2⟩
                  case round =>
                    obtain ⟨d, l10, hd25, rfl, ho10, hl10, hn10, F10, C10⟩ := hrel
                    have HO10 : Hid (OwnMoves wr w.heap.size u5 l10) := ho10
                    have HN10 : Hid (0 < d → u5 ≠ .slice none 0 0) := hn10
                    have HF10 : Hid (Fr C w wr) := F10
                    have HC10 : Hid (Cur wr C) := C10
                    clear ho10 hn10 F10 C10
                    go_wp2_with fail
                    refine (below_any C 2 _ HC10.out).mono ?_
                    rintro e w12 ⟨y, rfl, hy0, hy1, _, f12, c12⟩
                    have hy2 := hy1 (by omega)
                    have HO12 : Hid (OwnMoves w12 w.heap.size u5 l10) := HO10.out.frc f12 hC
                    have HF12 : Hid (Fr C w w12) := HF10.out.trans f12
                    have HC12 : Hid (Cur w12 C) := c12
                    have hs12 := HF12.out.size
                    clear f12 c12 hy1
                    by_cases hdl : (d : Int) < 24 + y
                    · have hd1 : IntKind.i64.wrap ((d : Int) + 1) = (d : Int) + 1 := by simp [IntKind.wrap, IntKind.bits, IntKind.signed]; omega
                      go_wp2_with (at_builtin; refine wpList_append_own _ rfl _ _ 24 rfl w.heap.size 44 i0 (.agg #[.int .i64 0, .int .i64 0]) 2 16 Try.underlying24 hi hz0 hz1 hz2 rfl (by decide) _ l10.length (moveC l10) rfl (World.ownsRow.alloc HO12.out _) ⟨w12.heap.size, 0, none⟩ 1 1 [.int .i64 (d : Int), .int .i64 ((d : Int) + 1)] rfl rfl (cells_duo w12 _ _ _) (by simp [Value.oneCell']) (by omega) (by omega) (by simp; omega) ?_; intro v' wa hown' hgrow hnil; have HO' : Hid (OwnMoves wa w.heap.size v' (l10 ++ [⟨(d : Int), ((d : Int) + 1)⟩])) := OwnMoves.next hown'; have HG : Hid (Below w.heap.size (w12.alloc (.cells #[.int .i64 (d : Int), .int .i64 ((d : Int) + 1)] 44)) wa) := ownsRow_under (World.ownsRow.alloc HO12.out _) (by simp; omega) hgrow; have HN' : Hid (v' ≠ .slice none 0 0) := (fun h => absurd (hnil.1 h).2 (by omega)); clear hown' hgrow hnil)
                      go_roundw
                      case rel =>
                        have hb : Below w.heap.size w12 wa := ((Below.refl w.heap.size w12).alloc hs12 _).trans HG.out
                        exact ⟨d + 1, _, by omega, by go_num, HO'.out, by simp; omega, fun _ => HN'.out, HF12.out.newer hb, HC12.out.below hC hb⟩
                      case measure => simp [intOf]; omega
                    · go_wp2_with fail
                      go_ret2
                      exact ⟨_, _, rfl, ⟨l10, HO12.out, by omega, HN10.out (by omega)⟩, by omega, by omega, HF12.out, HC12.out⟩
                · have hz2 : (z == 0) = false := by simpa using hza
                  have hz3 : (z == 1) = false := by simpa using hzb
                  clear hza hzb
                  go_wp2_with fail
                  go_ret2
                  exact ⟨_, _, rfl, HA9.out.1.mono (by omega), by omega, by omega, HA9.out.2⟩
      · go_wp2_with fail
        go_loopw [8] (fun i wr => ∃ j : Nat, j ≤ m ∧ i = .int .i64 j ∧ InRow w C g m cap wr) (fun i _ => m - (intOf i).toNat)
        case atStart => exact ⟨0, Nat.zero_le _, rfl, HW.out⟩
        case round =>
          obtain ⟨j, hj, rfl, hin⟩ := hrel
          have HIN : Hid (InRow w C g m cap wr) := hin
          clear hin
          by_cases hlt9 : (j : Int) < (m : Int)
          · go_wp2_with fail
            refine (below_any C (m : Int) _ (by obtain ⟨_, _, _, _, h⟩ := HIN.out; exact h)).mono ?_
            rintro e w5 ⟨y, rfl, hy0, hy1, _, f5, c5⟩
            have hym := hy1 (by omega)
            obtain ⟨y, rfl⟩ := Int.eq_ofNat_of_zero_le hy0
            have HIN5 : Hid (InRow w C g m cap w5) := HIN.out.fr hC f5 c5
            clear f5 c5 hy1
            obtain ⟨l5, o5, hl5, F5, C5⟩ := HIN5.out
            have HO5 : Hid (OwnMoves w5 w.heap.size (.slice (some ⟨g, 0, none⟩) m cap) l5) := o5
            have HL5 : Hid (l5.length = m) := hl5
            obtain ⟨x1, hx1⟩ : ∃ x, l5[j]? = some x := ⟨_, List.getElem?_eq_getElem (by omega)⟩
            obtain ⟨x2, hx2⟩ : ∃ x, l5[y]? = some x := ⟨_, List.getElem?_eq_getElem (by omega)⟩
            obtain ⟨p0, p1⟩ := o5.cellAt hx1
            obtain ⟨q0, q1⟩ := o5.cellAt hx2
            obtain ⟨a1, b1⟩ := x1
            obtain ⟨a2, b2⟩ := x2
            dsimp only at p0 p1 q0 q1
            have hg5 : w.heap.size ≤ g ∧ g < w5.heap.size := o5.lt g rfl
            obtain ⟨hg5a, hg5b⟩ := hg5
            have fz := frozen_of_cells o5.heapOf
            have fz0 := fz (j * 2)
            have fz1 := fz (j * 2 + 1)
            have fz2 := fz (y * 2)
            have fz3 := fz (y * 2 + 1)
            have hs5 : w.heap.size ≤ w5.heap.size := F5.size
            have HF5 : Hid (Fr C w w5) := F5
            have HC5 : Hid (Cur w5 C) := C5
            clear o5 hl5 F5 C5 fz hx1 hx2
            by_cases hjy : j = y
            · subst hjy
              obtain rfl : a1 = a2 := by have := p0.symm.trans q0; simpa using this
              obtain rfl : b1 = b2 := by have := p1.symm.trans q1; simpa using this
              go_wp2_with fail
              refine ⟨⟨j + 1, by omega, by go_num, _, World.ownsRow.alloc ((HO5.out.setBoth (i := j) (by have := HL5.out; omega) a1 b1).setBoth (i := j) (by rw [List.length_set]; have := HL5.out; omega) a1 b1) _, by rw [List.length_set, List.length_set]; exact HL5.out, HF5.out.newer ?_, HC5.out.below hC ?_⟩, by simp [intOf]; omega⟩
              all_goals
                refine Below.alloc ?_ (by simpa using hs5) _
                exact ((((Below.refl _ _).setCell (p := ⟨g, j * 2, none⟩) hg5a _).setCell (p := ⟨g, j * 2 + 1, none⟩) hg5a _).setCell (p := ⟨g, j * 2, none⟩) hg5a _).setCell (p := ⟨g, j * 2 + 1, none⟩) hg5a _
            · exact absurd (show j = y by omega) hjy
          · obtain ⟨l9, HW9⟩ : ∃ l9, Hid (OwnMoves wr w.heap.size (.slice (some ⟨g, 0, none⟩) m cap) l9 ∧ l9.length = m ∧ Fr C w wr ∧ Cur wr C) := HIN.out
            clear HIN
            go_wp2_with fail
            refine (below_any C 20 _ HW9.out.2.2.2).mono ?_
            rintro e w9 ⟨z, rfl, hz0', hz1', _, f9, c9⟩
            have HA9 : Hid (DrawAtW w C 7 w9 (.slice (some ⟨g, 0, none⟩) m cap)) := DrawAtW.fr ⟨⟨_, HW9.out.1, by have := HW9.out.2.1; omega, by simp⟩, HW9.out.2.2.1, HW9.out.2.2.2⟩ hC f9 c9
            clear f9 c9 HW9
            by_cases hza : z = 0
            · subst hza
              have hk2 : IntKind.i64.wrap ((k : Int) + 2) = (k : Int) + 2 := by simp [IntKind.wrap, IntKind.bits, IntKind.signed]; omega
              go_wp2_with fail
              refine (below_any C ((k : Int) + 2) _ HA9.out.2.2).mono ?_
              rintro e w10 ⟨y1, rfl, _, hy1, _, f10, c10⟩
              have hy1' := hy1 (by omega)
              have HA10 : Hid (DrawAtW w C 7 w10 (.slice (some ⟨g, 0, none⟩) m cap)) := HA9.out.fr hC f10 c10
              clear f10 c10 hy1
              go_wp2_with fail
              refine (below_any C ((k : Int) + 2) _ HA10.out.2.2).mono ?_
              rintro e w11 ⟨y2, rfl, _, hy2, _, f11, c11⟩
              have hy2' := hy2 (by omega)
              have HA11 : Hid (DrawAtW w C 7 w11 (.slice (some ⟨g, 0, none⟩) m cap)) := HA10.out.fr hC f11 c11
              clear f11 c11 hy2
              obtain ⟨l11, ho11, hll11, _⟩ := HA11.out.1
              have HO11 : Hid (OwnMoves w11 w.heap.size (.slice (some ⟨g, 0, none⟩) m cap) l11) := ho11
              have hs11 := HA11.out.2.1.size
              clear ho11
              obtain ⟨u1, HU1⟩ : ∃ u, Hid (y1 - 1 = u) := ⟨_, rfl⟩
              obtain ⟨u2, HU2⟩ : ∃ u, Hid (y2 - 1 = u) := ⟨_, rfl⟩
              have hu1 : y1 - 1 = u1 := HU1.out
              have hu2 : y2 - 1 = u2 := HU2.out
              go_wp2_with (at_builtin; refine wpList_append_own _ rfl _ _ 24 rfl w.heap.size 44 i0 (.agg #[.int .i64 0, .int .i64 0]) 2 16 Try.underlying24 hi hz0 hz1 hz2 rfl (by decide) _ l11.length (moveC l11) rfl (World.ownsRow.alloc HO11.out _) ⟨w11.heap.size, 0, none⟩ 1 1 [.int .i64 u1, .int .i64 u2] rfl rfl (cells_duo w11 _ _ _) (by simp [Value.oneCell']) (by omega) (by omega) (by simp; omega) ?_; intro v' wa hown' hgrow hnil; have HO' : Hid (OwnMoves wa w.heap.size v' (l11 ++ [⟨u1, u2⟩])) := OwnMoves.next hown'; have HG : Hid (Below w.heap.size (w11.alloc (.cells #[.int .i64 u1, .int .i64 u2] 44)) wa) := ownsRow_under (World.ownsRow.alloc HO11.out _) (by simp; omega) hgrow; have HN' : Hid (v' ≠ .slice none 0 0) := (fun h => absurd (hnil.1 h).2 (by omega)); clear hown' hgrow hnil)
              go_ret2
              have h9 := HA11.out.pushed hC hll11 HO'.out HG.out HN'.out
              exact ⟨_, _, rfl, h9.1.mono (by omega), by omega, by omega, h9.2⟩
            · by_cases hzb : z = 1
              · subst hzb
                clear hza
                have DN : Hid (OwnMoves w9 w.heap.size (.slice none 0 0) [] ∧ Fr C w w9 ∧ Cur w9 C) := ⟨World.ownsRow_nil _ _ _ _, HA9.out.2⟩
                go_wp2_with fail
                go_loopw [5, 11] (fun s i wr => ∃ (d : Nat) (l : List ArmD), d ≤ 25 ∧ i = .int .i64 d ∧ OwnMoves wr w.heap.size s l ∧ l.length ≤ d ∧ (0 < d → s ≠ .slice none 0 0) ∧ Fr C w wr ∧ Cur wr C) (fun _ i _ => 26 - (intOf i).toNat)
                case atStart => exact ⟨0, [], Nat.zero_le _, rfl, DN.out.1, Nat.le_refl _, fun h => absurd h (by omega), DN.out.2⟩
                case round =>
                  obtain ⟨d, l10, hd25, rfl, ho10, hl10, hn10, F10, C10⟩ := hrel
                  have HO10 : Hid (OwnMoves wr w.heap.size u5 l10) := ho10
                  have HN10 : Hid (0 < d → u5 ≠ .slice none 0 0) := hn10
                  have HF10 : Hid (Fr C w wr) := F10
                  have HC10 : Hid (Cur wr C) := C10
                  clear ho10 hn10 F10 C10
                  go_wp2_with fail
                  refine (below_any C 2 _ HC10.out).mono ?_
                  rintro e w12 ⟨y, rfl, hy0, hy1, _, f12, c12⟩
                  have hy2 := hy1 (by omega)
                  have HO12 : Hid (OwnMoves w12 w.heap.size u5 l10) := HO10.out.frc f12 hC
                  have HF12 : Hid (Fr C w w12) := HF10.out.trans f12
                  have HC12 : Hid (Cur w12 C) := c12
                  have hs12 := HF12.out.size
                  clear f12 c12 hy1
                  by_cases hdl : (d : Int) < 24 + y
                  · have hd1 : IntKind.i64.wrap ((d : Int) + 1) = (d : Int) + 1 := by simp [IntKind.wrap, IntKind.bits, IntKind.signed]; omega
                    go_wp2_with (at_builtin; refine wpList_append_own _ rfl _ _ 24 rfl w.heap.size 44 i0 (.agg #[.int .i64 0, .int .i64 0]) 2 16 Try.underlying24 hi hz0 hz1 hz2 rfl (by decide) _ l10.length (moveC l10) rfl (World.ownsRow.alloc HO12.out _) ⟨w12.heap.size, 0, none⟩ 1 1 [.int .i64 (d : Int), .int .i64 ((d : Int) + 1)] rfl rfl (cells_duo w12 _ _ _) (by simp [Value.oneCell']) (by omega) (by omega) (by simp; omega) ?_; intro v' wa hown' hgrow hnil; have HO' : Hid (OwnMoves wa w.heap.size v' (l10 ++ [⟨(d : Int), ((d : Int) + 1)⟩])) := OwnMoves.next hown'; have HG : Hid (Below w.heap.size (w12.alloc (.cells #[.int .i64 (d : Int), .int .i64 ((d : Int) + 1)] 44)) wa) := ownsRow_under (World.ownsRow.alloc HO12.out _) (by simp; omega) hgrow; have HN' : Hid (v' ≠ .slice none 0 0) := (fun h => absurd (hnil.1 h).2 (by omega)); clear hown' hgrow hnil)
                    go_roundw
                    case rel =>
                      have hb : Below w.heap.size w12 wa := ((Below.refl w.heap.size w12).alloc hs12 _).trans HG.out
                      exact ⟨d + 1, _, by omega, by go_num, HO'.out, by simp; omega, fun _ => HN'.out, HF12.out.newer hb, HC12.out.below hC hb⟩
                    case measure => simp [intOf]; omega
                  · go_wp2_with fail
                    go_ret2
                    exact ⟨_, _, rfl, ⟨l10, HO12.out, by omega, HN10.out (by omega)⟩, by omega, by omega, HF12.out, HC12.out⟩
              · have hz2 : (z == 0) = false := by simpa using hza
                have hz3 : (z == 1) = false := by simpa using hzb
                clear hza hzb
                go_wp2_with fail
                go_ret2
                exact ⟨_, _, rfl, HA9.out.1.mono (by omega), by omega, by omega, HA9.out.2⟩
end Go.Proofs.Ytijihgkhdknkeaa
