/- Homes that are right: both sides. -/
import Derived.Test.YtldcohhifmpedaaGreatKHmO
import Derived.Test.YtldcohhifmpedaaGreatClPoK
import Derived.Test.YtldcohhifmpedaaGreatClSpK
namespace Go.Proofs.YtldcohhifmpedaaGreat
open Go.ChangeShapes Go.WideShapes Go.ChangeAt Go.RowKit Go.Shelf
set_option linter.unusedVariables false

def Right13 (F : FnD) (l : List Int) (ln V : Nat) : Prop := ln = V ∧ HomesIn l ∧ Apart (Clsh F) l
theorem plain24h {F : FnD} (h : FnPlain F) : ∀ (k : Nat) (x : BlockD), F.blocks[k]? = some x → x.list.length ≤ 24 := fun k x hx => (h.1.2.2.2.2 k x hx).2.1
def ApartTo (S : Int → Int → Prop) (l : List Int) (k : Nat) : Prop := ∀ a b : Nat, a < k → b < a → S a b → l.getD a 0 ≠ l.getD b 0
def ApartAt (S : Int → Int → Prop) (l : List Int) (k j : Nat) : Prop := ∀ b : Nat, b < j → S k b → l.getD k 0 ≠ l.getD b 0
theorem apartTo_next {S : Int → Int → Prop} {l : List Int} {k : Nat} (h : ApartTo S l k) (h2 : ApartAt S l k k) : ApartTo S l (k + 1) := fun a b ha hb hs => by
  by_cases e : a = k
  · subst e
    exact h2 b hb hs
  · exact h a b (by omega) hb hs
theorem apart_of {S : Int → Int → Prop} {l : List Int} {V : Nat} (hs : ∀ x y, S x y → S y x) (hi : ∀ x y, S x y → (0 ≤ x ∧ x < V) ∧ (0 ≤ y ∧ y < V)) (hn : ∀ x y, S x y → x ≠ y) (h : ApartTo S l V) : Apart S l := fun a b hab => by
  have h1 := hi _ _ hab
  have h2 := hn _ _ hab
  rcases Nat.lt_or_ge b a with h3 | h3
  · exact h a b (by omega) h3 hab
  · exact fun e => h b a (by omega) (by omega) (hs _ _ hab) e.symm

set_option maxRecDepth 100000 in
set_option maxHeartbeats 8000000 in
theorem l13Homes_any (v : Value) (F : FnD) (n V : Nat) (a : Option Addr) (ln cap : Nat) (l : List Int) (w : World) (hF : FnAt w v F) (hP : PlainV F n V) (hl : IntsAt w (.slice a ln cap) l) :
    Calls Tryz.prog 86 #[v, .slice a ln cap] w fun e w' => GivesIff w (Right13 F l ln V) e w' := by
  have HF : Hid (FnAt w v F) := hF
  have HP : Hid (PlainV F n V) := hP
  have HL : Hid (IntsAt w (.slice a ln cap) l) := hl
  have HLN : Hid (l.length = ln) := intsAt_len hl
  have hV8 := hP.v80
  obtain ⟨ba, bcap, rfl⟩ := hF.out hP.len hP.vals
  clear hF hP hl
  obtain ⟨wA, hwA⟩ : ∃ wA, w.alloc (.cells #[.slice ba n bcap, .int .i64 V] 26) = wA := ⟨_, rfl⟩
  have BA : Hid (Below w.heap.size w wA) := by rw [← hwA]; exact Bel.alloc _ _
  have a0 : wA.cell? ⟨w.heap.size, 0, none⟩ = some (.slice ba n bcap) := by rw [← hwA]; simp [go_sem]
  have a1 : wA.cell? ⟨w.heap.size, 1, none⟩ = some (.int .i64 V) := by rw [← hwA]; simp [go_sem]
  by_cases hne : (ln : Int) = (V : Int)
  · have evV : V = ln := by omega
    subst evV
    have hee : ((V : Int) != (V : Int)) = false := by simp
    go_enter Tryz.func86, Tryz.ntmps86
    go_wp2_with fail
    refine (l12Clashes_any _ F n V _ (HF.out.later BA.out) HP.out).mono ?_
    rintro e w1 ⟨g, gcap, hs, rfl, hm, b1⟩
    have B1 : Hid (Below w.heap.size w w1) := Bel.after BA.out b1
    have HM : Hid (MatW w1 wA.heap.size g V V hs (setL (Clsh F))) := hm
    have HL1 : Hid (IntsAt w1 (.slice a V cap) l) := HL.out.keep B1.out
    clear hm b1 a0 a1 hwA BA hee hne
    go_wp2_with fail
    go_loopw [6] (fun i wr => ∃ k : Nat, k ≤ V ∧ i = .int .i64 k ∧ HomesIn (l.take k) ∧ ApartTo (Clsh F) l k ∧ Below w1.heap.size w1 wr) (fun i _ => V - (intOf i).toNat)
    case atStart => exact ⟨0, Nat.zero_le _, rfl, by rw [List.take_zero]; exact homesIn_nil, fun a b h => absurd h (by omega), Below.refl _ _⟩
    case round =>
      obtain ⟨wq, hwq⟩ : ∃ x, x = wr := ⟨_, rfl⟩
      subst hwq
      obtain ⟨k, hk, rfl, hin, hap, hbq⟩ := hrel
      have HI : Hid (HomesIn (l.take k)) := hin
      have HAP : Hid (ApartTo (Clsh F) l k) := hap
      have BQ : Hid (Below w1.heap.size w1 wq) := hbq
      clear hin hap hbq
      by_cases hlt : (k : Int) < (V : Int)
      · have hkV : k < V := by omega
        obtain ⟨x, HX⟩ : ∃ x, Hid (l[k]? = some x) := ⟨l[k]'(by have := HLN.out; omega), List.getElem?_eq_getElem _⟩
        obtain ⟨sb, soff, rfl, hz⟩ := intsAt_cell (HL1.out.keep BQ.out) HX.out
        go_wp2_with fail
        refine (l1In_any x 0 39 _).mono ?_
        rintro e w2 ⟨rfl, hw2⟩
        subst hw2
        obtain ⟨t, HT⟩ : ∃ t, Hid ((decide (0 ≤ x) && decide (x ≤ 39)) = t) := ⟨_, rfl⟩
        rw [HT.out]
        cases t
        · go_wp2_with fail
          go_ret
          exact ⟨false, rfl, ⟨fun h => (by cases h), fun h => absurd h.2.1 (homesIn_not HX.out (fun h2 => by have := homeB_iff.2 h2; unfold homeB at this; rw [HT.out] at this; cases this))⟩, Bel.after B1.out BQ.out⟩
        · have HX9 : Hid (0 ≤ x ∧ x ≤ 39) := by have := HT.out; simpa [Hid] using this
          have HGX : Hid (l.getD k 0 = x) := by show l.getD k 0 = x; rw [List.getD_eq_getElem?_getD, HX.out]; rfl
          go_wp2_with fail
          go_loopw [7] (fun i wr => ∃ j : Nat, j ≤ k ∧ i = .int .i64 j ∧ ApartAt (Clsh F) l k j ∧ Below w1.heap.size w1 wr) (fun i _ => k - (intOf i).toNat)
          case atStart => exact ⟨0, Nat.zero_le _, rfl, fun b h => absurd h (by omega), BQ.out⟩
          case round =>
            obtain ⟨wy, hwy⟩ : ∃ x, x = wr := ⟨_, rfl⟩
            subst hwy
            obtain ⟨j, hj, rfl, hat, hby⟩ := hrel
            have HAT : Hid (ApartAt (Clsh F) l k j) := hat
            have BY : Hid (Below w1.heap.size w1 wy) := hby
            clear hat hby hz
            by_cases hjk : (j : Int) < (k : Int)
            · have hjV : j < V := by omega
              obtain ⟨y, HY⟩ : ∃ x, Hid (l[j]? = some x) := ⟨l[j]'(by have := HLN.out; omega), List.getElem?_eq_getElem _⟩
              obtain ⟨sb1, soff1, e8, c1⟩ := intsAt_cell (HL1.out.keep BY.out) HX.out
              obtain ⟨sb2, soff2, e9, c2⟩ := intsAt_cell (HL1.out.keep BY.out) HY.out
              simp at e8 e9
              obtain ⟨rfl, rfl⟩ := e8
              obtain ⟨rfl, rfl⟩ := e9
              have HGY : Hid (l.getD j 0 = y) := by show l.getD j 0 = y; rw [List.getD_eq_getElem?_getD, HY.out]; rfl
              have f1 := Bel.keeps BY.out (HM.out.head hkV)
              have f2 := Bel.keeps BY.out (HM.out.bit hkV hjV).1
              obtain ⟨t2, HT2⟩ : ∃ t, Hid (decide ((j : Int) ∈ setL (Clsh F) k) = t) := ⟨_, rfl⟩
              rw [HT2.out] at f2
              have HTT : Hid (t2 = true ↔ Clsh F k j) := by
                show t2 = true ↔ Clsh F k j
                rw [← HT2.out, decide_eq_true_eq, setL_mem]
                exact ⟨fun h => h.1, fun h => ⟨h, by omega, by omega⟩⟩
              have hjV' : (j : Int) < (V : Int) := by omega
              by_cases hxy : x = y
              · subst hxy
                have f9 : (x == x) = true := by simp
                go_wp2_with fail
                refine wp_noThrow (wp_region_held_drew (S := fun w' => w'.cell? ⟨sb, soff + k, none⟩ = some (.int .i64 x) ∧ w'.cell? ⟨sb, soff + j, none⟩ = some (.int .i64 x) ∧ w'.cell? ⟨g, k, none⟩ = some (.slice (some ⟨hs k, 0, none⟩) V V) ∧ w'.cell? ⟨hs k, j, none⟩ = some (.bool t2)) (by kernel_rfl) ⟨c1, c2, f1, f2⟩ (fun hHeld => ?_))
                refine wpAnyH_take (i := 0) (oi := { dst := some 32, op := Go.Op.move (Go.Operand.tmp 1), type := 27, pos := "l13_home.go:16", after := #[], guard := none }) (v := ?_) rfl (by kernel_rfl) (by kernel_rfl) (by kernel_rfl) (fun _ _ _ h => h) (Or.inl ⟨by rfl, ?_⟩) (by assumption) ?_
                rotate_left
                · intro w hSw
                  (try dsimp only at hSw)
                  go_simp
                  (try with_reducible rfl)
                try simp only [Act.put, List.setIfInBounds_toArray, List.set_cons_zero, List.set_cons_succ]
                refine wpAnyH_take (i := 1) (oi := { dst := some 33, op := Go.Op.move (Go.Operand.tmp 6), type := 3, pos := "l13_home.go:16", after := #[], guard := none }) (v := ?_) rfl (by kernel_rfl) (by kernel_rfl) (by kernel_rfl) (fun _ _ _ h => h) (Or.inl ⟨by rfl, ?_⟩) (by assumption) ?_
                rotate_left
                · intro w hSw
                  (try dsimp only at hSw)
                  go_simp
                  (try with_reducible rfl)
                try simp only [Act.put, List.setIfInBounds_toArray, List.set_cons_zero, List.set_cons_succ]
                refine wpAnyH_take (i := 2) (oi := { dst := some 34, op := Go.Op.indexAddr 27 (Go.Operand.tmp 32) (Go.Operand.tmp 33), type := 0, pos := "l13_home.go:16", after := #[{ on := 0, ground := Go.Ground.data }, { on := 1, ground := Go.Ground.data }], guard := none }) (v := ?_) rfl (by kernel_rfl) (by kernel_rfl) (by kernel_rfl) (fun _ _ _ h => h) (Or.inl ⟨by rfl, ?_⟩) (by assumption) ?_
                rotate_left
                · intro w hSw
                  (try dsimp only at hSw)
                  go_simp
                  (try with_reducible rfl)
                try simp only [Act.put, List.setIfInBounds_toArray, List.set_cons_zero, List.set_cons_succ]
                refine wpAnyH_take (i := 3) (oi := { dst := some 35, op := Go.Op.load 3 (Go.Operand.tmp 34), type := 3, pos := "l13_home.go:16", after := #[{ on := 2, ground := Go.Ground.data }], guard := none }) (v := ?_) rfl (by kernel_rfl) (by kernel_rfl) (by kernel_rfl) (fun _ _ _ h => h) (Or.inl ⟨by rfl, ?_⟩) (by assumption) ?_
                rotate_left
                · intro w hSw
                  (try dsimp only at hSw)
                  go_simp
                  (try with_reducible rfl)
                try simp only [Act.put, List.setIfInBounds_toArray, List.set_cons_zero, List.set_cons_succ]
                refine wpAnyH_take (i := 4) (oi := { dst := some 36, op := Go.Op.move (Go.Operand.tmp 1), type := 27, pos := "l13_home.go:16", after := #[], guard := none }) (v := ?_) rfl (by kernel_rfl) (by kernel_rfl) (by kernel_rfl) (fun _ _ _ h => h) (Or.inl ⟨by rfl, ?_⟩) (by assumption) ?_
                rotate_left
                · intro w hSw
                  (try dsimp only at hSw)
                  go_simp
                  (try with_reducible rfl)
                try simp only [Act.put, List.setIfInBounds_toArray, List.set_cons_zero, List.set_cons_succ]
                refine wpAnyH_take (i := 5) (oi := { dst := some 37, op := Go.Op.move (Go.Operand.tmp 7), type := 3, pos := "l13_home.go:16", after := #[], guard := none }) (v := ?_) rfl (by kernel_rfl) (by kernel_rfl) (by kernel_rfl) (fun _ _ _ h => h) (Or.inl ⟨by rfl, ?_⟩) (by assumption) ?_
                rotate_left
                · intro w hSw
                  (try dsimp only at hSw)
                  go_simp
                  (try with_reducible rfl)
                try simp only [Act.put, List.setIfInBounds_toArray, List.set_cons_zero, List.set_cons_succ]
                refine wpAnyH_take (i := 6) (oi := { dst := some 38, op := Go.Op.indexAddr 27 (Go.Operand.tmp 36) (Go.Operand.tmp 37), type := 0, pos := "l13_home.go:16", after := #[{ on := 4, ground := Go.Ground.data }, { on := 5, ground := Go.Ground.data }], guard := none }) (v := ?_) rfl (by kernel_rfl) (by kernel_rfl) (by kernel_rfl) (fun _ _ _ h => h) (Or.inl ⟨by rfl, ?_⟩) (by assumption) ?_
                rotate_left
                · intro w hSw
                  (try dsimp only at hSw)
                  go_simp
                  (try with_reducible rfl)
                try simp only [Act.put, List.setIfInBounds_toArray, List.set_cons_zero, List.set_cons_succ]
                refine wpAnyH_take (i := 7) (oi := { dst := some 39, op := Go.Op.load 3 (Go.Operand.tmp 38), type := 3, pos := "l13_home.go:16", after := #[{ on := 6, ground := Go.Ground.data }], guard := none }) (v := ?_) rfl (by kernel_rfl) (by kernel_rfl) (by kernel_rfl) (fun _ _ _ h => h) (Or.inl ⟨by rfl, ?_⟩) (by assumption) ?_
                rotate_left
                · intro w hSw
                  (try dsimp only at hSw)
                  go_simp
                  (try with_reducible rfl)
                try simp only [Act.put, List.setIfInBounds_toArray, List.set_cons_zero, List.set_cons_succ]
                refine wpAnyH_take (i := 8) (oi := { dst := some 40, op := Go.Op.binOp Go.BinOp.eql 3 (Go.Operand.tmp 35) (Go.Operand.tmp 39) 3, type := 4, pos := "l13_home.go:16", after := #[{ on := 3, ground := Go.Ground.data }, { on := 7, ground := Go.Ground.data }], guard := none }) (v := ?_) rfl (by kernel_rfl) (by kernel_rfl) (by kernel_rfl) (fun _ _ _ h => h) (Or.inl ⟨by rfl, ?_⟩) (by assumption) ?_
                rotate_left
                · intro w hSw
                  (try dsimp only at hSw)
                  go_simp
                  (try with_reducible rfl)
                try simp only [Act.put, List.setIfInBounds_toArray, List.set_cons_zero, List.set_cons_succ]
                refine wpAnyH_take (i := 9) (oi := { dst := some 41, op := Go.Op.move (Go.Operand.tmp 40), type := 4, pos := "l13_home.go:16", after := #[{ on := 8, ground := Go.Ground.data }], guard := none }) (v := ?_) rfl (by kernel_rfl) (by kernel_rfl) (by kernel_rfl) (fun _ _ _ h => h) (Or.inl ⟨by rfl, ?_⟩) (by assumption) ?_
                rotate_left
                · intro w hSw
                  (try dsimp only at hSw)
                  go_simp
                  (try with_reducible rfl)
                try simp only [Act.put, List.setIfInBounds_toArray, List.set_cons_zero, List.set_cons_succ]
                refine wpAnyH_take (i := 10) (oi := { dst := some 42, op := Go.Op.move (Go.Operand.tmp 5), type := 66, pos := "l13_home.go:16", after := #[{ on := 9, ground := Go.Ground.guard }], guard := some (9, true) }) (v := ?_) rfl (by kernel_rfl) (by kernel_rfl) (by kernel_rfl) (fun _ _ _ h => h) (Or.inl ⟨by rfl, ?_⟩) (by assumption) ?_
                rotate_left
                · intro w hSw
                  (try dsimp only at hSw)
                  go_simp
                  (try with_reducible rfl)
                try simp only [Act.put, List.setIfInBounds_toArray, List.set_cons_zero, List.set_cons_succ]
                refine wpAnyH_take (i := 11) (oi := { dst := some 43, op := Go.Op.move (Go.Operand.tmp 6), type := 3, pos := "l13_home.go:16", after := #[{ on := 9, ground := Go.Ground.guard }], guard := some (9, true) }) (v := ?_) rfl (by kernel_rfl) (by kernel_rfl) (by kernel_rfl) (fun _ _ _ h => h) (Or.inl ⟨by rfl, ?_⟩) (by assumption) ?_
                rotate_left
                · intro w hSw
                  (try dsimp only at hSw)
                  go_simp
                  (try with_reducible rfl)
                try simp only [Act.put, List.setIfInBounds_toArray, List.set_cons_zero, List.set_cons_succ]
                refine wpAnyH_take (i := 12) (oi := { dst := some 44, op := Go.Op.indexAddr 66 (Go.Operand.tmp 42) (Go.Operand.tmp 43), type := 0, pos := "l13_home.go:16", after := #[{ on := 10, ground := Go.Ground.data }, { on := 11, ground := Go.Ground.data }, { on := 9, ground := Go.Ground.guard }], guard := some (9, true) }) (v := ?_) rfl (by kernel_rfl) (by kernel_rfl) (by kernel_rfl) (fun _ _ _ h => h) (Or.inl ⟨by rfl, ?_⟩) (by assumption) ?_
                rotate_left
                · intro w hSw
                  (try dsimp only at hSw)
                  go_simp
                  (try with_reducible rfl)
                try simp only [Act.put, List.setIfInBounds_toArray, List.set_cons_zero, List.set_cons_succ]
                refine wpAnyH_take (i := 13) (oi := { dst := some 45, op := Go.Op.load 68 (Go.Operand.tmp 44), type := 68, pos := "l13_home.go:16", after := #[{ on := 12, ground := Go.Ground.data }, { on := 9, ground := Go.Ground.guard }], guard := some (9, true) }) (v := ?_) rfl (by kernel_rfl) (by kernel_rfl) (by kernel_rfl) (fun _ _ _ h => h) (Or.inl ⟨by rfl, ?_⟩) (by assumption) ?_
                rotate_left
                · intro w hSw
                  (try dsimp only at hSw)
                  go_simp
                  (try with_reducible rfl)
                try simp only [Act.put, List.setIfInBounds_toArray, List.set_cons_zero, List.set_cons_succ]
                refine wpAnyH_take (i := 14) (oi := { dst := some 46, op := Go.Op.move (Go.Operand.tmp 7), type := 3, pos := "l13_home.go:16", after := #[{ on := 9, ground := Go.Ground.guard }], guard := some (9, true) }) (v := ?_) rfl (by kernel_rfl) (by kernel_rfl) (by kernel_rfl) (fun _ _ _ h => h) (Or.inl ⟨by rfl, ?_⟩) (by assumption) ?_
                rotate_left
                · intro w hSw
                  (try dsimp only at hSw)
                  go_simp
                  (try with_reducible rfl)
                try simp only [Act.put, List.setIfInBounds_toArray, List.set_cons_zero, List.set_cons_succ]
                refine wpAnyH_take (i := 15) (oi := { dst := some 47, op := Go.Op.indexAddr 68 (Go.Operand.tmp 45) (Go.Operand.tmp 46), type := 0, pos := "l13_home.go:16", after := #[{ on := 13, ground := Go.Ground.data }, { on := 14, ground := Go.Ground.data }, { on := 9, ground := Go.Ground.guard }], guard := some (9, true) }) (v := ?_) rfl (by kernel_rfl) (by kernel_rfl) (by kernel_rfl) (fun _ _ _ h => h) (Or.inl ⟨by rfl, ?_⟩) (by assumption) ?_
                rotate_left
                · intro w hSw
                  (try dsimp only at hSw)
                  go_simp
                  (try with_reducible rfl)
                try simp only [Act.put, List.setIfInBounds_toArray, List.set_cons_zero, List.set_cons_succ]
                refine wpAnyH_take (i := 16) (oi := { dst := some 48, op := Go.Op.load 4 (Go.Operand.tmp 47), type := 4, pos := "l13_home.go:16", after := #[{ on := 15, ground := Go.Ground.data }, { on := 9, ground := Go.Ground.guard }], guard := some (9, true) }) (v := ?_) rfl (by kernel_rfl) (by kernel_rfl) (by kernel_rfl) (fun _ _ _ h => h) (Or.inl ⟨by rfl, ?_⟩) (by assumption) ?_
                rotate_left
                · intro w hSw
                  (try dsimp only at hSw)
                  go_simp
                  (try with_reducible rfl)
                try simp only [Act.put, List.setIfInBounds_toArray, List.set_cons_zero, List.set_cons_succ]
                refine wpAnyH_take (i := 17) (oi := { dst := some 49, op := Go.Op.pick (Go.Operand.tmp 41) (Go.Operand.tmp 48) (Go.Operand.const (Go.Value.bool false)), type := 4, pos := "l13_home.go:16", after := #[{ on := 9, ground := Go.Ground.data }, { on := 16, ground := Go.Ground.data }], guard := none }) (v := ?_) rfl (by kernel_rfl) (by kernel_rfl) (by kernel_rfl) (fun _ _ _ h => h) (Or.inl ⟨by rfl, ?_⟩) (by assumption) ?_
                rotate_left
                · intro w hSw
                  (try dsimp only at hSw)
                  go_simp
                  (try with_reducible rfl)
                try simp only [Act.put, List.setIfInBounds_toArray, List.set_cons_zero, List.set_cons_succ]
                refine wpAnyH_done (by kernel_rfl) ?_ _
                simp only [noThrow, Exit.then]
                go_at_K
                have BD : Hid (Below w1.heap.size w1 wy.drew) := BY.out.drew
                generalize wy.drew = wd at BD ⊢
                clear c1 c2 f1 f2
                cases t2
                · go_wp2_with fail
                  go_roundw
                  case rel =>
                    refine ⟨j + 1, by omega, by simp, fun b hb hs9 => ?_, BD.out⟩
                    by_cases e : b = j
                    · subst e
                      have := HTT.out.2 hs9
                      cases this
                    · exact HAT.out b (by omega) hs9
                  case measure => simp [intOf]; omega
                · go_wp2_with fail
                  go_ret
                  exact ⟨false, rfl, ⟨fun h => (by cases h), fun h => absurd (HGX.out.trans HGY.out.symm) (h.2.2 k j (HTT.out.1 (by first | rfl | trivial)))⟩, Bel.after B1.out BD.out⟩
              · have f9 : (x == y) = false := by simpa using hxy
                have HNE : Hid (¬ x = y) := hxy
                clear hxy
                go_wp2_with fail
                refine wp_noThrow (wp_region_held_drew (S := fun w' => w'.cell? ⟨sb, soff + k, none⟩ = some (.int .i64 x) ∧ w'.cell? ⟨sb, soff + j, none⟩ = some (.int .i64 y)) (by kernel_rfl) ⟨c1, c2⟩ (fun hHeld => ?_))
                refine wpAnyH_take (i := 0) (oi := { dst := some 32, op := Go.Op.move (Go.Operand.tmp 1), type := 27, pos := "l13_home.go:16", after := #[], guard := none }) (v := ?_) rfl (by kernel_rfl) (by kernel_rfl) (by kernel_rfl) (fun _ _ _ h => h) (Or.inl ⟨by rfl, ?_⟩) (by assumption) ?_
                rotate_left
                · intro w hSw
                  (try dsimp only at hSw)
                  go_simp
                  (try with_reducible rfl)
                try simp only [Act.put, List.setIfInBounds_toArray, List.set_cons_zero, List.set_cons_succ]
                refine wpAnyH_take (i := 1) (oi := { dst := some 33, op := Go.Op.move (Go.Operand.tmp 6), type := 3, pos := "l13_home.go:16", after := #[], guard := none }) (v := ?_) rfl (by kernel_rfl) (by kernel_rfl) (by kernel_rfl) (fun _ _ _ h => h) (Or.inl ⟨by rfl, ?_⟩) (by assumption) ?_
                rotate_left
                · intro w hSw
                  (try dsimp only at hSw)
                  go_simp
                  (try with_reducible rfl)
                try simp only [Act.put, List.setIfInBounds_toArray, List.set_cons_zero, List.set_cons_succ]
                refine wpAnyH_take (i := 2) (oi := { dst := some 34, op := Go.Op.indexAddr 27 (Go.Operand.tmp 32) (Go.Operand.tmp 33), type := 0, pos := "l13_home.go:16", after := #[{ on := 0, ground := Go.Ground.data }, { on := 1, ground := Go.Ground.data }], guard := none }) (v := ?_) rfl (by kernel_rfl) (by kernel_rfl) (by kernel_rfl) (fun _ _ _ h => h) (Or.inl ⟨by rfl, ?_⟩) (by assumption) ?_
                rotate_left
                · intro w hSw
                  (try dsimp only at hSw)
                  go_simp
                  (try with_reducible rfl)
                try simp only [Act.put, List.setIfInBounds_toArray, List.set_cons_zero, List.set_cons_succ]
                refine wpAnyH_take (i := 3) (oi := { dst := some 35, op := Go.Op.load 3 (Go.Operand.tmp 34), type := 3, pos := "l13_home.go:16", after := #[{ on := 2, ground := Go.Ground.data }], guard := none }) (v := ?_) rfl (by kernel_rfl) (by kernel_rfl) (by kernel_rfl) (fun _ _ _ h => h) (Or.inl ⟨by rfl, ?_⟩) (by assumption) ?_
                rotate_left
                · intro w hSw
                  (try dsimp only at hSw)
                  go_simp
                  (try with_reducible rfl)
                try simp only [Act.put, List.setIfInBounds_toArray, List.set_cons_zero, List.set_cons_succ]
                refine wpAnyH_take (i := 4) (oi := { dst := some 36, op := Go.Op.move (Go.Operand.tmp 1), type := 27, pos := "l13_home.go:16", after := #[], guard := none }) (v := ?_) rfl (by kernel_rfl) (by kernel_rfl) (by kernel_rfl) (fun _ _ _ h => h) (Or.inl ⟨by rfl, ?_⟩) (by assumption) ?_
                rotate_left
                · intro w hSw
                  (try dsimp only at hSw)
                  go_simp
                  (try with_reducible rfl)
                try simp only [Act.put, List.setIfInBounds_toArray, List.set_cons_zero, List.set_cons_succ]
                refine wpAnyH_take (i := 5) (oi := { dst := some 37, op := Go.Op.move (Go.Operand.tmp 7), type := 3, pos := "l13_home.go:16", after := #[], guard := none }) (v := ?_) rfl (by kernel_rfl) (by kernel_rfl) (by kernel_rfl) (fun _ _ _ h => h) (Or.inl ⟨by rfl, ?_⟩) (by assumption) ?_
                rotate_left
                · intro w hSw
                  (try dsimp only at hSw)
                  go_simp
                  (try with_reducible rfl)
                try simp only [Act.put, List.setIfInBounds_toArray, List.set_cons_zero, List.set_cons_succ]
                refine wpAnyH_take (i := 6) (oi := { dst := some 38, op := Go.Op.indexAddr 27 (Go.Operand.tmp 36) (Go.Operand.tmp 37), type := 0, pos := "l13_home.go:16", after := #[{ on := 4, ground := Go.Ground.data }, { on := 5, ground := Go.Ground.data }], guard := none }) (v := ?_) rfl (by kernel_rfl) (by kernel_rfl) (by kernel_rfl) (fun _ _ _ h => h) (Or.inl ⟨by rfl, ?_⟩) (by assumption) ?_
                rotate_left
                · intro w hSw
                  (try dsimp only at hSw)
                  go_simp
                  (try with_reducible rfl)
                try simp only [Act.put, List.setIfInBounds_toArray, List.set_cons_zero, List.set_cons_succ]
                refine wpAnyH_take (i := 7) (oi := { dst := some 39, op := Go.Op.load 3 (Go.Operand.tmp 38), type := 3, pos := "l13_home.go:16", after := #[{ on := 6, ground := Go.Ground.data }], guard := none }) (v := ?_) rfl (by kernel_rfl) (by kernel_rfl) (by kernel_rfl) (fun _ _ _ h => h) (Or.inl ⟨by rfl, ?_⟩) (by assumption) ?_
                rotate_left
                · intro w hSw
                  (try dsimp only at hSw)
                  go_simp
                  (try with_reducible rfl)
                try simp only [Act.put, List.setIfInBounds_toArray, List.set_cons_zero, List.set_cons_succ]
                refine wpAnyH_take (i := 8) (oi := { dst := some 40, op := Go.Op.binOp Go.BinOp.eql 3 (Go.Operand.tmp 35) (Go.Operand.tmp 39) 3, type := 4, pos := "l13_home.go:16", after := #[{ on := 3, ground := Go.Ground.data }, { on := 7, ground := Go.Ground.data }], guard := none }) (v := ?_) rfl (by kernel_rfl) (by kernel_rfl) (by kernel_rfl) (fun _ _ _ h => h) (Or.inl ⟨by rfl, ?_⟩) (by assumption) ?_
                rotate_left
                · intro w hSw
                  (try dsimp only at hSw)
                  go_simp
                  (try with_reducible rfl)
                try simp only [Act.put, List.setIfInBounds_toArray, List.set_cons_zero, List.set_cons_succ]
                refine wpAnyH_take (i := 9) (oi := { dst := some 41, op := Go.Op.move (Go.Operand.tmp 40), type := 4, pos := "l13_home.go:16", after := #[{ on := 8, ground := Go.Ground.data }], guard := none }) (v := ?_) rfl (by kernel_rfl) (by kernel_rfl) (by kernel_rfl) (fun _ _ _ h => h) (Or.inl ⟨by rfl, ?_⟩) (by assumption) ?_
                rotate_left
                · intro w hSw
                  (try dsimp only at hSw)
                  go_simp
                  (try with_reducible rfl)
                try simp only [Act.put, List.setIfInBounds_toArray, List.set_cons_zero, List.set_cons_succ]
                refine wpAnyH_take (i := 10) (oi := { dst := some 42, op := Go.Op.move (Go.Operand.tmp 5), type := 66, pos := "l13_home.go:16", after := #[{ on := 9, ground := Go.Ground.guard }], guard := some (9, true) }) (v := undef) rfl (by kernel_rfl) (by kernel_rfl) (by kernel_rfl) (fun _ _ _ h => h) (Or.inr ⟨by rfl, rfl⟩) (by assumption) ?_
                try simp only [Act.put, List.setIfInBounds_toArray, List.set_cons_zero, List.set_cons_succ]
                refine wpAnyH_take (i := 11) (oi := { dst := some 43, op := Go.Op.move (Go.Operand.tmp 6), type := 3, pos := "l13_home.go:16", after := #[{ on := 9, ground := Go.Ground.guard }], guard := some (9, true) }) (v := undef) rfl (by kernel_rfl) (by kernel_rfl) (by kernel_rfl) (fun _ _ _ h => h) (Or.inr ⟨by rfl, rfl⟩) (by assumption) ?_
                try simp only [Act.put, List.setIfInBounds_toArray, List.set_cons_zero, List.set_cons_succ]
                refine wpAnyH_take (i := 12) (oi := { dst := some 44, op := Go.Op.indexAddr 66 (Go.Operand.tmp 42) (Go.Operand.tmp 43), type := 0, pos := "l13_home.go:16", after := #[{ on := 10, ground := Go.Ground.data }, { on := 11, ground := Go.Ground.data }, { on := 9, ground := Go.Ground.guard }], guard := some (9, true) }) (v := undef) rfl (by kernel_rfl) (by kernel_rfl) (by kernel_rfl) (fun _ _ _ h => h) (Or.inr ⟨by rfl, rfl⟩) (by assumption) ?_
                try simp only [Act.put, List.setIfInBounds_toArray, List.set_cons_zero, List.set_cons_succ]
                refine wpAnyH_take (i := 13) (oi := { dst := some 45, op := Go.Op.load 68 (Go.Operand.tmp 44), type := 68, pos := "l13_home.go:16", after := #[{ on := 12, ground := Go.Ground.data }, { on := 9, ground := Go.Ground.guard }], guard := some (9, true) }) (v := undef) rfl (by kernel_rfl) (by kernel_rfl) (by kernel_rfl) (fun _ _ _ h => h) (Or.inr ⟨by rfl, rfl⟩) (by assumption) ?_
                try simp only [Act.put, List.setIfInBounds_toArray, List.set_cons_zero, List.set_cons_succ]
                refine wpAnyH_take (i := 14) (oi := { dst := some 46, op := Go.Op.move (Go.Operand.tmp 7), type := 3, pos := "l13_home.go:16", after := #[{ on := 9, ground := Go.Ground.guard }], guard := some (9, true) }) (v := undef) rfl (by kernel_rfl) (by kernel_rfl) (by kernel_rfl) (fun _ _ _ h => h) (Or.inr ⟨by rfl, rfl⟩) (by assumption) ?_
                try simp only [Act.put, List.setIfInBounds_toArray, List.set_cons_zero, List.set_cons_succ]
                refine wpAnyH_take (i := 15) (oi := { dst := some 47, op := Go.Op.indexAddr 68 (Go.Operand.tmp 45) (Go.Operand.tmp 46), type := 0, pos := "l13_home.go:16", after := #[{ on := 13, ground := Go.Ground.data }, { on := 14, ground := Go.Ground.data }, { on := 9, ground := Go.Ground.guard }], guard := some (9, true) }) (v := undef) rfl (by kernel_rfl) (by kernel_rfl) (by kernel_rfl) (fun _ _ _ h => h) (Or.inr ⟨by rfl, rfl⟩) (by assumption) ?_
                try simp only [Act.put, List.setIfInBounds_toArray, List.set_cons_zero, List.set_cons_succ]
                refine wpAnyH_take (i := 16) (oi := { dst := some 48, op := Go.Op.load 4 (Go.Operand.tmp 47), type := 4, pos := "l13_home.go:16", after := #[{ on := 15, ground := Go.Ground.data }, { on := 9, ground := Go.Ground.guard }], guard := some (9, true) }) (v := undef) rfl (by kernel_rfl) (by kernel_rfl) (by kernel_rfl) (fun _ _ _ h => h) (Or.inr ⟨by rfl, rfl⟩) (by assumption) ?_
                try simp only [Act.put, List.setIfInBounds_toArray, List.set_cons_zero, List.set_cons_succ]
                refine wpAnyH_take (i := 17) (oi := { dst := some 49, op := Go.Op.pick (Go.Operand.tmp 41) (Go.Operand.tmp 48) (Go.Operand.const (Go.Value.bool false)), type := 4, pos := "l13_home.go:16", after := #[{ on := 9, ground := Go.Ground.data }, { on := 16, ground := Go.Ground.data }], guard := none }) (v := ?_) rfl (by kernel_rfl) (by kernel_rfl) (by kernel_rfl) (fun _ _ _ h => h) (Or.inl ⟨by rfl, ?_⟩) (by assumption) ?_
                rotate_left
                · intro w hSw
                  (try dsimp only at hSw)
                  go_simp
                  (try with_reducible rfl)
                try simp only [Act.put, List.setIfInBounds_toArray, List.set_cons_zero, List.set_cons_succ]
                refine wpAnyH_done (by kernel_rfl) ?_ _
                simp only [noThrow, Exit.then]
                go_at_K
                have BD : Hid (Below w1.heap.size w1 wy.drew) := BY.out.drew
                generalize wy.drew = wd at BD ⊢
                clear c1 c2 f1 f2
                go_wp2_with fail
                go_roundw
                case rel =>
                  refine ⟨j + 1, by omega, by simp, fun b hb hs9 => ?_, BD.out⟩
                  by_cases e : b = j
                  · subst e
                    rw [HGX.out, HGY.out]
                    exact HNE.out
                  · exact HAT.out b (by omega) hs9
                case measure => simp [intOf]; omega
            · have ejk : k = j := by omega
              subst ejk
              go_wp2_with fail
              go_roundw
              case rel => exact ⟨k + 1, by omega, by simp, homesIn_next HX.out HI.out HX9.out, apartTo_next HAP.out HAT.out, BY.out⟩
              case measure => simp [intOf]; omega
      · have ekn : V = k := by omega
        subst ekn
        go_wp2_with fail
        go_ret
        refine ⟨true, rfl, ⟨fun _ => ⟨rfl, ?_, apart_of (fun _ _ h => Way.symm h) (fun _ _ h => Way.in HP.out h) (fun _ _ h => Way.ne h) HAP.out⟩, fun _ => rfl⟩, Bel.after B1.out BQ.out⟩
        have h9 := HI.out
        rw [List.take_of_length_le (by have := HLN.out; omega)] at h9
        exact h9
  · have hee : ((ln : Int) != (V : Int)) = true := by simpa using hne
    have HNE : Hid (¬ (ln : Int) = V) := hne
    clear hne
    go_enter Tryz.func86, Tryz.ntmps86
    go_wp2_with fail
    go_ret
    try rw [hwA]
    exact ⟨false, rfl, ⟨fun h => (by cases h), fun h => absurd (by rw [h.1]) HNE.out⟩, BA.out⟩

set_option maxHeartbeats 4000000 in
theorem spec_homesOk (v : Value) (F : FnD) (a : Option Addr) (ln cap : Nat) (l : List Int) (w : World) (hF : FnAt w v F) (hl : IntsAt w (.slice a ln cap) l) :
    Calls Tryz.prog 55 #[v, .slice a ln cap] w fun e w' => GivesIff w (HomesOkP F l) e w' := by
  have HF : Hid (FnAt w v F) := hF
  have HL : Hid (IntsAt w (.slice a ln cap) l) := hl
  have HLN : Hid (l.length = ln) := intsAt_len hl
  obtain ⟨n, HN⟩ : ∃ n, Hid (F.blocks.length = n) := ⟨_, rfl⟩
  obtain ⟨vals, HV⟩ : ∃ x, Hid (F.values = x) := ⟨_, rfl⟩
  obtain ⟨ba, bcap, rfl⟩ := hF.out HN.out HV.out
  clear hF hl
  obtain ⟨wA, hwA⟩ : ∃ wA, w.alloc (.cells #[.slice ba n bcap, .int .i64 vals] 26) = wA := ⟨_, rfl⟩
  have BA : Hid (Below w.heap.size w wA) := by rw [← hwA]; exact Bel.alloc _ _
  have a0 : wA.cell? ⟨w.heap.size, 0, none⟩ = some (.slice ba n bcap) := by rw [← hwA]; simp [go_sem]
  have a1 : wA.cell? ⟨w.heap.size, 1, none⟩ = some (.int .i64 vals) := by rw [← hwA]; simp [go_sem]
  go_enter Tryz.func55, Tryz.ntmps55
  go_wp2_with fail
  refine (spec_plainOk _ F _ (HF.out.later BA.out)).mono ?_
  rintro e w2 ⟨s, rfl, hs, b2⟩
  have HS : Hid (s = true ↔ FnPlain F) := hs
  have B2 : Hid (Below w.heap.size w w2) := Bel.after BA.out b2
  have c0 := Bel.keeps b2 a0
  have c1 := Bel.keeps b2 a1
  clear hs b2 a0 a1 hwA BA
  cases s
  · go_wp2_with fail
    go_ret
    exact ⟨false, rfl, ⟨fun h => (by cases h), fun h => (by have := HS.out.2 h.1; cases this)⟩, B2.out⟩
  · have HP : Hid (FnPlain F) := HS.out.1 rfl
    obtain ⟨n', V, hv⟩ := plainV_of HP.out
    have HPV : Hid (PlainV F n' V) := hv
    clear hv HS
    go_wp2_with fail
    refine (l13Homes_any _ F n' V a ln cap l _ (HF.out.later B2.out) HPV.out (HL.out.keep B2.out)).mono ?_
    rintro e w3 ⟨s, rfl, hs, b3⟩
    have HS : Hid (s = true ↔ Right13 F l ln V) := hs
    have B3 : Hid (Below w.heap.size w w3) := Bel.after B2.out b3
    clear hs b3
    have HFIN : Hid (s = true ↔ HomesOkP F l) := by
      show s = true ↔ HomesOkP F l
      rw [HS.out]
      have h8 := HPV.out.vals
      have h9 := HLN.out
      constructor
      · rintro ⟨q1, q2, q3⟩
        exact ⟨HP.out, by omega, q2, q3⟩
      · rintro ⟨_, q1, q2, q3⟩
        exact ⟨by omega, q2, q3⟩
    cases s
    · go_wp2_with fail
      go_ret
      exact ⟨false, rfl, HFIN.out, B3.out⟩
    · go_wp2_with fail
      go_ret
      exact ⟨true, rfl, (by simpa using HFIN.out), B3.out⟩

set_option maxHeartbeats 4000000 in
theorem impl_homesOk (v : Value) (F : FnD) (a : Option Addr) (ln cap : Nat) (l : List Int) (w : World) (hF : FnAt w v F) (hl : IntsAt w (.slice a ln cap) l) :
    Calls Tryz.prog 17 #[v, .slice a ln cap] w fun e w' => GivesIff w (HomesOkP F l) e w' := by
  have HF : Hid (FnAt w v F) := hF
  have HL : Hid (IntsAt w (.slice a ln cap) l) := hl
  have HLN : Hid (l.length = ln) := intsAt_len hl
  obtain ⟨n, HN⟩ : ∃ n, Hid (F.blocks.length = n) := ⟨_, rfl⟩
  obtain ⟨vals, HV⟩ : ∃ x, Hid (F.values = x) := ⟨_, rfl⟩
  obtain ⟨ba, bcap, rfl⟩ := hF.out HN.out HV.out
  clear hF hl
  obtain ⟨wA, hwA⟩ : ∃ wA, w.alloc (.cells #[.slice ba n bcap, .int .i64 vals] 26) = wA := ⟨_, rfl⟩
  have BA : Hid (Below w.heap.size w wA) := by rw [← hwA]; exact Bel.alloc _ _
  have a0 : wA.cell? ⟨w.heap.size, 0, none⟩ = some (.slice ba n bcap) := by rw [← hwA]; simp [go_sem]
  have a1 : wA.cell? ⟨w.heap.size, 1, none⟩ = some (.int .i64 vals) := by rw [← hwA]; simp [go_sem]
  go_enter Tryz.func17, Tryz.ntmps17
  go_wp2_with fail
  refine (impl_plainOk _ F _ (HF.out.later BA.out)).mono ?_
  rintro e w2 ⟨s, rfl, hs, b2⟩
  have HS : Hid (s = true ↔ FnPlain F) := hs
  have B2 : Hid (Below w.heap.size w w2) := Bel.after BA.out b2
  have c0 := Bel.keeps b2 a0
  have c1 := Bel.keeps b2 a1
  clear hs b2 a0 a1 hwA BA
  cases s
  · go_wp2_with fail
    go_ret
    exact ⟨false, rfl, ⟨fun h => (by cases h), fun h => (by have := HS.out.2 h.1; cases this)⟩, B2.out⟩
  · have HP : Hid (FnPlain F) := HS.out.1 rfl
    obtain ⟨n', V, hv⟩ := plainV_of HP.out
    have HPV : Hid (PlainV F n' V) := hv
    have evV : vals = (V : Int) := HV.out.symm.trans hv.vals
    have hV8 := hv.v80
    subst evV
    clear hv HS
    by_cases hne : (ln : Int) = (V : Int)
    · have evl : V = ln := by omega
      subst evl
      have hee : ((V : Int) == (V : Int)) = true := by simp
      clear hne
      go_wp2_with fail
      refine (allHomes_any a V cap l _ (HL.out.keep B2.out)).mono ?_
      rintro e w2' ⟨s, rfl, hs, hw2⟩
      subst hw2
      have HS : Hid (s = true ↔ HomesIn l) := hs
      clear hs
      cases s
      · go_wp2_with fail
        go_ret
        exact ⟨false, rfl, ⟨fun h => (by cases h), fun h => (by have := HS.out.2 h.2.2.1; cases this)⟩, B2.out⟩
      · have HI : Hid (HomesIn l) := HS.out.1 rfl
        clear HS
        go_wp2_with fail
        refine (pairsOf_any _ F n' V _ (HF.out.later B2.out) HPV.out (plain24h HP.out)).mono ?_
        rintro e w3 ⟨mb, N, rfl, hm, b3⟩
        have HM : Hid (MapP w3 mb N (Clsh F)) := hm
        have B3 : Hid (Below w.heap.size w w3) := Bel.after B2.out b3
        clear hm b3
        go_wp2_with fail
        refine (apart_any mb N V (Clsh F) a cap l w3 HM.out (fun x y => ⟨Way.symm, Way.symm⟩) (fun _ _ h => Way.in HPV.out h) hV8 (HL.out.keep B3.out)).mono ?_
        rintro e w4 ⟨s, rfl, hs, b4⟩
        have HS : Hid (s = true ↔ Apart (Clsh F) l) := hs
        have B4 : Hid (Below w.heap.size w w4) := Bel.after B3.out b4
        clear hs b4
        have HFIN : Hid (s = true ↔ HomesOkP F l) := by
          show s = true ↔ HomesOkP F l
          rw [HS.out]
          have h8 := HPV.out.vals
          have h9 := HLN.out
          exact ⟨fun h => ⟨HP.out, by omega, HI.out, h⟩, fun h => h.2.2.2⟩
        cases s
        · go_wp2_with fail
          go_ret
          exact ⟨false, rfl, HFIN.out, B4.out⟩
        · go_wp2_with fail
          go_ret
          exact ⟨true, rfl, (by simpa using HFIN.out), B4.out⟩
    · have hee : ((ln : Int) == (V : Int)) = false := by simpa using hne
      have HNE : Hid (¬ (ln : Int) = V) := hne
      clear hne
      go_wp2_with fail
      go_ret
      exact ⟨false, rfl, ⟨fun h => (by cases h), fun h => absurd (by have h1 := h.2.1; have h2 := HLN.out; have h3 := HPV.out.vals; omega) HNE.out⟩, B2.out⟩
end Go.Proofs.YtldcohhifmpedaaGreat
