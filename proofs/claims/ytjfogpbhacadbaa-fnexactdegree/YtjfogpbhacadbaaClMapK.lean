/- The pairs that clash, in a map whose keys are structs. -/
import Derived.Shelf.RegionOpen
import Derived.Shelf.Abstract
import Derived.Test.YtjfogpbhacadbaaClHitK
import Derived.Test.YtjfogpbhacadbaaKIns
import Derived.DeepKeys4
import Derived.Maps.OwnSet
import Derived.Maps.Views
import Derived.Maps.OwnOps
namespace Go.Proofs.Ytjfogpbhacadbaa
open Go.ChangeShapes Go.WideShapes Go.ChangeAt Go.RowKit Go.Shelf
set_option linter.unusedVariables false
set_option maxRecDepth 100000

def Wf (a : Int) : Prop := (Lit.int .i64 a).wf = true
theorem wf_of {a : Int} (h : -1000 ≤ a) (h2 : a ≤ 1000) : Wf a := by
  exact WalkArith.wf_i64 (by omega)
def pairV (a b : Int) : Value := .agg #[.int .i64 a, .int .i64 b]
theorem pair_laid : laidOutB Try.prog = true := by kernel_rfl
theorem pair_row : (97 : TypeId) < Try.prog.types.size := of_decide_eq_true (by kernel_rfl)
theorem pair_wide : (match Try.prog.underlying 97 with | some (.array _ _) | some (.struct _) => true | _ => false) = true := by kernel_rfl
theorem pair_keyed : Maps.Keyed Try.prog 97 := Maps.Keyed.of_law (deep_law_laid pair_laid (m := 2) (by omega) pair_row (by kernel_rfl) pair_wide)
theorem pair_some {a b : Int} (ha : Wf a) (hb : Wf b) : ∃ l, keyOf Try.prog 97 (pairV a b) = some l := by
  obtain ⟨k, hk⟩ : ∃ k, Try.prog.types.size + 1 = k + 2 := ⟨Try.prog.types.size - 1, by have h : (97 : Nat) < Try.prog.types.size := pair_row; omega⟩
  have c1 : Try.prog.cellsOf 97 = 2 := by kernel_rfl
  have c2 : Try.prog.cellsOf 3 = 1 := by kernel_rfl
  have c3 : Try.prog.keyType 97 = true := by kernel_rfl
  unfold Wf at ha hb
  unfold keyOf
  rw [hk]
  simp [Program.keyLits, Try.underlying97, Try.underlying3, c1, c2, c3, pairV, Value.formed, Value.cells, ha, hb]
noncomputable def pk (a b : Int) : Lit := (keyOf Try.prog 97 (pairV a b)).getD (.bool false)
theorem pk_key {a b : Int} (ha : Wf a) (hb : Wf b) : keyOf Try.prog 97 (pairV a b) = some (pk a b) := by
  obtain ⟨l, h⟩ := pair_some ha hb
  unfold pk
  rw [h]
  rfl
theorem pk_inj {a b c d : Int} (ha : Wf a) (hb : Wf b) (hc : Wf c) (hd : Wf d) (h : pk a b = pk c d) : a = c ∧ b = d := by
  have h1 := pk_key ha hb
  have h2 := pk_key hc hd
  rw [← h] at h2
  have := pair_keyed.inj h1 h2
  simpa [pairV] using this
theorem pk_lit {a b : Int} (ha : Wf a) (hb : Wf b) : WideAt.IsKeyLit (pk a b) := pair_keyed.key (pk_key ha hb)
theorem wf_min {a b : Int} (ha : Wf a) (hb : Wf b) : Wf (min a b) := by
  rcases Int.le_total a b with h | h
  · rw [Int.min_eq_left h]; exact ha
  · rw [Int.min_eq_right h]; exact hb
theorem wf_max {a b : Int} (ha : Wf a) (hb : Wf b) : Wf (max a b) := by
  rcases Int.le_total a b with h | h
  · rw [Int.max_eq_right h]; exact hb
  · rw [Int.max_eq_left h]; exact ha
/-- The map in block mb holds just the pairs of S, the lesser first. -/
def PairsD (D : DataW Unit) (S : Int → Int → Prop) : Prop := (∀ a b, Wf a → Wf b → (Maps.has D (pk (min a b) (max a b)) = true ↔ S a b)) ∧ ∀ kl, Maps.has D kl = true → ∃ a b, Wf a ∧ Wf b ∧ a ≤ b ∧ kl = pk a b
def MapP (w : World) (mb N : Nat) (S : Int → Int → Prop) : Prop := ∃ D : DataW Unit, w.ownsMap Try.prog 97 (unitElem (H := Unit)) mb N D ∧ PairsD D S
theorem MapP.lt {w : World} {mb N : Nat} {S : Int → Int → Prop} (h : MapP w mb N S) : mb < w.heap.size := by
  obtain ⟨D, h1, _⟩ := h
  exact h1.lt
theorem MapP.same {w w' : World} {mb N : Nat} {S : Int → Int → Prop} (h : MapP w mb N S) (hb : w'.heap[mb]? = w.heap[mb]?) : MapP w' mb N S := by
  obtain ⟨D, ⟨es, ck, h1, h2⟩, h3⟩ := h
  exact ⟨D, ⟨es, ck, hb.trans h1, h2⟩, h3⟩
theorem MapP.keep {w w' : World} {mb N : Nat} {S : Int → Int → Prop} (h : MapP w mb N S) (hb : Below w.heap.size w w') : MapP w' mb N S := h.same (hb.block mb h.lt)
theorem MapP.isMap {w : World} {mb N : Nat} {S : Int → Int → Prop} (h : MapP w mb N S) : ∃ es ck, w.heap[mb]? = some (.map es ck) := by
  obtain ⟨D, ⟨es, ck, h1, _⟩, _⟩ := h
  exact ⟨es, ck, h1⟩
theorem MapP.mono {w : World} {mb N M : Nat} {S T : Int → Int → Prop} (h : MapP w mb N S) (hN : N ≤ M) (hS : ∀ a b, S a b ↔ T a b) : MapP w mb M T := by
  obtain ⟨D, h1, h2⟩ := h
  exact ⟨D, h1.mono hN, fun a b ha hb => (h2.1 a b ha hb).trans (hS a b), h2.2⟩
theorem mapP_new (w : World) : MapP (w.alloc (.map #[] 0)) w.heap.size 0 (fun _ _ => False) :=
  ⟨.map [], World.ownsMap_made w _ _ _, fun a b _ _ => ⟨fun h => (by cases h), fun h => h.elim⟩, fun kl h => (by cases h)⟩
theorem MapP.put {w w' : World} {mb N : Nat} {S T : Int → Int → Prop} {D : DataW Unit} {d v : Int} (hd : Wf d) (hv : Wf v) (hD : w.ownsMap Try.prog 97 (unitElem (H := Unit)) mb N D) (hh : PairsD D S) {u : DataW Unit}
    (h' : w'.ownsMap Try.prog 97 (unitElem (H := Unit)) mb (N + 1) (D.put (pk (min d v) (max d v)) u)) (hT : ∀ a b, T a b ↔ S a b ∨ (a = d ∧ b = v) ∨ (a = v ∧ b = d)) : MapP w' mb (N + 1) T := by
  have ht := hD.tidy pair_keyed
  refine ⟨_, h', fun a b ha hb => ?_, fun kl hk => ?_⟩
  rotate_left
  · by_cases e : kl = pk (min d v) (max d v)
    · exact ⟨min d v, max d v, wf_min hd hv, wf_max hd hv, by omega, e⟩
    · rw [Maps.has_put_other e] at hk
      exact hh.2 kl hk
  rw [hT]
  by_cases e : min a b = min d v ∧ max a b = max d v
  · rw [e.1, e.2, Maps.has_put_same ht.isMap (pk_lit (wf_min hd hv) (wf_max hd hv))]
    exact ⟨fun _ => .inr (by omega), fun _ => rfl⟩
  · rw [Maps.has_put_other (fun e2 => e (pk_inj (wf_min ha hb) (wf_max ha hb) (wf_min hd hv) (wf_max hd hv) e2)), hh.1 a b ha hb]
    exact ⟨.inl, fun h => h.elim id (fun h => absurd (by omega) e)⟩
theorem grownM {a b c : World} {r : Option Nat} (h : a.grownBy b r) (k : b.grownBy c r) : a.grownBy c r :=
  ⟨k.os.trans h.os, k.tape.trans h.tape, k.output.trans h.output, Nat.le_trans h.size k.size, fun i hi hne => (k.block i (Nat.lt_of_lt_of_le hi h.size) hne).trans (h.block i hi hne)⟩
theorem grownOf {a b : World} (h : Below a.heap.size a b) (r : Option Nat) : a.grownBy b r := ⟨h.os, h.tape, h.output, h.size, fun i hi _ => h.block i hi⟩
theorem cell_offMap {w w' : World} {mb : Nat} (hm : ∃ es ck, w.heap[mb]? = some (.map es ck)) (hg : w.grownBy w' (some mb)) {p : Addr} {v : Value} (h : w.cell? p = some v) : w'.cell? p = some v := by
  refine (World.cell?_of_block (hg.block p.block (World.block_lt_of_cell? w p h) (fun e => ?_))).trans h
  obtain ⟨es, ck, hm⟩ := hm
  have e : p.block = mb := by simpa using e
  unfold World.cell? at h
  rw [e, hm] at h
  cases h
theorem isMap_keep {w w' : World} {mb : Nat} (hm : ∃ es ck, w.heap[mb]? = some (.map es ck)) (hb : Below w.heap.size w w') : ∃ es ck, w'.heap[mb]? = some (.map es ck) := by
  obtain ⟨es, ck, h⟩ := hm
  exact ⟨es, ck, (hb.block mb (Array.getElem?_eq_some_iff.1 h).1).trans h⟩
theorem zero_unitP (w : World) : (zeroValue 95).run Try.prog w = .ok (.agg #[]) w := by kernel_rfl

set_option maxHeartbeats 1000000 in
theorem pairOf_any (a b : Int) (w : World) :
    Calls Try.prog 51 #[.int .i64 a, .int .i64 b] w fun e w' => e = .returned (.agg #[.int .i64 (min a b), .int .i64 (max a b)]) ∧ Below w.heap.size w w' := by
  go_enter Try.func51, Try.ntmps51
  go_wp2
  all_goals
    refine bodyPost_ret (v := .agg #[.int .i64 (min a b), .int .i64 (max a b)]) ?_ rfl ⟨rfl, Bel.alloc _ _⟩
    simp [results, Try.results51, go_sem]
    try omega

set_option maxHeartbeats 1000000 in
theorem pairsHas_any (mb N : Nat) (S : Int → Int → Prop) (a b : Int) (w : World) (hm : MapP w mb N S) (ha : Wf a) (hb : Wf b) :
    Calls Try.prog 30 #[.map (some mb), .int .i64 a, .int .i64 b] w fun e w' => ∃ r, e = .returned (.bool r) ∧ (r = true ↔ S a b) ∧ Below w.heap.size w w' := by
  have HM : Hid (MapP w mb N S) := hm
  obtain ⟨x, HX⟩ : ∃ x, Hid (min a b = x) := ⟨_, rfl⟩
  obtain ⟨y, HY⟩ : ∃ y, Hid (max a b = y) := ⟨_, rfl⟩
  have HK : Hid (keyOf Try.prog 97 (.agg #[.int .i64 x, .int .i64 y]) = some (pk x y)) := by
    rw [← HX.out, ← HY.out]
    exact pk_key (wf_min ha hb) (wf_max ha hb)
  clear hm
  go_enter Try.func30, Try.ntmps30
  go_wp2_with (first | (go_at_call 51; refine (pairOf_any a b _).mono ?_; rw [HX.out, HY.out]; rintro e w1 ⟨rfl, b1⟩; have B1 : Hid (Below w.heap.size w w1) := b1; obtain ⟨D, hown, hh⟩ := HM.out.keep b1; have HH : Hid (Maps.has D (pk x y) = true ↔ S a b) := by { have h9 := hh.1 a b ha hb; rw [HX.out, HY.out] at h9; exact h9 }; have HO : Hid (w1.ownsMap Try.prog 97 (unitElem (H := Unit)) mb N D) := hown; clear hown hh b1) | (at_lookup; refine wpList_lookup_own_unit _ rfl _ _ 42 rfl 97 95 pair_keyed Try.underlying42 (zero_unitP _) mb _ _ rfl HO.out _ _ rfl HK.out ?_))
  go_ret
  exact ⟨_, rfl, HH.out, Bel.after B1.out (Bel.alloc _ _)⟩

set_option maxHeartbeats 4000000 in
theorem meet_any (mb N : Nat) (S : Int → Int → Prop) (op d a b n : Int) (sa : Option Addr) (ln sc : Nat) (l : List Int) (w : World) (hm : MapP w mb N S) (hl : IntsAt w (.slice sa ln sc) l) (hln : l.length = ln) (h80 : In80 l) (hs : ln ≤ 80) (hd : insDefV op d < 80) (hN : N ≤ 1000000) :
    Calls Try.prog 29 #[.map (some mb), .agg #[.int .i64 op, .int .i64 d, .int .i64 a, .int .i64 b, .int .i64 n], .agg #[.slice sa ln sc]] w fun e w' => (∃ r, e = .returned r) ∧ w.grownBy w' (some mb) ∧ MapP w' mb (N + 80) (fun x y => S x y ∨ Meets ⟨op, d, a, b, n⟩ l x y) := by
  have HM : Hid (MapP w mb N S) := hm
  have HL : Hid (IntsAt w (.slice sa ln sc) l) := hl
  have HLN : Hid (l.length = ln) := hln
  have hmx : 2000000 ≤ maxLen := by decide
  obtain ⟨dd, HD⟩ : ∃ x, Hid (insDefV op d = x) := ⟨_, rfl⟩
  rw [HD.out] at hd
  clear hm hl hln
  go_enter Try.func29, Try.ntmps29
  go_wp2_with fail
  refine (impl_insDef op d a b n _).mono ?_
  rintro e w1 ⟨rfl, b1⟩
  obtain ⟨wA, hwA⟩ : ∃ wA, w.alloc (.cells #[.int .i64 op, .int .i64 d, .int .i64 a, .int .i64 b, .int .i64 n] 60) = wA := ⟨_, rfl⟩
  have hsA : wA.heap.size = w.heap.size + 1 := by rw [← hwA]; simp
  have BA : Hid (Below w.heap.size w wA) := by rw [← hwA]; exact Bel.alloc _ _
  have a0 : wA.cell? ⟨w.heap.size, 0, none⟩ = some (.int .i64 op) := by rw [← hwA]; simp [go_sem]
  have a2 : wA.cell? ⟨w.heap.size, 2, none⟩ = some (.int .i64 a) := by rw [← hwA]; simp [go_sem]
  obtain ⟨wB, hwB⟩ : ∃ wB, wA.alloc (.cells #[.slice sa ln sc] 74) = wB := ⟨_, rfl⟩
  have BB : Hid (Below wA.heap.size wA wB) := by rw [← hwB]; exact Bel.alloc _ _
  have q0 := Bel.keeps BB.out a0
  have q2 := Bel.keeps BB.out a2
  have q9 : wB.cell? ⟨w.heap.size + 1, 0, none⟩ = some (.slice sa ln sc) := by rw [← hwB, ← hsA]; simp [go_sem]
  rw [hwA, hwB] at b1
  replace q0 := Bel.keeps b1 q0
  replace q2 := Bel.keeps b1 q2
  replace q9 := Bel.keeps b1 q9
  have B1 : Hid (Below w.heap.size w w1) := Bel.after (Bel.after BA.out BB.out) b1
  have HM1 : Hid (MapP w1 mb N S) := HM.out.keep B1.out
  have HL1 : Hid (IntsAt w1 (.slice sa ln sc) l) := HL.out.keep B1.out
  have hmb : mb < w.heap.size := HM.out.lt
  clear hwA hwB a0 a2 b1
  rw [HD.out]
  by_cases hneg : dd < 0
  · go_wp2_with fail
    refine bodyPost_ret (results_none rfl _ _ _) rfl ?_
    refine ⟨⟨_, rfl⟩, grownOf B1.out _, HM1.out.mono (by omega) (fun x y => ⟨.inl, fun h => h.elim id (fun h => absurd h (Meets.none (by show insDefV op d < 0; rw [HD.out]; exact hneg)))⟩)⟩
  · go_wp2_with fail
    go_loopw [16] (fun i wr => ∃ k : Nat, k ≤ ln ∧ i = .int .i64 k ∧ w1.grownBy wr (some mb) ∧ MapP wr mb (N + k) (fun x y => S x y ∨ Meets ⟨op, d, a, b, n⟩ (l.take k) x y)) (fun i _ => ln - (intOf i).toNat)
    case atStart => exact ⟨0, Nat.zero_le _, rfl, grownOf (Below.refl _ _) _, HM1.out.mono (Nat.le_refl _) (fun x y => ⟨.inl, fun h => h.elim id (fun h => absurd h (meets_nil _ _))⟩)⟩
    case round =>
      obtain ⟨wq, hwq⟩ : ∃ x, x = wr := ⟨_, rfl⟩
      subst hwq
      obtain ⟨k, hk, rfl, hg, hmp⟩ := hrel
      have HG : Hid (w1.grownBy wq (some mb)) := hg
      have HMP : Hid (MapP wq mb (N + k) (fun x y => S x y ∨ Meets ⟨op, d, a, b, n⟩ (l.take k) x y)) := hmp
      have y0 := cell_offMap HM1.out.isMap hg q0
      have y2 := cell_offMap HM1.out.isMap hg q2
      clear hg hmp
      by_cases hlt : (k : Int) < (ln : Int)
      · have hkl : k < l.length := by have := HLN.out; omega
        obtain ⟨z, HZ⟩ : ∃ z, Hid (l[k]? = some z) := ⟨l[k], List.getElem?_eq_getElem hkl⟩
        obtain ⟨sb, soff, hsa, hz⟩ : ∃ sb soff, sa = some ⟨sb, soff, none⟩ ∧ wq.cell? ⟨sb, soff + k, none⟩ = some (.int .i64 z) := by
          obtain ⟨a', cap', e, _, hc⟩ := HL1.out
          obtain ⟨sb, soff, rfl, hc2⟩ := hc (by omega)
          simp at e
          refine ⟨sb, soff, e.1, cell_offMap HM1.out.isMap HG.out ?_⟩
          rw [hc2 k hkl, List.getD_eq_getElem?_getD, HZ.out]
          rfl
        subst hsa
        have hz8 := h80 z (List.mem_of_getElem? HZ.out)
        have HT : Hid (∀ x y, Meets ⟨op, d, a, b, n⟩ (l.take (k + 1)) x y ↔ Meets ⟨op, d, a, b, n⟩ (l.take k) x y ∨ Meets ⟨op, d, a, b, n⟩ [z] x y) := fun x y => meets_take HZ.out x y
        have hstay : Hid (¬ HitBy ⟨op, d, a, b, n⟩ [z] dd z → MapP wq mb (N + (k + 1)) (fun x y => S x y ∨ Meets ⟨op, d, a, b, n⟩ (l.take (k + 1)) x y)) := fun hno => HMP.out.mono (by omega) (fun x y => by
          rw [HT.out x y]
          exact ⟨fun h => h.imp id .inl, fun h => h.imp id (fun h => h.elim id (fun h9 => absurd h9 (meets_not (by show ¬ HitBy _ _ (insDefV op d) z; rw [HD.out]; exact hno) x y)))⟩)
        clear hkl
        by_cases e1 : z = dd
        · have f1 : (z != dd) = false := by simp [e1]
          have HNO : Hid (¬ HitBy ⟨op, d, a, b, n⟩ [z] dd z) := fun h => h.2.2.2.1 e1
          clear e1
          go_wp2_with fail
          go_roundw
          case rel => exact ⟨k + 1, by omega, by simp, HG.out, hstay.out HNO.out⟩
          case measure => simp [intOf]; omega
        · have f1 : (z != dd) = true := by simp [e1]
          by_cases e2 : op = 25 ∧ z = a
          · have f2 : (op == 25) = true := by simp [e2.1]
            have f3 : (z == a) = true := by simp [e2.2]
            have HNO : Hid (¬ HitBy ⟨op, d, a, b, n⟩ [z] dd z) := fun h => h.2.2.2.2 e2
            clear e1 e2
            go_wp2_with fail
            go_roundw
            case rel => exact ⟨k + 1, by omega, by simp, HG.out, hstay.out HNO.out⟩
            case measure => simp [intOf]; omega
          · have HHIT : Hid (HitBy ⟨op, d, a, b, n⟩ [z] dd z) := ⟨HD.out, by omega, by simp, e1, e2⟩
            have HWD : Hid (Wf dd) := wf_of (by omega) (by omega)
            have HWZ : Hid (Wf z) := wf_of (by omega) (by omega)
            obtain ⟨p1, HP1⟩ : ∃ x, Hid (min dd z = x) := ⟨_, rfl⟩
            obtain ⟨p2, HP2⟩ : ∃ x, Hid (max dd z = x) := ⟨_, rfl⟩
            have HK : Hid (keyOf Try.prog 97 (.agg #[.int .i64 p1, .int .i64 p2]) = some (pk p1 p2)) := by
              rw [← HP1.out, ← HP2.out]
              exact pk_key (wf_min HWD.out HWZ.out) (wf_max HWD.out HWZ.out)
            have fin : Hid (∀ w2 w3 : World, Below wq.heap.size wq w2 → MapP w3 mb (N + k + 1) (fun x y => S x y ∨ Meets ⟨op, d, a, b, n⟩ (l.take (k + 1)) x y) → w2.grownBy w3 (some mb) → ∃ j : Nat, j ≤ ln ∧ Value.int .i64 ((k : Int) + 1) = .int .i64 j ∧ w1.grownBy w3 (some mb) ∧ MapP w3 mb (N + j) (fun x y => S x y ∨ Meets ⟨op, d, a, b, n⟩ (l.take j) x y)) := fun w2 w3 h1 h2 h3 => ⟨k + 1, by omega, by simp, grownM HG.out (grownM (grownOf h1 _) h3), h2⟩
            have key : Hid (∀ w2, Below wq.heap.size wq w2 → ∃ D, w2.ownsMap Try.prog 97 (unitElem (H := Unit)) mb (N + k) D ∧ ∀ w3 u, w3.ownsMap Try.prog 97 (unitElem (H := Unit)) mb (N + k + 1) (D.put (pk p1 p2) u) → MapP w3 mb (N + k + 1) (fun x y => S x y ∨ Meets ⟨op, d, a, b, n⟩ (l.take (k + 1)) x y)) := fun w2 h2 => by
              obtain ⟨D, h3, h4⟩ := HMP.out.keep h2
              refine ⟨D, h3, fun w3 u h5 => ?_⟩
              rw [← HP1.out, ← HP2.out] at h5
              refine MapP.put HWD.out HWZ.out h3 h4 h5 (fun x y => ?_)
              rw [HT.out x y, meets_one HHIT.out x y]
              constructor
              · rintro (h | h | h)
                · exact .inl (.inl h)
                · exact .inl (.inr h)
                · exact .inr h
              · rintro ((h | h) | h)
                · exact .inl h
                · exact .inr (.inl h)
                · exact .inr (.inr h)
            by_cases e3 : op = 25
            · have f2 : (op == 25) = true := by simp [e3]
              have f3 : (z == a) = false := by simpa using fun h => e2 ⟨e3, h⟩
              clear e1 e2 e3
              go_wp2_with (first | (go_at_call 51; refine (pairOf_any dd z _).mono ?_; rw [HP1.out, HP2.out]; rintro e w2 ⟨rfl, b2⟩; have B2 : Hid (Below wq.heap.size wq w2) := b2; obtain ⟨D, hown, hput⟩ := key.out w2 b2; have HO : Hid (w2.ownsMap Try.prog 97 (unitElem (H := Unit)) mb (N + k) D) := hown; have HPUT : Hid (∀ w3 u, w3.ownsMap Try.prog 97 (unitElem (H := Unit)) mb (N + k + 1) (D.put (pk p1 p2) u) → MapP w3 mb (N + k + 1) (fun x y => S x y ∨ Meets ⟨op, d, a, b, n⟩ (l.take (k + 1)) x y)) := hput; clear hown hput b2) | (at_mapUpdate; refine wpList_mapUpdate_own _ rfl _ _ _ 42 rfl 97 95 pair_keyed Try.underlying42 _ mb (N + k) D rfl HO.out (by omega) _ _ _ rfl rfl HK.out _ _ unitElem_mk ?_; intro w3 hown3 hg3; have HM3 : Hid (MapP w3 mb (N + k + 1) (fun x y => S x y ∨ Meets ⟨op, d, a, b, n⟩ (l.take (k + 1)) x y)) := HPUT.out w3 _ hown3; have HG3 : Hid (w2.grownBy w3 (some mb)) := hg3; clear hown3 hg3))
              go_roundw
              case rel => exact fin.out _ _ B2.out HM3.out HG3.out
              case measure => simp [intOf]; omega
            · have f2 : (op == 25) = false := by simp [e3]
              clear e1 e2 e3
              go_wp2_with (first | (go_at_call 51; refine (pairOf_any dd z _).mono ?_; rw [HP1.out, HP2.out]; rintro e w2 ⟨rfl, b2⟩; have B2 : Hid (Below wq.heap.size wq w2) := b2; obtain ⟨D, hown, hput⟩ := key.out w2 b2; have HO : Hid (w2.ownsMap Try.prog 97 (unitElem (H := Unit)) mb (N + k) D) := hown; have HPUT : Hid (∀ w3 u, w3.ownsMap Try.prog 97 (unitElem (H := Unit)) mb (N + k + 1) (D.put (pk p1 p2) u) → MapP w3 mb (N + k + 1) (fun x y => S x y ∨ Meets ⟨op, d, a, b, n⟩ (l.take (k + 1)) x y)) := hput; clear hown hput b2) | (at_mapUpdate; refine wpList_mapUpdate_own _ rfl _ _ _ 42 rfl 97 95 pair_keyed Try.underlying42 _ mb (N + k) D rfl HO.out (by omega) _ _ _ rfl rfl HK.out _ _ unitElem_mk ?_; intro w3 hown3 hg3; have HM3 : Hid (MapP w3 mb (N + k + 1) (fun x y => S x y ∨ Meets ⟨op, d, a, b, n⟩ (l.take (k + 1)) x y)) := HPUT.out w3 _ hown3; have HG3 : Hid (w2.grownBy w3 (some mb)) := hg3; clear hown3 hg3))
              go_roundw
              case rel => exact fin.out _ _ B2.out HM3.out HG3.out
              case measure => simp [intOf]; omega
      · have ekn : k = ln := by omega
        subst ekn
        go_wp2_with fail
        go_end0
        refine ⟨⟨_, rfl⟩, grownM (grownOf B1.out _) HG.out, HMP.out.mono (by omega) (fun x y => ?_)⟩
        rw [List.take_of_length_le (by have := HLN.out; omega)]
end Go.Proofs.Ytjfogpbhacadbaa
