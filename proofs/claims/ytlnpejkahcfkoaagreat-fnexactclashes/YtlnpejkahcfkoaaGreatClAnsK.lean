/- Who is in whose way: Clashes, of the model and of the program. -/
import Derived.Test.YtlnpejkahcfkoaaGreatClImpK
import Derived.Test.YtlnpejkahcfkoaaGreatBListLawK
namespace Go.Proofs.YtlnpejkahcfkoaaGreat
open Go.ChangeShapes Go.WideShapes Go.ChangeAt Go.RowKit Go.Shelf
set_option linter.unusedVariables false

theorem MatW.lists {w : World} {lo g V cap : Nat} {hs : Nat → Nat} {ls : Nat → List Int} (h : MatW w lo g V V hs ls) : OwnBLists w lo (.slice (some ⟨g, 0, none⟩) V cap) ((List.range V).map (fun a => bitsOf V (ls a))) := by
  obtain ⟨cur, hc, hn, h1⟩ := h.box
  have key : ∀ i, i < V → cur.getD i (.slice none 0 0) = .slice (some ⟨hs i, 0, none⟩) V V := fun i hi => by
    have := h1 i hi
    simp [this]
  refine ⟨g, cap, cur, by simp, hc, by simpa using hn, h.low, fun i hi => ?_, fun i j hi hj hne k hk hk2 => ?_⟩
  · have hi' : i < V := by simpa using hi
    rw [key i hi']
    have e : ((List.range V).map (fun a => bitsOf V (ls a))).getD i [] = bitsOf V (ls i) := by simp [hi']
    rw [e]
    exact h.row i hi'
  · have hi' : i < V := by simpa using hi
    have hj' : j < V := by simpa using hj
    rw [key i hi'] at hk
    rw [key j hj'] at hk2
    simp [Value.ownBlock] at hk hk2
    exact hne (h.inj i j hi' hj' (by omega))
theorem clashes_tot (F : FnD) : totB (clashesOf F) ≤ 100000 := by
  by_cases h : FnPlain F
  · obtain ⟨n, V, hp⟩ := plainV_of h
    have h8 := hp.v80
    have h1 := totB_le (D := clashesOf F) (m := 80) (fun l hl => by
      rw [clashesOf_yes h hp] at hl
      obtain ⟨a, _, rfl⟩ := List.mem_map.1 hl
      rw [bits_len]
      exact h8)
    have h2 : (clashesOf F).length = V := by rw [clashesOf_yes h hp]; simp
    rw [h2] at h1
    have h3 := Nat.mul_le_mul_right 80 h8
    omega
  · rw [clashesOf_no h]
    simp [totB]

set_option maxHeartbeats 4000000 in
theorem spec_clashes (v : Value) (F : FnD) (w : World) (hF : FnAt w v F) :
    Calls Tryz.prog 14 #[v] w fun e w' => GivesBLists w (clashesOf F) e w' := by
  have HF : Hid (FnAt w v F) := hF
  obtain ⟨n, HN⟩ : ∃ n, Hid (F.blocks.length = n) := ⟨_, rfl⟩
  obtain ⟨vals, HV⟩ : ∃ x, Hid (F.values = x) := ⟨_, rfl⟩
  obtain ⟨ba, bcap, rfl⟩ := hF.out HN.out HV.out
  clear hF
  obtain ⟨wA, hwA⟩ : ∃ wA, w.alloc (.cells #[.slice ba n bcap, .int .i64 vals] 26) = wA := ⟨_, rfl⟩
  have BA : Hid (Below w.heap.size w wA) := by rw [← hwA]; exact Bel.alloc _ _
  have a0 : wA.cell? ⟨w.heap.size, 0, none⟩ = some (.slice ba n bcap) := by rw [← hwA]; simp [go_sem]
  have a1 : wA.cell? ⟨w.heap.size, 1, none⟩ = some (.int .i64 vals) := by rw [← hwA]; simp [go_sem]
  go_enter Tryz.func14, Tryz.ntmps14
  go_wp2_with fail
  refine (spec_plainOk _ F _ (HF.out.later BA.out)).mono ?_
  rintro e w2 ⟨s, rfl, hs, b2⟩
  have HS : Hid (s = true ↔ FnPlain F) := hs
  have B2 : Hid (Below w.heap.size w w2) := Bel.after BA.out b2
  have c0 := Bel.keeps b2 a0
  have c1 := Bel.keeps b2 a1
  clear hs b2 a0 a1 hwA BA
  cases s
  · have HE : Hid (clashesOf F = []) := clashesOf_no (fun h => by have := HS.out.2 h; cases this)
    go_wp2_with fail
    go_ret
    rw [HE.out]
    exact ⟨_, rfl, ownBLists_new rfl B2.out.size, B2.out.trans (Bel.alloc' _ _ B2.out.size)⟩
  · have HP : Hid (FnPlain F) := HS.out.1 rfl
    clear HS
    obtain ⟨n', V, hv⟩ := plainV_of HP.out
    have HPV : Hid (PlainV F n' V) := hv
    clear hv
    go_wp2_with fail
    refine (l12Clashes_any _ F n' V _ (HF.out.later B2.out) HPV.out).mono ?_
    rintro e w3 ⟨g, cap, hs, rfl, hm, b3⟩
    have HM : Hid (MatW w3 w2.heap.size g V V hs (setL (Clsh F))) := hm
    have B3 : Hid (Below w.heap.size w w3) := Bel.after B2.out b3
    clear hm b3
    go_wp2_with fail
    go_ret
    rw [clashesOf_yes HP.out HPV.out]
    exact ⟨_, rfl, (HM.out.lower B2.out.size).lists, B3.out⟩

theorem wp_skipsC {P : Program} {Q : Exit → Act → World → Prop} {o : Oper} {a : Act} {w w' : World} {K : Act → World → Prop} (h : (execOp a.eval o).run P w = .ok .skip w') (hk : K (a.put o.dst undef) w') : o.wp P a w K Q := by
  unfold Oper.wp
  rw [h]
  exact hk
theorem brow_info : (Tryz.prog.info? 36).map (fun i => (i.zero, i.size, i.bytes)) = some (some (.slice none 0 0), 1, 24) := by kernel_rfl
theorem make_brows (n : Nat) (hn : n ≤ 1048576) (w : World) :
    (Instr.makeSlice 33 (.int .i64 (n : Int)) (.int .i64 (n : Int))).run Tryz.prog w = .ok (.slice (some ⟨w.heap.size, 0, none⟩) n n) (w.alloc (.cells (madeCells #[.slice none 0 0] n) 36)) := by
  have h := make_of (z := .slice none 0 0) (size := 1) (bytes := 24) Tryz.underlying33 (by kernel_rfl) n (by omega) (by omega) w
  rw [Nat.mul_one] at h
  exact h
theorem madeB_size (n : Nat) : (madeCells #[.slice none 0 0] n).size = n := by
  rw [← Array.length_toList, toList_madeCells_one]
  simp
/-- The matrix of which the first k rows are there. -/
structure MatB (w : World) (lo g k V : Nat) (hs : Nat → Nat) (ls : Nat → List Int) : Prop where
  mat : MatW w lo g k V hs ls
  full : ∃ cur, w.heap[g]? = some (.cells cur 36 (0, 0)) ∧ cur.size = V
theorem MatB.keep {w w' : World} {lo g k V : Nat} {hs : Nat → Nat} {ls : Nat → List Int} (h : MatB w lo g k V hs ls) (hb : Below w.heap.size w w') : MatB w' lo g k V hs ls := by
  obtain ⟨cur, h1, h2⟩ := h.full
  exact ⟨h.mat.keep hb, cur, (hb.block g h.mat.lt).trans h1, h2⟩
theorem MatB.cell {w : World} {lo g k V : Nat} {hs : Nat → Nat} {ls : Nat → List Int} (h : MatB w lo g k V hs ls) {i : Nat} (hi : i < V) : (∃ u, w.cell? ⟨g, i, none⟩ = some u) ∧ w.frozen? ⟨g, i, none⟩ = false := by
  obtain ⟨cur, h1, h2⟩ := h.full
  have : i < cur.size := by omega
  exact ⟨⟨cur[i], by simp [World.cell?, h1, this]⟩, by simp [World.frozen?, h1]⟩
theorem MatB.set {w : World} {lo g k V : Nat} {hs : Nat → Nat} {ls : Nat → List Int} (h : MatB w lo g k V hs ls) {a b : Nat} (ha : a < k) (hb : b < V) {x : Bool} {l' : List Int} (hl : ∀ j : Nat, j < V → ((j : Int) ∈ l' ↔ if j = b then x = true else (j : Int) ∈ ls a)) : MatB (w.setCell ⟨hs a, b, none⟩ (.bool x)) lo g k V hs (updL ls a l') := by
  obtain ⟨cur, h1, h2⟩ := h.full
  exact ⟨h.mat.set ha hb hl, cur, (Below.heap_setCell _ _ _ g (fun e => h.mat.notRow ha e.symm)).trans h1, h2⟩
theorem MatB.push {w : World} {lo g k V : Nat} {hs : Nat → Nat} {ls : Nat → List Int} (h : MatB w lo g k V hs ls) (hk : k < V) {r : Nat} {l : List Int} (hr : OwnBools w lo (.slice (some ⟨r, 0, none⟩) V V) (bitsOf V l)) (hn : ∀ i, i < k → hs i ≠ r) : MatB (w.setCell ⟨g, k, none⟩ (.slice (some ⟨r, 0, none⟩) V V)) lo g (k + 1) V (fun i => if i = k then r else hs i) (updL ls k l) := by
  obtain ⟨cur, h1, h2⟩ := h.full
  obtain ⟨hl, hk2⟩ := Array.getElem?_eq_some_iff.1 h1
  have hbox : (w.setCell ⟨g, k, none⟩ (.slice (some ⟨r, 0, none⟩) V V)).heap[g]? = some (.cells (cur.setIfInBounds k (.slice (some ⟨r, 0, none⟩) V V)) 36 (0, 0)) := by
    show (w.heap.modify g _)[g]? = _
    rw [Array.getElem?_eq_getElem (by rw [Array.size_modify]; exact hl), Array.getElem_modify_self, hk2]
    rfl
  have key : ∀ {sv : Value} {m : List Bool}, OwnBools w lo sv m → OwnBools (w.setCell ⟨g, k, none⟩ (.slice (some ⟨r, 0, none⟩) V V)) lo sv m := fun hm => hm.sameB (fun b hb => Below.heap_setCell _ _ _ b (by
    intro e
    obtain ⟨_, c, h9⟩ := hm.block hb
    dsimp only at e
    rw [e, h1] at h9
    simp at h9))
  refine ⟨⟨h.mat.low, ⟨_, hbox, by simp; omega, fun i hi => ?_⟩, fun i hi => ?_, fun i j hi hj e => ?_⟩, _, hbox, by simpa using h2⟩
  · by_cases e : i = k
    · subst e
      simp [h2, hk]
    · rw [if_neg e, Array.getElem?_setIfInBounds, if_neg (fun h => e h.symm)]
      obtain ⟨cur', h3, _, h4⟩ := h.mat.box
      rw [h1] at h3
      cases h3
      exact h4 i (by omega)
  · unfold updL
    by_cases e : i = k
    · subst e
      rw [if_pos rfl, if_pos rfl]
      exact key hr
    · rw [if_neg e, if_neg e]
      exact key (h.mat.row i (by omega))
  · by_cases e1 : i = k <;> by_cases e2 : j = k
    · omega
    · rw [if_pos e1, if_neg e2] at e
      exact absurd e.symm (hn j (by omega))
    · rw [if_neg e1, if_pos e2] at e
      exact absurd e (hn i (by omega))
    · rw [if_neg e1, if_neg e2] at e
      exact h.mat.inj i j (by omega) (by omega) e
theorem MatB.congr {w : World} {lo g k V : Nat} {hs : Nat → Nat} {ls ls' : Nat → List Int} (h : MatB w lo g k V hs ls) (e : ∀ i, i < k → ∀ j : Nat, j < V → ((j : Int) ∈ ls i ↔ (j : Int) ∈ ls' i)) : MatB w lo g k V hs ls' := ⟨h.mat.congr e, h.full⟩
theorem matB_new {w : World} {V : Nat} (ls : Nat → List Int) : MatB (w.alloc (.cells (madeCells #[.slice none 0 0] V) 36)) w.heap.size w.heap.size 0 V (fun _ => 0) ls :=
  ⟨⟨Nat.le_refl _, ⟨_, World.alloc_heap_new w _, Nat.zero_le _, fun i hi => absurd hi (by omega)⟩, fun i hi => absurd hi (by omega), fun i j hi => absurd hi (by omega)⟩, _, World.alloc_heap_new w _, madeB_size V⟩

set_option maxRecDepth 100000 in
set_option maxHeartbeats 8000000 in
theorem impl_clashes (v : Value) (F : FnD) (w : World) (hF : FnAt w v F) :
    Calls Tryz.prog 12 #[v] w fun e w' => GivesBLists w (clashesOf F) e w' := by
  have HF : Hid (FnAt w v F) := hF
  obtain ⟨n, HN⟩ : ∃ n, Hid (F.blocks.length = n) := ⟨_, rfl⟩
  obtain ⟨vals, HV⟩ : ∃ x, Hid (F.values = x) := ⟨_, rfl⟩
  obtain ⟨ba, bcap, rfl⟩ := hF.out HN.out HV.out
  clear hF
  obtain ⟨wA, hwA⟩ : ∃ wA, w.alloc (.cells #[.slice ba n bcap, .int .i64 vals] 26) = wA := ⟨_, rfl⟩
  have BA : Hid (Below w.heap.size w wA) := by rw [← hwA]; exact Bel.alloc _ _
  have a0 : wA.cell? ⟨w.heap.size, 0, none⟩ = some (.slice ba n bcap) := by rw [← hwA]; simp [go_sem]
  have a1 : wA.cell? ⟨w.heap.size, 1, none⟩ = some (.int .i64 vals) := by rw [← hwA]; simp [go_sem]
  have hsA : wA.heap.size = w.heap.size + 1 := by rw [← hwA]; simp
  go_enter Tryz.func12, Tryz.ntmps12
  go_wp2_with fail
  refine (impl_plainOk _ F _ (HF.out.later BA.out)).mono ?_
  rintro e w2 ⟨s, rfl, hs, b2⟩
  have HS : Hid (s = true ↔ FnPlain F) := hs
  have B2 : Hid (Below w.heap.size w w2) := Bel.after BA.out b2
  have c0 := Bel.keeps b2 a0
  have c1 := Bel.keeps b2 a1
  have hs2 : w.heap.size < w2.heap.size := by have := b2.size; omega
  clear hs b2 a0 a1 hwA BA hsA
  cases s
  · have HE : Hid (clashesOf F = []) := clashesOf_no (fun h => by have := HS.out.2 h; cases this)
    go_wp2_with fail
    go_ret
    rw [HE.out]
    exact ⟨_, rfl, ownBLists_new rfl B2.out.size, B2.out.trans (Bel.alloc' _ _ B2.out.size)⟩
  · have HP : Hid (FnPlain F) := HS.out.1 rfl
    clear HS
    obtain ⟨n', V, hv⟩ := plainV_of HP.out
    have HPV : Hid (PlainV F n' V) := hv
    have evV : vals = (V : Int) := HV.out.symm.trans hv.vals
    have hV8 := hv.v80
    subst evV
    clear hv
    go_wp2_with fail
    refine (pairsOf_any _ F n' V _ (HF.out.later B2.out) HPV.out (plain24 HP.out)).mono ?_
    rintro e w3 ⟨mb, N, rfl, hm, b3⟩
    have HM : Hid (MapP w3 mb N (Clsh F)) := hm
    have B3 : Hid (Below w.heap.size w w3) := Bel.after B2.out b3
    have d1 := Bel.keeps b3 c1
    have hs3 : w.heap.size < w3.heap.size := by have := b3.size; omega
    have hmb : mb < w3.heap.size := hm.lt
    have hmk := make_brows V (by omega) w3
    obtain ⟨wR, hwR⟩ : ∃ wR, w3.alloc (.cells (madeCells #[.slice none 0 0] V) 36) = wR := ⟨_, rfl⟩
    rw [hwR] at hmk
    have BR : Hid (Below w3.heap.size w3 wR) := by rw [← hwR]; exact Bel.alloc _ _
    have MR : Hid (MatB wR w3.heap.size w3.heap.size 0 V (fun _ => 0) (setL (Clsh F))) := by rw [← hwR]; exact matB_new _
    have e1 := Bel.keeps BR.out d1
    have hsR := BR.out.size
    clear hm b3 c0 c1 hwR
    go_wp2_with fail
    go_loopw [18] (fun i wr => ∃ (k : Nat) (hs : Nat → Nat), k ≤ V ∧ i = .int .i64 k ∧ MatB wr w3.heap.size w3.heap.size k V hs (setL (Clsh F)) ∧ Below w3.heap.size w3 wr) (fun i _ => V - (intOf i).toNat)
    case atStart => exact ⟨0, _, Nat.zero_le _, rfl, MR.out, BR.out⟩
    case round =>
      obtain ⟨wq, hwq⟩ : ∃ x, x = wr := ⟨_, rfl⟩
      subst hwq
      obtain ⟨k, hs, hk, rfl, hmat, hbq⟩ := hrel
      have MQ : Hid (MatB wq w3.heap.size w3.heap.size k V hs (setL (Clsh F))) := hmat
      have BQ : Hid (Below w3.heap.size w3 wq) := hbq
      have f1 := Bel.keeps hbq d1
      have hsq := hbq.size
      clear hmat hbq
      by_cases hlt : (k : Int) < (V : Int)
      · have hkV : k < V := by omega
        have hmk2 := make_bools V (by omega) wq
        obtain ⟨wM, hwM⟩ : ∃ wM, wq.alloc (.cells (madeCells #[.bool false] V) 4) = wM := ⟨_, rfl⟩
        rw [hwM] at hmk2
        have BM : Hid (Below wq.heap.size wq wM) := by rw [← hwM]; exact Bel.alloc _ _
        have OM : Hid (OwnBools wM w3.heap.size (.slice (some ⟨wq.heap.size, 0, none⟩) V V) (bitsOf V [])) := by rw [← hwM]; exact ownBools_made V _ (by omega) wq (by omega)
        have MM : Hid (MatB wM w3.heap.size w3.heap.size k V hs (setL (Clsh F))) := MQ.out.keep BM.out
        have g1 := Bel.keeps BM.out f1
        obtain ⟨⟨u0, g2⟩, g3⟩ := MM.out.cell hkV
        have HNW : Hid (∀ i, i < k → hs i ≠ wq.heap.size) := fun i hi e => by have := (MQ.out.mat.rowLow hi).2; omega
        clear hwM
        go_wp2_with fail
        obtain ⟨wS, hwS⟩ : ∃ wS, wM.setCell ⟨w3.heap.size, k, none⟩ (.slice (some ⟨wq.heap.size, 0, none⟩) V V) = wS := ⟨_, rfl⟩
        have MS : Hid (MatB wS w3.heap.size w3.heap.size (k + 1) V (fun i => if i = k then wq.heap.size else hs i) (updL (setL (Clsh F)) k [])) := by rw [← hwS]; exact MM.out.push hkV OM.out HNW.out
        have BS : Hid (Below w3.heap.size w3 wS) := by rw [← hwS]; exact (BQ.out.trans (BM.out.mono (by omega))).setCell (p := ⟨w3.heap.size, k, none⟩) (Nat.le_refl _) _
        have j1 := Bel.keeps BS.out d1
        obtain ⟨R, HRR⟩ : ∃ z, z = wq.heap.size := ⟨_, rfl⟩
        rw [← HRR] at MS
        rw [hwS, ← HRR]
        clear hwS g1 g2 g3 MM OM hmk2 HRR HNW
        obtain ⟨hs2, HH2⟩ : ∃ z : Nat → Nat, Hid (z k = R) ∧ MatB wS w3.heap.size w3.heap.size (k + 1) V z (updL (setL (Clsh F)) k []) := ⟨fun i => if i = k then R else hs i, if_pos rfl, MS.out⟩
        obtain ⟨HK2, ms2⟩ := HH2
        have MS2 : Hid (MatB wS w3.heap.size w3.heap.size (k + 1) V hs2 (updL (setL (Clsh F)) k [])) := ms2
        clear ms2 MS
        go_wp2_with fail
        go_loopw [29] (fun i wr => ∃ (z : Nat), z ≤ V ∧ i = .int .i64 z ∧ MatB wr w3.heap.size w3.heap.size (k + 1) V hs2 (updL (setL (Clsh F)) k ((setL (Clsh F) k).filter (fun q => decide (q < (z : Int))))) ∧ Below w3.heap.size w3 wr) (fun i _ => V - (intOf i).toNat)
        case atStart =>
          refine ⟨0, Nat.zero_le _, rfl, MS2.out.congr (fun i hi j hj => ?_), BS.out⟩
          unfold updL
          by_cases e : i = k
          · rw [if_pos e, if_pos e, List.mem_filter]
            simp <;> omega
          · rw [if_neg e, if_neg e]
        case round =>
          obtain ⟨wx, hwx⟩ : ∃ x, x = wr := ⟨_, rfl⟩
          subst hwx
          obtain ⟨z, hz, rfl, hmat, hbx⟩ := hrel
          have MX : Hid (MatB wx w3.heap.size w3.heap.size (k + 1) V hs2 (updL (setL (Clsh F)) k ((setL (Clsh F) k).filter (fun q => decide (q < (z : Int)))))) := hmat
          have BX : Hid (Below w3.heap.size w3 wx) := hbx
          clear hmat hbx
          by_cases hlz : (z : Int) < (V : Int)
          · have hzV : z < V := by omega
            have q1 := MX.out.mat.head (i := k) (by omega)
            rw [HK2.out] at q1
            have hkI : (k : Int) < (V : Int) := hlt
            go_wp2_with fail
            refine wp_noThrow (wp_region_held_drew (S := fun w' => w'.cell? ⟨w3.heap.size, k, none⟩ = some (.slice (some ⟨R, 0, none⟩) V V)) (by kernel_rfl) q1 (fun hHeld => ?_))
            refine wpAnyH_take (i := 0) (oi := { dst := some 32, op := Go.Op.move (Go.Operand.tmp 4), type := 33, pos := "l12_clash.go:17", after := #[], guard := none }) (v := ?_) rfl (by kernel_rfl) (by kernel_rfl) (by kernel_rfl) (fun _ _ _ h => h) (Or.inl ⟨by rfl, ?_⟩) (by assumption) ?_
            rotate_left
            · intro w hSw
              (try dsimp only at hSw)
              go_simp
              (try with_reducible rfl)
            try simp only [Act.put, List.setIfInBounds_toArray, List.set_cons_zero, List.set_cons_succ]
            refine wpAnyH_take (i := 1) (oi := { dst := some 33, op := Go.Op.move (Go.Operand.tmp 5), type := 3, pos := "l12_clash.go:17", after := #[], guard := none }) (v := ?_) rfl (by kernel_rfl) (by kernel_rfl) (by kernel_rfl) (fun _ _ _ h => h) (Or.inl ⟨by rfl, ?_⟩) (by assumption) ?_
            rotate_left
            · intro w hSw
              (try dsimp only at hSw)
              go_simp
              (try with_reducible rfl)
            try simp only [Act.put, List.setIfInBounds_toArray, List.set_cons_zero, List.set_cons_succ]
            refine wpAnyH_take (i := 2) (oi := { dst := some 34, op := Go.Op.indexAddr 33 (Go.Operand.tmp 32) (Go.Operand.tmp 33), type := 0, pos := "l12_clash.go:17", after := #[{ on := 0, ground := Go.Ground.data }, { on := 1, ground := Go.Ground.data }], guard := none }) (v := ?_) rfl (by kernel_rfl) (by kernel_rfl) (by kernel_rfl) (fun _ _ _ h => h) (Or.inl ⟨by rfl, ?_⟩) (by assumption) ?_
            rotate_left
            · intro w hSw
              (try dsimp only at hSw)
              go_simp
              (try with_reducible rfl)
            try simp only [Act.put, List.setIfInBounds_toArray, List.set_cons_zero, List.set_cons_succ]
            refine wpAnyH_take (i := 3) (oi := { dst := some 35, op := Go.Op.load 36 (Go.Operand.tmp 34), type := 36, pos := "l12_clash.go:17", after := #[{ on := 2, ground := Go.Ground.data }], guard := none }) (v := ?_) rfl (by kernel_rfl) (by kernel_rfl) (by kernel_rfl) (fun _ _ _ h => h) (Or.inl ⟨by rfl, ?_⟩) (by assumption) ?_
            rotate_left
            · intro w hSw
              (try dsimp only at hSw)
              go_simp
              (try with_reducible rfl)
            try simp only [Act.put, List.setIfInBounds_toArray, List.set_cons_zero, List.set_cons_succ]
            refine wpAnyH_take (i := 4) (oi := { dst := some 36, op := Go.Op.move (Go.Operand.tmp 6), type := 3, pos := "l12_clash.go:17", after := #[], guard := none }) (v := ?_) rfl (by kernel_rfl) (by kernel_rfl) (by kernel_rfl) (fun _ _ _ h => h) (Or.inl ⟨by rfl, ?_⟩) (by assumption) ?_
            rotate_left
            · intro w hSw
              (try dsimp only at hSw)
              go_simp
              (try with_reducible rfl)
            try simp only [Act.put, List.setIfInBounds_toArray, List.set_cons_zero, List.set_cons_succ]
            refine wpAnyH_take (i := 5) (oi := { dst := some 37, op := Go.Op.move (Go.Operand.tmp 3), type := 64, pos := "l12_clash.go:17", after := #[], guard := none }) (v := ?_) rfl (by kernel_rfl) (by kernel_rfl) (by kernel_rfl) (fun _ _ _ h => h) (Or.inl ⟨by rfl, ?_⟩) (by assumption) ?_
            rotate_left
            · intro w hSw
              (try dsimp only at hSw)
              go_simp
              (try with_reducible rfl)
            try simp only [Act.put, List.setIfInBounds_toArray, List.set_cons_zero, List.set_cons_succ]
            refine wpAnyH_take (i := 6) (oi := { dst := some 38, op := Go.Op.move (Go.Operand.tmp 5), type := 3, pos := "l12_clash.go:17", after := #[], guard := none }) (v := ?_) rfl (by kernel_rfl) (by kernel_rfl) (by kernel_rfl) (fun _ _ _ h => h) (Or.inl ⟨by rfl, ?_⟩) (by assumption) ?_
            rotate_left
            · intro w hSw
              (try dsimp only at hSw)
              go_simp
              (try with_reducible rfl)
            try simp only [Act.put, List.setIfInBounds_toArray, List.set_cons_zero, List.set_cons_succ]
            refine wpAnyH_take (i := 7) (oi := { dst := some 39, op := Go.Op.move (Go.Operand.tmp 6), type := 3, pos := "l12_clash.go:17", after := #[], guard := none }) (v := ?_) rfl (by kernel_rfl) (by kernel_rfl) (by kernel_rfl) (fun _ _ _ h => h) (Or.inl ⟨by rfl, ?_⟩) (by assumption) ?_
            rotate_left
            · intro w hSw
              (try dsimp only at hSw)
              go_simp
              (try with_reducible rfl)
            try simp only [Act.put, List.setIfInBounds_toArray, List.set_cons_zero, List.set_cons_succ]
            refine ckAnyH_oneK (i := 8) (o := { dst := some 40, op := Go.Op.call { callee := Go.Callee.value (Go.Operand.func 32), args := #[Go.Operand.tmp 37, Go.Operand.tmp 38, Go.Operand.tmp 39], argTypes := #[64, 3, 3] }, type := 4, pos := "l12_clash.go:17", after := #[{ on := 5, ground := Go.Ground.data }, { on := 6, ground := Go.Ground.data }, { on := 7, ground := Go.Ground.data }], guard := none }) rfl rfl (by kernel_rfl) (fun K9 hK9 => ?_)
            refine wp_call_of (f := 32) (args := #[.map (some mb), .int .i64 k, .int .i64 z]) (runCallC3 rfl (by kernel_rfl) (by kernel_rfl) (by kernel_rfl) (enters_of Tryz.func32 (by kernel_rfl) rfl) _) (pairsHas_any mb N (Clsh F) k z wx.drew (HM.out.same ((((BX.out.trans ((Below.refl _ wx).drew.mono BX.out.size))).block mb hmb))) (wf_of (by omega) (by omega)) (wf_of (by omega) (by omega))) ?_
            rintro e w5 ⟨r, rfl, hr, b5⟩
            have B5 : Below wx.heap.size wx w5 := ((Below.refl _ wx).drew).trans b5
            have M5 := MX.out.keep B5
            have z0 := Bel.keeps B5 q1
            obtain ⟨z1, z2⟩ := M5.mat.bit (i := k) (j := z) (by omega) hzV
            rw [HK2.out] at z1 z2
            refine ⟨_, rfl, hK9 _ _ ⟨z0, ?_⟩⟩
            try simp only [Act.put, List.setIfInBounds_toArray, List.set_cons_zero, List.set_cons_succ]
            clear hK9 hHeld
            refine wpAnyH_take (i := 9) (oi := { dst := some 41, op := Go.Op.indexAddr 36 (Go.Operand.tmp 35) (Go.Operand.tmp 36), type := 0, pos := "l12_clash.go:17", after := #[{ on := 3, ground := Go.Ground.data }, { on := 4, ground := Go.Ground.data }, { on := 0, ground := Go.Ground.phase }, { on := 1, ground := Go.Ground.phase }, { on := 2, ground := Go.Ground.phase }, { on := 3, ground := Go.Ground.phase }, { on := 4, ground := Go.Ground.phase }, { on := 5, ground := Go.Ground.phase }, { on := 6, ground := Go.Ground.phase }, { on := 7, ground := Go.Ground.phase }, { on := 8, ground := Go.Ground.phase }], guard := none }) (v := ?_) rfl (by kernel_rfl) (by kernel_rfl) (by kernel_rfl) (fun _ _ _ h => h) (Or.inl ⟨by rfl, ?_⟩) (by assumption) ?_
            rotate_left
            · intro w hSw
              (try dsimp only at hSw)
              go_simp
              (try with_reducible rfl)
            try simp only [Act.put, List.setIfInBounds_toArray, List.set_cons_zero, List.set_cons_succ]
            refine ckAnyH_oneK (i := 10) (o := { dst := none, op := Go.Op.store 4 (Go.Operand.tmp 41) (Go.Operand.tmp 40), type := 0, pos := "l12_clash.go:17", after := #[{ on := 9, ground := Go.Ground.data }, { on := 8, ground := Go.Ground.data }, { on := 8, ground := Go.Ground.chain }, { on := 0, ground := Go.Ground.phase }, { on := 1, ground := Go.Ground.phase }, { on := 2, ground := Go.Ground.phase }, { on := 3, ground := Go.Ground.phase }, { on := 4, ground := Go.Ground.phase }, { on := 5, ground := Go.Ground.phase }, { on := 6, ground := Go.Ground.phase }, { on := 7, ground := Go.Ground.phase }, { on := 8, ground := Go.Ground.phase }], guard := none }) rfl rfl (by kernel_rfl) (fun K9 hK9 => ?_)
            have hfin : MatB (w5.setCell ⟨R, z, none⟩ (.bool r)) w3.heap.size w3.heap.size (k + 1) V hs2 (updL (setL (Clsh F)) k ((setL (Clsh F) k).filter (fun q => decide (q < ((z + 1 : Nat) : Int))))) := by
              have h9 := M5.set (a := k) (b := z) (x := r) (l' := (setL (Clsh F) k).filter (fun q => decide (q < ((z + 1 : Nat) : Int)))) (by omega) hzV (fun j hj => by
                rw [updL_same, List.mem_filter, List.mem_filter, setL_mem]
                by_cases e : j = z
                · subst e
                  rw [if_pos rfl, hr]
                  simp
                  exact ⟨fun h => h.1.1, fun h => ⟨⟨h, by omega⟩, by omega⟩⟩
                · rw [if_neg e]
                  simp
                  omega)
              rw [HK2.out] at h9
              refine h9.congr (fun i hi j hj => ?_)
              unfold updL
              by_cases e : i = k
              · rw [if_pos e, if_pos e]
              · rw [if_neg e, if_neg e, if_neg e]
            have hRl : w3.heap.size ≤ R := by rw [← HK2.out]; exact (MX.out.mat.rowLow (by omega)).1
            have hRg : R ≠ w3.heap.size := by rw [← HK2.out]; exact MX.out.mat.notRow (by omega)
            have MF : Hid (MatB (w5.setCell ⟨R, z, none⟩ (.bool r)) w3.heap.size w3.heap.size (k + 1) V hs2 (updL (setL (Clsh F)) k ((setL (Clsh F) k).filter (fun q => decide (q < ((z + 1 : Nat) : Int)))))) := hfin
            have BF : Hid (Below w3.heap.size w3 (w5.setCell ⟨R, z, none⟩ (.bool r))) := (BX.out.trans (B5.mono BX.out.size)).setCell (p := ⟨R, z, none⟩) hRl _
            refine wp_skipsC (w' := w5.setCell ⟨R, z, none⟩ (.bool r)) (by simp [execOp, go_sem, z1, z2]) (hK9 _ _ ⟨(World.cell?_setCell_other _ _ _ _ (by simp <;> omega)).trans z0, ?_⟩)
            clear hK9
            refine wpAnyH_done (by kernel_rfl) ?_ _
            simp only [noThrow, Exit.inBlock, Exit.then]
            go_at_K
            generalize w5.setCell ⟨R, z, none⟩ (.bool r) = wF at MF BF ⊢
            clear hfin z0 z1 z2 b5 hr
            go_wp2_with fail
            go_roundw
            case rel => exact ⟨z + 1, by omega, by simp, MF.out, BF.out⟩
            case measure => simp [intOf]; omega
          · have ezV : V = z := by omega
            subst ezV
            go_wp2_with fail
            go_roundw
            case rel =>
              refine ⟨k + 1, hs2, by omega, by simp, MX.out.congr (fun i hi j hj => ?_), BX.out⟩
              unfold updL
              by_cases e : i = k
              · rw [if_pos e, List.mem_filter, e]
                simp
                omega
              · rw [if_neg e]
            case measure => simp [intOf]; omega
      · have ekn : V = k := by omega
        subst ekn
        go_wp2_with fail
        go_ret
        rw [clashesOf_yes HP.out HPV.out]
        exact ⟨_, rfl, (MQ.out.mat.lower (Nat.le_of_lt hs3)).lists, Bel.after B3.out BQ.out⟩
end Go.Proofs.YtlnpejkahcfkoaaGreat
