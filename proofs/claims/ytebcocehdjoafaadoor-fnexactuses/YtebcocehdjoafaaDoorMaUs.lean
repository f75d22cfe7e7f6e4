/- Uses, of both sides. -/
import Derived.Test.YtebcocehdjoafaaDoorMaOk
import Derived.Test.YtebcocehdjoafaaDoorLSetM
import Derived.Maps.AppendAt
namespace Go.Proofs.YtebcocehdjoafaaDoor
open Go.ChangeShapes Go.WideShapes Go.ChangeAt Go.RowKit Go.Shelf
set_option linter.unusedVariables false

theorem info_intU : (Tryd.prog.info? 3).map (fun i => (i.zero, i.size, i.bytes)) = some (some (.int .i64 0), 1, 8) := by kernel_rfl
theorem ownInts_nilU {w : World} {g lo : Nat} (hg : w.heap.size = g) (hl : lo ≤ g) : OwnInts (w.alloc (.cells #[] 3)) lo (.slice (some ⟨g, 0, none⟩) 0 0) [] := by
  subst hg
  exact (ownInts_new w).low hl
theorem OwnInts.nextU {w : World} {lo : Nat} {v : Value} {l : List Int} {x : Int} (h : w.ownsRow lo 3 1 v (l.length + 1) (l.map (fun x => Value.int .i64 x) ++ [Value.int .i64 x])) : OwnInts w lo v (l ++ [x]) := by
  unfold OwnInts
  simpa using h
theorem ownsRow_underU {w w1 : World} {lo : Nat} {t : TypeId} {s n : Nat} {v : Value} {xs : List Value} (h : w.ownsRow lo t s v n xs) (hlo : lo ≤ w.heap.size) (hg : w.grownBy w1 v.ownBlock) : Below lo w w1 := by
  refine (Below.refl lo w).grown hg hlo fun j ej => ?_
  rcases h.2 with ⟨rfl, _⟩ | ⟨g, cap, cur, rfl, hb, _, _⟩
  · simp [Value.ownBlock] at ej
  · simp [Value.ownBlock] at ej
    subst ej
    exact hb
theorem SetTurn.bel {w w' : World} {g o lo : Nat} {ob : Option Nat} {sv' : Value} (h : SetTurn w w' g o ob sv') (hg : lo ≤ g) (hob : ∀ b, ob = some b → lo ≤ b) (hlo : lo ≤ w.heap.size) : Below lo w w' :=
  ⟨h.os, h.tape, h.output, h.size, fun k hk => h.block k (by omega) (by omega) (fun e => by have := hob k e.symm; omega)⟩

def slotIn (x : InsD) : Bool := decide (x.op = 3) || decide (x.op = 4)
/-- Among the first k steps one gets or puts the slot v. -/
def UsedUp (l : List InsD) (k : Nat) (v : Int) : Prop := ∃ (j : Nat) (x : InsD), j < k ∧ l[j]? = some x ∧ (x.op = 3 ∨ x.op = 4) ∧ x.n = v
theorem usedUp_next {l : List InsD} {k : Nat} {x : InsD} (hx : l[k]? = some x) (v : Int) : UsedUp l (k + 1) v ↔ UsedUp l k v ∨ ((x.op = 3 ∨ x.op = 4) ∧ x.n = v) := by
  constructor
  · rintro ⟨j, y, hj, hy, h1, h2⟩
    by_cases e : j = k
    · subst e
      rw [hx] at hy
      cases hy
      exact .inr ⟨h1, h2⟩
    · exact .inl ⟨j, y, by omega, hy, h1, h2⟩
  · rintro (⟨j, y, hj, hy, h1, h2⟩ | ⟨h1, h2⟩)
    · exact ⟨j, y, by omega, hy, h1, h2⟩
    · exact ⟨k, x, by omega, hx, h1, h2⟩
theorem usedUp_zero (l : List InsD) (v : Int) : ¬ UsedUp l 0 v := fun ⟨j, _, hj, _⟩ => absurd hj (by omega)
theorem slotUsed_iff (l : List InsD) (v : Int) : slotUsed l v = true ↔ UsedUp l l.length v := by
  unfold slotUsed
  rw [List.any_eq_true]
  constructor
  · rintro ⟨x, hx, h⟩
    obtain ⟨k, hk⟩ := List.getElem?_of_mem hx
    simp at h
    exact ⟨k, x, (List.getElem?_eq_some_iff.1 hk).1, hk, h.1, h.2⟩
  · rintro ⟨j, x, hj, hx, h1, h2⟩
    refine ⟨x, List.mem_of_getElem? hx, ?_⟩
    simp
    exact ⟨h1, h2⟩
/-- The slots below k that are used. -/
def usesTo (l : List InsD) (k : Nat) : List Int := ((List.range k).map (fun (i : Nat) => (i : Int))).filter (fun v => slotUsed l v)
theorem usesTo_40 (l : List InsD) : usesTo l 40 = usesL l := rfl
theorem usesTo_len (l : List InsD) (k : Nat) : (usesTo l k).length ≤ k := by
  refine Nat.le_trans (List.length_filter_le _ _) ?_
  simp
theorem usesTo_next (l : List InsD) (k : Nat) : usesTo l (k + 1) = if slotUsed l (k : Int) = true then usesTo l k ++ [(k : Int)] else usesTo l k := by
  unfold usesTo
  rw [List.range_succ, List.map_append, List.filter_append]
  split
  · next h => simp [h]
  · next h => simp [h]
theorem usesTo_mem (l : List InsD) (k : Nat) (v : Int) : v ∈ usesTo l k ↔ (0 ≤ v ∧ v < k) ∧ slotUsed l v = true := by
  unfold usesTo
  rw [List.mem_filter, List.mem_map]
  constructor
  · rintro ⟨⟨i, hi, rfl⟩, h⟩
    have := List.mem_range.1 hi
    exact ⟨by omega, h⟩
  · rintro ⟨h1, h2⟩
    exact ⟨⟨v.toNat, List.mem_range.2 (by omega), by omega⟩, h2⟩
theorem usesTo_asc (l : List InsD) (k : Nat) : Asc (usesTo l k) := by
  induction k with
  | zero => exact List.Pairwise.nil
  | succ k ih =>
    rw [usesTo_next]
    split
    · refine List.pairwise_append.2 ⟨ih, by simp, fun a ha b hb => ?_⟩
      have h1 := ((usesTo_mem l k a).1 ha).1
      simp at hb
      omega
    · exact ih
/-- The slots of a code are slots. -/
theorem slot_in {l : List InsD} (h : machineOkB l = true) {k : Nat} {x : InsD} (hx : l[k]? = some x) (ho : x.op = 3 ∨ x.op = 4) : 0 ≤ x.n ∧ x.n < 40 := by
  have h3 := (machineOkB_parts h).2.2.1 x (List.mem_of_getElem? hx)
  obtain ⟨_, _, _, _, h4⟩ := stepOkB_parts h3
  have : holdsB 2 x.n l.length = true := by
    rcases ho with e | e
    · rw [e] at h4; exact h4
    · rw [e] at h4; exact h4
  simp [holdsB] at this
  exact this
theorem formSlot (op : Int) (h1 : formOk op = true) : (formV op).n = 2 ↔ op = 3 ∨ op = 4 := by
  have h2 : 1 ≤ op ∧ op ≤ 21 := by simpa [formOk] using h1
  rcases op_kinds op with rfl | rfl | rfl | rfl | rfl | rfl | rfl | rfl | rfl | rfl | rfl | h | h
  all_goals first
    | (rw [formV_word h.1 h.2]; constructor <;> intro e <;> first | (exact absurd e (by decide)) | omega)
    | omega
    | (constructor <;> intro e <;> first | (exact absurd e (by decide)) | decide)

/-- So far: the set has what the first k steps use. -/
def UsSt (w wr : World) (G : Nat) (l : List InsD) (k : Nat) : Prop := ∃ sv l', SetIn wr w.heap.size G 0 sv l' ∧ Asc l' ∧ In80 l' ∧ (∀ v, v ∈ l' ↔ UsedUp l k v) ∧ Below w.heap.size w wr
theorem setIn_new (w w1 : World) (t : TypeId) (hb : Below w.heap.size w w1) : SetIn ((w1.alloc (.cells #[] 3)).alloc (.cells #[.slice (some ⟨w1.heap.size, 0, none⟩) 0 0] t)) w.heap.size (w1.heap.size + 1) 0 (.slice (some ⟨w1.heap.size, 0, none⟩) 0 0) [] := by
  have e : w1.heap.size + 1 = (w1.alloc (.cells #[] 3)).heap.size := by simp
  refine ⟨?_, ?_, (ownInts_nilU rfl hb.size).keep (Bel.alloc _ _), by simp [Value.ownBlock]⟩
  · rw [e]
    simp only [World.cell?]
    rw [World.alloc_heap_new]
    rfl
  · rw [e]
    simp only [World.frozen?]
    rw [World.alloc_heap_new]
    rfl

set_option maxRecDepth 100000 in
set_option maxHeartbeats 8000000 in
theorem impl_uses (v : Value) (l : List InsD) (w : World) (ha : StepsAt w v l) (ho : OpsIn l) (hT : FTab w) :
    Calls Tryd.prog 26 #[v] w fun e w' => GivesOwn w (usesOf l) e w' := by
  have HL : Hid (StepsAt w v l) := ha
  obtain ⟨a, cap, rfl, hm, hc⟩ := ha
  obtain ⟨m, HM⟩ : ∃ m, Hid (l.length = m) := ⟨_, rfl⟩
  rw [HM.out] at hm hc ⊢
  rw [HM.out] at HL
  have HC : Hid (0 < m → ∃ b off, a = some ⟨b, off, none⟩ ∧ 0 ≤ b ∧ ∀ i x, l[i]? = some x → InsAt w b (off + i * 5) x) := hc
  have HO : Hid (OpsIn l) := ho
  have HT : Hid (FTab w) := hT
  clear hc ho hT
  obtain ⟨R, HR⟩ : ∃ R, Hid (machineOkB l = R) := ⟨_, rfl⟩
  go_enter Tryd.func26, Tryd.ntmps26
  go_wp2_with fail
  refine (impl_machineOk _ l _ HL.out HO.out HT.out).mono ?_
  rintro e w1 ⟨rfl, b1⟩
  rw [HR.out]
  have B1 : Hid (Below w.heap.size w w1) := b1
  clear b1
  cases R with
  | false =>
    have HE : Hid (usesOf l = []) := by show _ = _; unfold usesOf; rw [HR.out]; rfl
    go_wp2_with fail
    go_ret
    rw [HE.out]
    exact ⟨_, rfl, ownInts_nilU rfl B1.out.size, Bel.after B1.out (Bel.alloc _ _)⟩
  | true =>
    have HE : Hid (usesOf l = usesL l) := by show _ = _; unfold usesOf; rw [HR.out]; rfl
    have hlen := (machineOkB_parts HR.out).1
    have hlen2 := (machineOkB_parts HR.out).2.1
    rw [HM.out] at hlen hlen2
    obtain ⟨b, off, rfl, _, hc1⟩ := HC.out (by omega)
    have HC1 : Hid (∀ i x, l[i]? = some x → InsAt w b (off + i * 5) x) := hc1
    clear hc1 HC
    go_wp2_with fail
    have hS0 := setIn_new w w1 81 B1.out
    have hB0 : Below w.heap.size w ((w1.alloc (.cells #[] 3)).alloc (.cells #[.slice (some ⟨w1.heap.size, 0, none⟩) 0 0] 81)) := Bel.after B1.out (by repeat (first | exact Below.refl _ _ | apply Below.drew | refine Below.alloc ?_ (by simp <;> omega) _ | refine Below.setCell ?_ (by simp <;> omega) _))
    have HG : Hid (w.heap.size ≤ w1.heap.size + 1) := by have := B1.out.size; show _ ≤ _; omega
    generalize (w1.alloc (.cells #[] 3)).alloc (.cells #[.slice (some ⟨w1.heap.size, 0, none⟩) 0 0] 81) = W2 at hS0 hB0 ⊢
    generalize hsv : Value.slice (some ⟨w1.heap.size, 0, none⟩) 0 0 = sv0 at hS0 ⊢
    generalize w1.heap.size + 1 = G at hS0 HG ⊢
    have HS0 : Hid (UsSt w W2 G l 0) := ⟨sv0, [], hS0, asc_nil, fun x hx => (by cases hx), fun v => ⟨fun h => (by cases h), fun h => absurd h (usedUp_zero l v)⟩, hB0⟩
    clear hS0 hB0 hsv
    go_loopw [16] (fun i wr => ∃ k : Nat, k ≤ m ∧ i = .int .i64 k ∧ UsSt w wr G l k) (fun i _ => m - (intOf i).toNat)
    case atStart => exact ⟨0, Nat.zero_le _, rfl, HS0.out⟩
    case round =>
      obtain ⟨k, hk, rfl, sv, l', hset, hasc, h80, hmem, hbel⟩ := hrel
      have HST : Hid (SetIn wr w.heap.size G 0 sv l') := hset
      have HAS : Hid (Asc l') := hasc
      have H80 : Hid (In80 l') := h80
      have HME : Hid (∀ v, v ∈ l' ↔ UsedUp l k v) := hmem
      have HB : Hid (Below w.heap.size w wr) := hbel
      clear hset hasc h80 hmem hbel
      by_cases hlt : (k : Int) < (m : Int)
      · have hkl : k < l.length := by have := HM.out; omega
        obtain ⟨x, HX⟩ : ∃ x, Hid (l[k]? = some x) := ⟨l[k], List.getElem?_eq_getElem hkl⟩
        obtain ⟨c0, c1, c2, c3, c4⟩ := (HC1.out k x HX.out).keep (Keeps.of_below HB.out 0) (Nat.zero_le _)
        clear hkl
        have HXO : Hid (-9223372036854775808 ≤ x.op ∧ x.op ≤ 9223372036854775807) := HO.out.at HX.out
        have HOK : Hid (formOk x.op = true) := by
          have h3 := (stepOkB_parts ((machineOkB_parts HR.out).2.2.1 x (List.mem_of_getElem? HX.out))).1
          exact formOk_yes h3.1 h3.2
        have HSL : Hid (x.op = 3 ∨ x.op = 4 → 0 ≤ x.n ∧ x.n < 40) := slot_in HR.out HX.out
        have HNX : Hid (∀ v, UsedUp l (k + 1) v ↔ UsedUp l k v ∨ ((x.op = 3 ∨ x.op = 4) ∧ x.n = v)) := usedUp_next HX.out
        obtain ⟨x0, x1, x2, x3, x4⟩ := x
        dsimp only at c0 c1 c2 c3 c4 HXO HOK HSL HNX
        have HFS : Hid ((formV x0).n = 2 ↔ x0 = 3 ∨ x0 = 4) := formSlot x0 HOK.out
        obtain ⟨fm, HF⟩ : ∃ f, Hid (formV x0 = f) := ⟨_, rfl⟩
        obtain ⟨f0, f1, f2, f3⟩ := fm
        rw [HF.out] at HFS
        dsimp only at HFS
        go_wp2_with fail
        refine (formOf_any x0 _ HXO.out ((HT.out.keep HB.out).keep (by repeat (first | exact Below.refl _ _ | apply Below.drew | refine Below.alloc ?_ (by simp <;> omega) _ | refine Below.setCell ?_ (by simp <;> omega) _)))).mono ?_
        rintro e w2 ⟨rfl, b2⟩
        rw [HF.out, HOK.out]
        dsimp only
        have d4 : w2.cell? ⟨wr.heap.size, 4, none⟩ = some (.int .i64 x4) := ((insBox_new wr _ x0 x1 x2 x3 x4).keep b2).2.2.2.2
        have hlt2 : wr.heap.size < w2.heap.size := by have := b2.size; simp at this; omega
        have HB2 : Hid (Below wr.heap.size wr w2) := Bel.after (by repeat (first | exact Below.refl _ _ | apply Below.drew | refine Below.alloc ?_ (by simp <;> omega) _ | refine Below.setCell ?_ (by simp <;> omega) _)) b2
        clear b2
        by_cases hf : f3 = 2
        · subst hf
          have HIS : Hid (x0 = 3 ∨ x0 = 4) := HFS.out.1 rfl
          go_wp2_with fail
          have hb3 : Below wr.heap.size wr ((w2.alloc (.cells #[.int .i64 f0, .int .i64 f1, .int .i64 f2, .int .i64 2] 55)).alloc (.cells #[.int .i64 x4] 3)) := Bel.after HB2.out (by repeat (first | exact Below.refl _ _ | apply Below.drew | refine Below.alloc ?_ (by simp <;> omega) _ | refine Below.setCell ?_ (by simp <;> omega) _))
          have hrow : RowNew ((w2.alloc (.cells #[.int .i64 f0, .int .i64 f1, .int .i64 f2, .int .i64 2] 55)).alloc (.cells #[.int .i64 x4] 3)) (w2.heap.size + 1) (.slice (some ⟨w2.heap.size + 1, 0, none⟩) 1 1) [x4] := rowNew1 _ _ _ _ (by simp)
          have hsz3 : w2.heap.size + 1 < ((w2.alloc (.cells #[.int .i64 f0, .int .i64 f1, .int .i64 f2, .int .i64 2] 55)).alloc (.cells #[.int .i64 x4] 3)).heap.size := by simp
          generalize (w2.alloc (.cells #[.int .i64 f0, .int .i64 f1, .int .i64 f2, .int .i64 2] 55)).alloc (.cells #[.int .i64 x4] 3) = w3 at hb3 hrow hsz3 ⊢
          have HS3 : Hid (SetIn w3 w.heap.size G 0 sv l') := HST.out.keep hb3
          have hgl : G < wr.heap.size := HST.out.lt
          have hol : ∀ q, sv.ownBlock = some q → w.heap.size ≤ q ∧ q < wr.heap.size := fun q hq => World.ownsRow.lt HST.out.row q hq
          have hwl : w.heap.size ≤ wr.heap.size := HB.out.size
          refine (add_any w.heap.size G 0 sv (.slice (some ⟨w2.heap.size + 1, 0, none⟩) 1 1) l' [x4] _ HS3.out HAS.out H80.out (by omega) hrow.at (fun z hz => by
            have := HSL.out HIS.out
            simp at hz
            omega) (fun q hq => by
            have e : w2.heap.size + 1 = q := by simpa [Value.ownBlock] using hq
            exact ⟨by omega, by omega, fun h => by have := hol q h.symm; omega⟩)).mono ?_
          rintro e w4 ⟨⟨r4, rfl⟩, sv4, l4, s4, a4, i4, m4, t4, _⟩
          have HS4 : Hid (SetIn w4 w.heap.size G 0 sv4 l4) := s4
          have HA4 : Hid (Asc l4) := a4
          have HI4 : Hid (In80 l4) := i4
          have HM4 : Hid (∀ y, y ∈ l4 ↔ y ∈ l' ∨ y ∈ [x4]) := m4
          have HB4 : Hid (Below w.heap.size w w4) := (Bel.after HB.out hb3).trans (t4.bel HG.out (fun q hq => (hol q hq).1) (by omega))
          clear s4 a4 i4 m4 t4 hb3 hrow hsz3 hgl hol hwl
          go_wp2_with fail
          go_roundw
          case rel =>
            refine ⟨k + 1, by omega, by go_num, sv4, l4, HS4.out, HA4.out, HI4.out, fun y => ?_, HB4.out⟩
            rw [HM4.out, HME.out, HNX.out]
            refine ⟨fun h => h.elim .inl (fun h => .inr ⟨HIS.out, ?_⟩), fun h => h.elim .inl (fun h => .inr ?_)⟩
            · simp at h; exact h.symm
            · simp; exact h.2.symm
          case measure => simp [intOf]; omega
        · have hf2 : (f3 == 2) = false := by simpa using hf
          have HNO : Hid (¬ (x0 = 3 ∨ x0 = 4)) := fun h => hf (HFS.out.2 h)
          clear hf
          go_wp2_with fail
          go_roundw
          case rel =>
            refine ⟨k + 1, by omega, by go_num, sv, l', HST.out.keep (Bel.after HB2.out (Bel.alloc _ _)), HAS.out, H80.out, fun v => ?_, Bel.after HB.out (Bel.after HB2.out (Bel.alloc _ _))⟩
            rw [HME.out, HNX.out]
            exact ⟨.inl, fun h => h.elim id (fun h => absurd h.1 HNO.out)⟩
          case measure => simp [intOf]; omega
      · have hkn : k = m := by omega
        subst hkn
        have c0 := HST.out.cell
        have HEQ : Hid (l' = usesL l) := by
          refine asc_ext HAS.out (usesTo_asc l 40) (fun v => ?_)
          rw [HME.out, ← usesTo_40, usesTo_mem, slotUsed_iff, HM.out]
          refine ⟨fun h => ⟨?_, h⟩, fun h => h.2⟩
          obtain ⟨j, x, _, hx, h1, h2⟩ := h
          have := slot_in HR.out hx h1
          omega
        go_wp2_with fail
        go_ret
        rw [HE.out, ← HEQ.out]
        exact ⟨sv, rfl, HST.out.row, HB.out⟩

set_option maxRecDepth 100000 in
set_option maxHeartbeats 8000000 in
theorem spec_uses (v : Value) (l : List InsD) (w : World) (ha : StepsAt w v l) (ho : OpsIn l) :
    Calls Tryd.prog 25 #[v] w fun e w' => GivesOwn w (usesOf l) e w' := by
  have HL : Hid (StepsAt w v l) := ha
  obtain ⟨a, cap, rfl, hm, hc⟩ := ha
  obtain ⟨m, HM⟩ : ∃ m, Hid (l.length = m) := ⟨_, rfl⟩
  rw [HM.out] at hm hc ⊢
  rw [HM.out] at HL
  have HC : Hid (0 < m → ∃ b off, a = some ⟨b, off, none⟩ ∧ 0 ≤ b ∧ ∀ i x, l[i]? = some x → InsAt w b (off + i * 5) x) := hc
  have HO : Hid (OpsIn l) := ho
  clear hc ho
  obtain ⟨R, HR⟩ : ∃ R, Hid (machineOkB l = R) := ⟨_, rfl⟩
  obtain ⟨i0, hi, hz0, hz1, hz2⟩ := info_parts info_intU
  have hmx : 2000 ≤ maxLen := by decide
  go_enter Tryd.func25, Tryd.ntmps25
  go_wp2_with fail
  have HO0 : Hid (OwnInts (w.alloc (.cells #[] 3)) w.heap.size (.slice (some ⟨w.heap.size, 0, none⟩) 0 0) []) := ownInts_nilU rfl (Nat.le_refl _)
  have HB0 : Hid (Below w.heap.size w (w.alloc (.cells #[] 3))) := Bel.alloc _ _
  generalize w.alloc (.cells #[] 3) = W1 at HO0 HB0 ⊢
  generalize Value.slice (some ⟨w.heap.size, 0, none⟩) 0 0 = sv0 at HO0 ⊢
  go_loopw [3, 4] (fun s i wr => ∃ k : Nat, k ≤ 40 ∧ i = .int .i64 k ∧ OwnInts wr w.heap.size s (if R = true then usesTo l k else []) ∧ Below w.heap.size w wr) (fun _ i _ => 40 - (intOf i).toNat)
  case atStart => exact ⟨0, Nat.zero_le _, rfl, by have h := HO0.out; cases R <;> exact h, HB0.out⟩
  case round =>
    obtain ⟨wo, hwo⟩ : ∃ x, x = wr := ⟨_, rfl⟩
    subst hwo
    obtain ⟨k, hk, rfl, hown, hbel⟩ := hrel
    have HOW : Hid (OwnInts wo w.heap.size u3 (if R = true then usesTo l k else [])) := hown
    have HB : Hid (Below w.heap.size w wo) := hbel
    clear hown hbel
    by_cases hlt : (k : Int) < 40
    · go_wp2_with fail
      refine (spec_machineOk _ l _ (places_keep HL.out (Keeps.of_below HB.out 0)) HO.out).mono ?_
      rintro e w1 ⟨rfl, b1⟩
      rw [HR.out]
      have B1 : Hid (Below wo.heap.size wo w1) := b1
      clear b1
      cases R with
      | false =>
        have HE : Hid (usesOf l = []) := by show _ = _; unfold usesOf; rw [HR.out]; rfl
        go_wp2_with fail
        go_ret
        rw [HE.out]
        exact ⟨_, rfl, HOW.out.keep B1.out, Bel.after HB.out B1.out⟩
      | true =>
        have HOW1 : Hid (OwnInts w1 w.heap.size u3 (usesTo l k)) := HOW.out.keep B1.out
        have HB1 : Hid (Below w.heap.size w w1) := Bel.after HB.out B1.out
        have hlen := (machineOkB_parts HR.out).1
        have hlen2 := (machineOkB_parts HR.out).2.1
        rw [HM.out] at hlen hlen2
        obtain ⟨b, off, rfl, _, hc1⟩ := HC.out (by omega)
        have HC1 : Hid (∀ i x, l[i]? = some x → InsAt w b (off + i * 5) x) := hc1
        have htl := usesTo_len l k
        clear hc1 HOW B1
        go_wp2_with fail
        go_loopw [5, 6] (fun s i wr => ∃ (j : Nat) (u : Bool), j ≤ m ∧ i = .int .i64 j ∧ s = .bool u ∧ (u = true ↔ UsedUp l j (k : Int)) ∧ wr = w1) (fun _ i _ => m - (intOf i).toNat)
        case atStart => exact ⟨0, false, Nat.zero_le _, rfl, rfl, ⟨fun h => (by cases h), fun h => absurd h (usedUp_zero l _)⟩, rfl⟩
        case round =>
          obtain ⟨j, u, hj, rfl, rfl, hu, hwr⟩ := hrel
          have HU : Hid (u = true ↔ UsedUp l j (k : Int)) := hu
          clear hu
          replace hwr := hwr.symm
          subst hwr
          by_cases hlt2 : (j : Int) < (m : Int)
          · have hjl : j < l.length := by have := HM.out; omega
            obtain ⟨x, HX⟩ : ∃ x, Hid (l[j]? = some x) := ⟨l[j], List.getElem?_eq_getElem hjl⟩
            obtain ⟨c0, c1, c2, c3, c4⟩ := (HC1.out j x HX.out).keep (Keeps.of_below HB1.out 0) (Nat.zero_le _)
            have HNX : Hid (UsedUp l (j + 1) (k : Int) ↔ UsedUp l j (k : Int) ∨ ((x.op = 3 ∨ x.op = 4) ∧ x.n = (k : Int))) := usedUp_next HX.out (k : Int)
            obtain ⟨x0, x1, x2, x3, x4⟩ := x
            dsimp only at c0 c1 c2 c3 c4 HNX
            clear hjl
            cases u with
            | true =>
              go_wp2_with fail
              go_roundw
              case rel => exact ⟨j + 1, true, by omega, by go_num, rfl, ⟨fun _ => HNX.out.2 (.inl (HU.out.1 rfl)), fun _ => rfl⟩, by trivial⟩
              case measure => simp [intOf]; omega
            | false =>
              have HNU : Hid (¬ UsedUp l j (k : Int)) := fun h => by have := HU.out.2 h; cases this
              by_cases h3 : x0 = 3
              · subst h3
                go_wp2_with fail
                go_roundw
                case rel => exact ⟨j + 1, (x4 == (k : Int)), by omega, by go_num, rfl, ⟨fun h => HNX.out.2 (.inr ⟨.inl rfl, by simpa using h⟩), fun h => (HNX.out.1 h).elim (fun h => absurd h HNU.out) (fun h => by simpa using h.2)⟩, by trivial⟩
                case measure => simp [intOf]; omega
              · have e3 : (x0 == 3) = false := by simpa using h3
                have H3 : Hid (¬ x0 = 3) := h3
                clear h3
                by_cases h4 : x0 = 4
                · subst h4
                  go_wp2_with fail
                  go_roundw
                  case rel => exact ⟨j + 1, (x4 == (k : Int)), by omega, by go_num, rfl, ⟨fun h => HNX.out.2 (.inr ⟨.inr rfl, by simpa using h⟩), fun h => (HNX.out.1 h).elim (fun h => absurd h HNU.out) (fun h => by simpa using h.2)⟩, by trivial⟩
                  case measure => simp [intOf]; omega
                · have e4 : (x0 == 4) = false := by simpa using h4
                  have H4 : Hid (¬ x0 = 4) := h4
                  clear h4
                  go_wp2_with fail
                  go_roundw
                  case rel => exact ⟨j + 1, false, by omega, by go_num, rfl, ⟨fun h => (by cases h), fun h => (HNX.out.1 h).elim (fun h => absurd h HNU.out) (fun h => absurd h.1 (fun q => q.elim H3.out H4.out))⟩, by trivial⟩
                  case measure => simp [intOf]; omega
          · have hjn : j = m := by omega
            subst hjn
            have HSU : Hid (slotUsed l (k : Int) = u) := by
              show _ = _
              rw [Bool.eq_iff_iff, slotUsed_iff, HM.out]
              exact HU.out.symm
            have HNT : Hid (usesTo l (k + 1) = if slotUsed l (k : Int) = true then usesTo l k ++ [(k : Int)] else usesTo l k) := usesTo_next l k
            rw [HSU.out] at HNT
            cases u with
            | false =>
              go_wp2_with fail
              go_roundw
              case rel =>
                refine ⟨k + 1, by omega, by go_num, ?_, HB1.out⟩
                rw [HNT.out]
                exact HOW1.out
              case measure => simp [intOf]; omega
            | true =>
              go_wp2_with (at_builtin; refine wpList_append_own _ rfl _ _ 39 rfl w.heap.size 3 i0 (.int .i64 0) 1 8 Tryd.underlying39 hi hz0 hz1 hz2 rfl (by decide) _ _ _ rfl (World.ownsRow.alloc HOW1.out _) ⟨w1.heap.size, 0, none⟩ 1 1 [.int .i64 (k : Int)] rfl rfl (cell_one_new _ _ _) (by simp [Value.oneCell']) (by omega) (by omega) (by have := HB1.out.size; simp; omega) ?_; intro v' wa hown' hgrow _; have HO' : Hid (OwnInts wa w.heap.size v' (usesTo l k ++ [(k : Int)])) := OwnInts.nextU hown'; have HBA : Hid (Below w.heap.size w wa) := (HB1.out.alloc HB1.out.size _).trans (ownsRow_underU (World.ownsRow.alloc HOW1.out _) (by have := HB1.out.size; simp; omega) hgrow); clear hown' hgrow)
              go_roundw
              case rel =>
                refine ⟨k + 1, by omega, by go_num, ?_, HBA.out⟩
                rw [HNT.out]
                exact HO'.out
              case measure => simp [intOf]; omega
    · have hkn : k = 40 := by omega
      subst hkn
      go_wp2_with fail
      go_ret
      refine ⟨_, rfl, ?_, HB.out⟩
      have h := HOW.out
      unfold usesOf
      rw [HR.out]
      exact h
end Go.Proofs.YtebcocehdjoafaaDoor
