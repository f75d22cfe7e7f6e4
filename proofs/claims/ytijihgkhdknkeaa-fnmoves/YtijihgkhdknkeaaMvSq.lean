/- Sequence, of the program. -/
import Derived.Test.YtijihgkhdknkeaaMvImp
import Derived.Sort.KeysCollected
namespace Go.Proofs.Ytijihgkhdknkeaa
open Go.ChangeShapes Go.WideShapes Go.ChangeAt Go.RowKit
set_option linter.unusedVariables false

/-- What is left of the first k, each by its place. -/
def leftM (l : List ArmD) : Nat → List (Nat × ArmD)
  | 0 => []
  | k + 1 => match l[k]? with
    | some x => if x.fr ≠ x.v then leftM l k ++ [(k, x)] else leftM l k
    | none => leftM l k
theorem leftM_lt (l : List ArmD) : ∀ k, ∀ p ∈ leftM l k, p.1 < k
  | 0, p, h => by cases h
  | k + 1, p, h => by
    unfold leftM at h
    split at h
    · split at h
      · rcases List.mem_append.1 h with h | h
        · have := leftM_lt l k p h; omega
        · simp at h; rw [h]; simp
      · have := leftM_lt l k p h; omega
    · have := leftM_lt l k p h; omega
theorem leftM_up (l : List ArmD) : ∀ k, KeysUp (leftM l k)
  | 0 => List.Pairwise.nil
  | k + 1 => by
    unfold leftM
    split
    · split
      · exact (leftM_up l k).add (leftM_lt l k) _
      · exact leftM_up l k
    · exact leftM_up l k
theorem leftM_yes {l : List ArmD} {k : Nat} {x : ArmD} (hx : l[k]? = some x) (h : x.fr ≠ x.v) : leftM l (k + 1) = leftM l k ++ [(k, x)] := by
  rw [leftM, hx]
  simp [h]
theorem leftM_no {l : List ArmD} {k : Nat} {x : ArmD} (hx : l[k]? = some x) (h : x.fr = x.v) : leftM l (k + 1) = leftM l k := by
  rw [leftM, hx]
  simp [h]
theorem leftM_init {l : List ArmD} : ∀ k, k ≤ l.length → (leftM l k).map (fun p => p.2) = seqInit (l.take k)
  | 0, _ => by simp [leftM, seqInit]
  | k + 1, hk => by
    have hx : l[k]? = some l[k] := List.getElem?_eq_getElem (by omega)
    have ih := leftM_init (l := l) k (by omega)
    rw [take_one_more hx]
    unfold seqInit at ih ⊢
    rw [List.filter_append]
    by_cases h : l[k].fr = l[k].v
    · rw [leftM_no hx h, ih]
      simp [h]
    · rw [leftM_yes hx h, List.map_append, ih]
      simp [h]
theorem leftM_len (l : List ArmD) : ∀ k, (leftM l k).length ≤ k
  | 0 => Nat.le_refl _
  | k + 1 => by
    have := leftM_len l k
    unfold leftM
    split
    · split
      · rw [List.length_append]; simp; omega
      · omega
    · omega
def GivesLeft (w : World) (n : Nat) (M : List (Nat × ArmD)) (e : Ending) (w' : World) : Prop := ∃ mb, e = .returned (.map (some mb)) ∧ w.heap.size ≤ mb ∧ MapF w' mb n (mget M) ∧ Below w.heap.size w w'

set_option maxHeartbeats 4000000 in
theorem leftOf_any (v : Value) (l : List ArmD) (w : World) (ha : MovesAt w v l) (h24 : l.length ≤ 24) :
    Calls Try.prog 34 #[v] w fun e w' => GivesLeft w l.length (leftM l l.length) e w' := by
  obtain ⟨a, cap, rfl, hm, hc⟩ := ha
  obtain ⟨m, HM⟩ : ∃ m, Hid (l.length = m) := ⟨_, rfl⟩
  rw [HM.out] at hm hc h24 ⊢
  have HC : Hid (0 < m → ∃ b off, a = some ⟨b, off, none⟩ ∧ 0 ≤ b ∧ ∀ i x, l[i]? = some x → ArmAt w b (off + i * 2) x) := hc
  have hmx : 2000 ≤ maxLen := by decide
  clear hc
  have hmm := @run_makeMap Try.prog
  go_enter Try.func34, Try.ntmps34
  go_wp2_with fail
  clear hmm
  have M0 : Hid (MapF (w.alloc (.map #[] 0)) w.heap.size 0 (mget [])) := ⟨.map [], World.ownsMap_made w _ _ _, fun x => rfl, fun x m hx => by cases hx⟩
  have B0 : Hid (Below w.heap.size w (w.alloc (.map #[] 0))) := Bel.alloc _ _
  generalize w.alloc (.map #[] 0) = w0 at M0 B0 ⊢
  go_loopw [9] (fun i wr => ∃ k : Nat, k ≤ m ∧ i = .int .i64 k ∧ MapF wr w.heap.size k (mget (leftM l k)) ∧ Below w.heap.size w wr) (fun i _ => m - (intOf i).toNat)
  case atStart => exact ⟨0, Nat.zero_le _, rfl, M0.out, B0.out⟩
  case round =>
    obtain ⟨k, hk, rfl, hMp, hB⟩ := hrel
    have HMP : Hid (MapF wr w.heap.size k (mget (leftM l k))) := hMp
    have HB : Hid (Below w.heap.size w wr) := hB
    clear hMp hB
    by_cases hlt : (k : Int) < (m : Int)
    · obtain ⟨b, off, rfl, _, hc1⟩ := HC.out (by omega)
      have hkl : k < l.length := by have := HM.out; omega
      obtain ⟨x, HX⟩ : ∃ x, Hid (l[k]? = some x) := ⟨l[k], List.getElem?_eq_getElem hkl⟩
      obtain ⟨c0, c1⟩ := (hc1 k x HX.out).keep (Keeps.of_below HB.out 0) (Nat.zero_le _)
      have hsz := HB.out.size
      clear hc1 hkl
      obtain ⟨d, s⟩ := x
      dsimp only at c0 c1
      by_cases hs : d = s
      · have hee : (d != s) = false := by simp [hs]
        have HS : Hid (d = s) := hs
        clear hs
        go_wp2_with fail
        go_roundw
        case rel =>
          refine ⟨k + 1, by omega, by go_num, ?_, HB.out.alloc hsz _⟩
          rw [leftM_no HX.out HS.out]
          exact (HMP.out.kept (Bel.alloc _ _)).mono (by omega)
        case measure => simp [intOf]; omega
      · have hee : (d != s) = true := by simpa using hs
        have HS : Hid (¬ d = s) := hs
        clear hs
        obtain ⟨D, hown, hrd⟩ := HMP.out
        have HRD : Hid (ReadsF D (mget (leftM l k))) := hrd
        have HOWN : Hid (wr.ownsMap Try.prog 3 spotElem w.heap.size k D) := hown
        have HKEY : Hid (keyOf Try.prog 3 (.int .i64 (k : Int)) = some (.int .i64 (k : Int))) := key_int (wf_small (by omega) (by omega))
        clear hown hrd
        go_wp2_with (at_mapUpdate; refine wpList_mapUpdate_own _ rfl _ _ _ 48 rfl 3 44 keyed_int Try.underlying48 _ w.heap.size _ D rfl (HOWN.out.alloc _) (by omega) _ _ _ rfl rfl HKEY.out _ _ (spotElem_mk ⟨d, s⟩) ?_; intro w2 hown2 hg2; have HOWN2 : Hid (w2.ownsMap Try.prog 3 spotElem w.heap.size (k + 1) (D.put (.int .i64 (k : Int)) (litOf ⟨d, s⟩))) := hown2; have HG2 : Hid (World.grownBy _ w2 (some w.heap.size)) := hg2; clear hown2 hg2)
        go_roundw
        case rel =>
          refine ⟨k + 1, by omega, by go_num, ?_, (HB.out.alloc hsz _).grown HG2.out (by simp; omega) (fun j e => by cases e; exact Nat.le_refl _)⟩
          rw [leftM_yes HX.out HS.out]
          refine MapF.congr ⟨_, HOWN2.out, HRD.out.put (isMap_of HOWN.out) _ _⟩ (fun y => ?_)
          exact (mget_add (leftM_up l k) (leftM_lt l k) _ y).symm
        case measure => simp [intOf]; omega
    · have hkm : k = m := by omega
      subst hkm
      go_wp2
      go_ret
      exact ⟨_, rfl, Nat.le_refl _, HMP.out, HB.out⟩

/-- Moves and whether there are, in new memory. -/
def GivesSeq (w : World) (l : List ArmD) (b : Bool) (e : Ending) (w' : World) : Prop := ∃ v, e = .returned (.tuple #[v, .bool b]) ∧ OwnMoves w' w.heap.size v l ∧ Below w.heap.size w w'
/-- What Sequence gives. -/
def seqRow (l : List ArmD) (n : Int) : List ArmD := if movesOk l n then seqOf n l else []
theorem size_of_reads {D : DataW Unit} {M : List (Nat × ArmD)} (hm : Maps.IsMap D) (h : ReadsF D (mget M)) (hk : KeysUp M) (hkeys : ∃ es, D = .map es ∧ ∀ p ∈ es, ∃ x, p.1 = Lit.int .i64 x) : (0 < Maps.size D) ↔ M ≠ [] := by
  obtain ⟨es, rfl, hke⟩ := hkeys
  rw [Maps.size_eq]
  constructor
  · intro hp e
    subst e
    cases es with
    | nil => simp at hp
    | cons p es =>
      obtain ⟨x, hx⟩ := hke p (by simp)
      have h1 := h.1 x
      rw [Maps.has_eq, List.any_cons, hx] at h1
      simp [Lit.sameKey, mget] at h1
  · intro hne
    cases M with
    | nil => exact absurd rfl hne
    | cons p M =>
      have h1 := h.1 (p.1 : Int)
      rw [(mget_iff hk (m := p.2)).2 ⟨p.1, by simp, rfl⟩] at h1
      cases es with
      | nil => simp [Maps.has_eq] at h1
      | cons q es => simp
theorem own_keys {w : World} {mb n : Nat} {D : DataW Unit} (h : w.ownsMap Try.prog 3 spotElem mb n D) : ∃ es, D = .map es ∧ ∀ p ∈ es, ∃ x, p.1 = Lit.int .i64 x := by
  obtain ⟨es, hD, hk⟩ := h.keysOf
  refine ⟨es, hD, fun p hp => ?_⟩
  obtain ⟨key, hkey⟩ := hk p hp
  obtain ⟨x, _, e, _⟩ := Maps.keyOf_int_inv Try.underlying3 hkey
  exact ⟨x, e⟩
theorem seqStep_some {n : Int} {left o : List ArmD} {i : Nat} {x : ArmD} (hf : mvFree left = some i) (hx : left[i]? = some x) : seqStep n (left, o) = (left.eraseIdx i, o ++ [x]) := by
  cases left with
  | nil => simp at hx
  | cons y r =>
    unfold seqStep
    dsimp only
    rw [hf]
    dsimp only
    rw [List.getD_eq_getElem?_getD, hx]
    rfl
theorem seqStep_none {n : Int} {y : ArmD} {r o : List ArmD} (hf : mvFree (y :: r) = none) : seqStep n (y :: r, o) = ((y :: r).map (mvFrom n y.fr), o ++ [⟨n, y.fr⟩]) := by
  unfold seqStep
  dsimp only
  rw [hf]
theorem eraseIdx_map {α β : Type} (f : α → β) : ∀ (l : List α) (i : Nat), (l.eraseIdx i).map f = (l.map f).eraseIdx i
  | [], i => by simp
  | x :: l, 0 => by simp
  | x :: l, i + 1 => by simp [eraseIdx_map f l i]

def lenOfV : Value → Nat
  | .slice _ k _ => k
  | _ => 0
theorem cells_two (w : World) (a b : Value) (T : TypeId) : ∀ j u, [a, b][j]? = some u → (w.alloc (.cells #[a, b] T)).cell? ((⟨w.heap.size, 0, none⟩ : Addr).add j) = some u := fun j u hu => by
  rw [addr_add, Nat.zero_add, World.cell?_alloc_new]
  rcases j with _ | _ | j
  · simpa using hu
  · simpa using hu
  · simp at hu
theorem row_ne_map {w : World} {lo : Nat} {v : Value} {l : List ArmD} (h : OwnMoves w lo v l) {mb n : Nat} {f : Int → Option ArmD} (hm : MapF w mb n f) : some mb ≠ v.ownBlock := by
  obtain ⟨es, ck, hm⟩ := hm.isMap
  rcases h.2 with ⟨rfl, _⟩ | ⟨g, cap, cur, rfl, _, hgb, _⟩
  · simp [Value.ownBlock]
  · intro e
    simp [Value.ownBlock] at e
    subst e
    rw [hm] at hgb
    cases hgb
theorem MapF.grownBy {w w' : World} {mb n : Nat} {f : Int → Option ArmD} {row : Option Nat} (h : MapF w mb n f) (hg : w.grownBy w' row) (hne : some mb ≠ row) : MapF w' mb n f := by
  obtain ⟨D, h1, h2⟩ := h
  exact ⟨D, h1.kept hg hne, h2⟩
theorem OwnMoves.fr {w w' : World} {lo mb : Nat} {v : Value} {l : List ArmD} (h : OwnMoves w lo v l) (hf : Fr mb w w') (hm : some mb ≠ v.ownBlock) : OwnMoves w' lo v l := by
  obtain ⟨h0, h1⟩ := h
  refine ⟨h0, ?_⟩
  rcases h1 with h1 | ⟨g, cap, cur, rfl, hlo, hg, h2⟩
  · exact .inl h1
  · exact .inr ⟨g, cap, cur, rfl, hlo, (hf.block g (Array.getElem?_eq_some_iff.1 hg).1 (fun e => hm (by rw [e]; rfl))).trans hg, h2⟩
theorem OwnMoves.shape {w : World} {lo : Nat} {v : Value} {l : List ArmD} (h : OwnMoves w lo v l) {k : Nat} (hk : l.length = k) : ∃ a c, v = .slice a k c := by
  obtain ⟨a, c, e, _⟩ := h.row
  exact ⟨a, c, by rw [e, hk]⟩
theorem seqLen_less {n : Int} {left o : List ArmD} (h : LeftOk n left) (hne : left ≠ []) : seqLen (seqStep n (left, o)).1 < seqLen left := by
  cases left with
  | nil => exact absurd rfl hne
  | cons x r => exact seqLen_step h

set_option maxHeartbeats 8000000 in
theorem impl_sequence (v : Value) (l : List ArmD) (n : Int) (w : World) (ha : MovesAt w v l) :
    Calls Try.prog 12 #[v, .int .i64 n] w fun e w' => GivesSeq w (seqRow l n) (movesOk l n) e w' := by
  have HA : Hid (MovesAt w v l) := ha
  obtain ⟨a, cap, rfl, hm, hc⟩ := ha
  obtain ⟨m, HM⟩ : ∃ m, Hid (l.length = m) := ⟨_, rfl⟩
  obtain ⟨R, HR⟩ : ∃ R, Hid (movesOk l n = R) := ⟨_, rfl⟩
  obtain ⟨L, HL⟩ : ∃ L, Hid (seqRow l n = L) := ⟨_, rfl⟩
  rw [HM.out] at hm hc HA ⊢
  rw [HR.out, HL.out]
  clear hc
  obtain ⟨i0, hi, hz0, hz1, hz2⟩ := info_parts info_move
  have hmx : 20000 ≤ maxLen := by decide
  go_enter Try.func12, Try.ntmps12
  go_wp2_with fail
  obtain ⟨w1, hw1⟩ : ∃ W, w.alloc (.cells #[] 44) = W := ⟨_, rfl⟩
  have B1 : Hid (Below w.heap.size w w1) := by show Below _ _ _; rw [← hw1]; repeat (first | exact Below.refl _ _ | apply Below.drew | refine Below.alloc ?_ (by simp <;> omega) _ | refine Below.setCell ?_ (by simp <;> omega) _)
  have O1 : Hid (OwnMoves w1 w.heap.size (.slice (some ⟨w.heap.size, 0, none⟩) 0 0) []) := by show OwnMoves _ _ _ _; rw [← hw1]; exact ownMoves_nil (w := w) (World.alloc_heap_new w _) (Nat.le_refl _)
  rw [hw1]
  clear hw1
  refine (impl_movesOk _ l n _ (HA.out.keep B1.out)).mono ?_
  rw [HR.out]
  rintro e w2 ⟨rfl, b2⟩
  have B2 : Hid (Below w.heap.size w w2) := Bel.after B1.out b2
  have O2 : Hid (OwnMoves w2 w.heap.size (.slice (some ⟨w.heap.size, 0, none⟩) 0 0) []) := O1.out.keep b2
  clear b2
  cases R with
  | false =>
    obtain rfl : [] = L := by rw [← HL.out]; unfold seqRow; rw [HR.out]; rfl
    go_wp2_with fail
    go_ret2
    exact ⟨_, rfl, O2.out, B2.out⟩
  | true =>
    have HE : Hid (seqOf n l = L) := by show _ = _; rw [← HL.out]; unfold seqRow; rw [HR.out]; rfl
    have h24 : m ≤ 24 := by have := movesOk_len HR.out; have := HM.out; omega
    go_wp2_with fail
    refine (leftOf_any _ l _ (HA.out.keep B2.out) (by have := HM.out; omega)).mono ?_
    rw [HM.out]
    rintro e w3 ⟨mb, rfl, hmb, hMp, b3⟩
    have M3 : Hid (MapF w3 mb m (mget (leftM l m))) := hMp
    have O3 : Hid (OwnMoves w3 w.heap.size (.slice (some ⟨w.heap.size, 0, none⟩) 0 0) []) := O2.out.keep b3
    have B3 : Hid (Below w.heap.size w w3) := Bel.after B2.out b3
    have hmb2 : w.heap.size ≤ mb := Nat.le_trans B2.out.size hmb
    clear hMp b3 hmb
    go_wp2_with fail
    go_loopw [6] (fun s wr => ∃ (M : List (Nat × ArmD)) (o : List ArmD) (j : Nat), seqN n j (seqInit l, []) = (M.map (fun p => p.2), o) ∧ KeysUp M ∧ (∀ p ∈ M, p.1 < 24) ∧ M.length ≤ 24 ∧ o.length = j ∧ j + seqLen (M.map (fun p => p.2)) ≤ 48 ∧ MapF wr mb (m + 24 * j) (mget M) ∧ OwnMoves wr w.heap.size s o ∧ Below w.heap.size w wr)
      (fun s _ => 48 - lenOfV s)
    case atStart =>
      have hi0 : (leftM l m).map (fun p => p.2) = seqInit l := by
        have := leftM_init (l := l) m (by have := HM.out; omega)
        rwa [List.take_of_length_le (by have := HM.out; omega)] at this
      refine ⟨leftM l m, [], 0, by rw [hi0]; rfl, leftM_up l m, fun p hp => by have := leftM_lt l m p hp; omega, by have := leftM_len l m; omega, rfl, ?_, by simpa using M3.out, O3.out, B3.out⟩
      have : ((leftM l m).map (fun p => p.2)).length ≤ 24 := by rw [List.length_map]; have := leftM_len l m; omega
      unfold seqLen
      omega
    case round =>
      obtain ⟨M, o, j, hj, hk, hlt, hml, hol, hsl, hMp, ho, hB⟩ := hrel
      have HJ : Hid (seqN n j (seqInit l, []) = (M.map (fun p => p.2), o)) := hj
      have HK : Hid (KeysUp M) := hk
      have HLT : Hid (∀ p ∈ M, p.1 < 24) := hlt
      have HML : Hid (M.length ≤ 24) := hml
      have HOL : Hid (o.length = j) := hol
      have HSL : Hid (j + seqLen (M.map (fun p => p.2)) ≤ 48) := hsl
      have HMP : Hid (MapF wr mb (m + 24 * j) (mget M)) := hMp
      have HO : Hid (OwnMoves wr w.heap.size u6 o) := ho
      have HB : Hid (Below w.heap.size w wr) := hB
      have HLO : Hid (LeftOk n (M.map (fun p => p.2))) := by
        have := LeftOk.seqN (n := n) j (s := (seqInit l, [])) (LeftOk.init HR.out)
        rw [hj] at this
        exact this
      obtain ⟨ua, ucap, hu6⟩ : ∃ ua ucap, u6 = .slice ua j ucap := by
        obtain ⟨a9, c9, e9, _⟩ := ho.row
        exact ⟨a9, c9, by rw [e9, hol]⟩
      subst hu6
      clear hj hk hlt hml hol hsl hMp ho hB
      obtain ⟨D, hown, hrd⟩ := HMP.out
      have HOWN : Hid (wr.ownsMap Try.prog 3 spotElem mb (m + 24 * j) D) := hown
      have HRD : Hid (ReadsF D (mget M)) := hrd
      have HSZ : Hid ((0 < Maps.size D) ↔ M ≠ []) := size_of_reads (isMap_of hown) hrd HK.out (own_keys hown)
      obtain ⟨q, HQ⟩ : ∃ q, Hid (Maps.size D = q) := ⟨_, rfl⟩
      clear hrd
      by_cases hq : (q : Int) > 0
      · have HNE : Hid (M ≠ []) := HSZ.out.1 (by rw [HQ.out]; omega)
        have hj48 : j + 1 ≤ 48 := by
          have h1 := HSL.out
          cases hM : M.map (fun p => p.2) with
          | nil => exact absurd (List.map_eq_nil_iff.1 hM) HNE.out
          | cons x r =>
            have h2 := seqLen_step (o := []) (by have := HLO.out; rwa [hM] at this)
            rw [hM] at h1
            omega
        go_wp2_with (at_len; refine wpList_len_own _ rfl _ 48 rfl 3 44 Try.underlying48 _ mb _ D rfl hown ?_; rw [HQ.out]; clear hown)
        refine (places_any mb (m + 24 * j) M _ HMP.out HK.out (by omega)).mono ?_
        rintro e w4 ⟨pv, rfl, o4, b4⟩
        have P4 : Hid (OwnInts w4 wr.heap.size pv (keysOf M)) := o4
        have M4 : Hid (MapF w4 mb (m + 24 * j) (mget M)) := HMP.out.kept b4
        have O4 : Hid (OwnMoves w4 w.heap.size (.slice ua j ucap) o) := HO.out.keep b4
        have B4 : Hid (Below w.heap.size w w4) := Bel.after HB.out b4
        have hs4 : wr.heap.size ≤ w4.heap.size := b4.size
        clear o4 b4
        go_wp2_with fail
        refine (free_any mb (m + 24 * j) M pv _ M4.out HK.out P4.out.at HLT.out).mono ?_
        rintro e w5 ⟨⟨fk, fb, rfl, hyes, hnot⟩, b5⟩
        have HYES : Hid (fb = true → ∃ i p, M[i]? = some p ∧ (p.1 : Int) = fk ∧ mvFree (M.map (fun p => p.2)) = some i) := hyes
        have HNOT : Hid (fb = false → mvFree (M.map (fun p => p.2)) = none) := hnot
        have P5 : Hid (OwnInts w5 wr.heap.size pv (keysOf M)) := P4.out.keep b5
        have M5 : Hid (MapF w5 mb (m + 24 * j) (mget M)) := M4.out.kept b5
        have O5 : Hid (OwnMoves w5 w.heap.size (.slice ua j ucap) o) := O4.out.keep b5
        have B5 : Hid (Below w.heap.size w w5) := Bel.after B4.out b5
        have hsz5 := B5.out.size
        clear hyes hnot b5
        cases fb with
        | true =>
          obtain ⟨i, p, hp, e, hfr⟩ := HYES.out rfl
          have HP : Hid (M[i]? = some p) := hp
          have HFR : Hid (mvFree (M.map (fun p => p.2)) = some i) := hfr
          subst e
          clear hp hfr HYES HNOT
          obtain ⟨pk, d, s⟩ := p
          dsimp only
          have hpk : pk < 24 := HLT.out _ (List.mem_of_getElem? HP.out)
          have HGET : Hid (mget M (pk : Int) = some ⟨d, s⟩) := (mget_iff HK.out).2 ⟨pk, List.mem_of_getElem? HP.out, rfl⟩
          have HKEY : Hid (keyOf Try.prog 3 (.int .i64 (pk : Int)) = some (.int .i64 (pk : Int))) := key_int (wf_small (by omega) (by omega))
          obtain ⟨D5, hown5, hrd5⟩ := M5.out
          have HOWN5 : Hid (w5.ownsMap Try.prog 3 spotElem mb (m + 24 * j) D5) := hown5
          have HRD5 : Hid (ReadsF D5 (mget M)) := hrd5
          have hne5 := row_ne_map (World.ownsRow.alloc O5.out (.cells #[.int .i64 d, .int .i64 s] 44)) (M5.out.kept (Bel.alloc _ (.cells #[.int .i64 d, .int .i64 s] 44)))
          have HNE5 : Hid (some mb ≠ (Value.slice ua j ucap).ownBlock) := hne5
          clear hown5 hrd5 hne5
          go_wp2_with (first
            | (at_lookup; refine wpList_lookup_mv _ rfl _ _ 48 rfl 3 44 keyed_int Try.underlying3 Try.underlying48 (zero_move _) mb _ D5 rfl HOWN5.out _ _ rfl HKEY.out _ (HRD5.out.2 _ _ HGET.out) ?_)
            | (at_builtin; refine wpList_append_own _ rfl _ _ 24 rfl w.heap.size 44 i0 (.agg #[.int .i64 0, .int .i64 0]) 2 16 Try.underlying24 hi hz0 hz1 hz2 rfl (by decide) _ o.length (moveC o) rfl (World.ownsRow.alloc O5.out _) ⟨w5.heap.size, 0, none⟩ 1 1 [.int .i64 d, .int .i64 s] rfl rfl (cells_two w5 _ _ _) (by simp [Value.oneCell']) (by have := HOL.out; omega) (by have := HOL.out; omega) (by simp; omega) ?_; intro v' wa hown' hgrow hnil; have HO' : Hid (OwnMoves wa w.heap.size v' (o ++ [⟨d, s⟩])) := OwnMoves.next hown'; have HG : Hid (Below w.heap.size (w5.alloc _) wa) := ownsRow_under (World.ownsRow.alloc O5.out _) (by simp; omega) hgrow; have HOWA : Hid (wa.ownsMap Try.prog 3 spotElem mb (m + 24 * j) D5) := (HOWN5.out.alloc _).kept hgrow HNE5.out; clear hown' hgrow hnil; obtain ⟨va', vc', rfl⟩ := HO'.out.shape (k := j + 1) (by have := HOL.out; simp; omega))
            | (at_delete; refine wpList_delete_own _ rfl _ _ 48 3 rfl 44 keyed_int Try.underlying48 _ mb _ D5 rfl HOWA.out _ _ rfl HKEY.out ?_; intro w6 hown6 hturn6; have HOWN6 : Hid (w6.ownsMap Try.prog 3 spotElem mb (m + 24 * j) (D5.del (.int .i64 (pk : Int)))) := hown6; have HG6 : Hid (wa.grownBy w6 (some mb)) := hturn6.grown; clear hown6 hturn6))
          go_frame
          go_roundw
          case rel =>
            have hML : (M.eraseIdx i).length ≤ 24 := by have := HML.out; have := List.length_eraseIdx_le M i; omega
            have hmp : (M.map (fun p => p.2))[i]? = some ⟨d, s⟩ := by rw [List.getElem?_map, HP.out]; rfl
            have hst : seqStep n (M.map (fun p => p.2), o) = ((M.eraseIdx i).map (fun p => p.2), o ++ [⟨d, s⟩]) := by rw [seqStep_some HFR.out hmp, eraseIdx_map]
            refine ⟨M.eraseIdx i, o ++ [⟨d, s⟩], j + 1, by rw [seqN_succ, HJ.out, hst], HK.out.sub (List.eraseIdx_sublist _ _), fun p hp => HLT.out p ((List.eraseIdx_sublist _ _).subset hp), hML, by have := HOL.out; simp; omega, ?_, ?_, HO'.out.grownBy HG6.out ⟨_, _, HOWA.out.choose_spec.choose_spec.1⟩, ?_⟩
            · have h1 := seqLen_less (o := o) HLO.out (fun e => HNE.out (List.map_eq_nil_iff.1 e))
              rw [hst] at h1
              have := HSL.out
              dsimp only at h1
              omega
            · refine MapF.mono (n := m + 24 * j) ?_ (by omega)
              exact MapF.congr ⟨_, HOWN6.out, HRD5.out.del _⟩ (fun y => (mget_erase HK.out HP.out y).symm)
            · have BA : Below w.heap.size w wa := (B5.out.alloc hsz5 _).trans HG.out
              exact BA.grown HG6.out BA.size (fun q e => by cases e; exact hmb2)
          case measure => simp [lenOfV]; omega
        | false =>
          have HFR : Hid (mvFree (M.map (fun p => p.2)) = none) := HNOT.out rfl
          clear HYES HNOT
          obtain ⟨⟨pk, d, s⟩, M', hM⟩ : ∃ p M', M = p :: M' := by
            cases M with
            | nil => exact absurd rfl HNE.out
            | cons p M' => exact ⟨p, M', rfl⟩
          have HMM : Hid (M = (pk, ⟨d, s⟩) :: M') := hM
          have HP : Hid (M[0]? = some (pk, ⟨d, s⟩)) := by show _ = _; rw [hM]; rfl
          clear hM
          have hpk : pk < 24 := HLT.out _ (List.mem_of_getElem? HP.out)
          have HGET : Hid (mget M (pk : Int) = some ⟨d, s⟩) := (mget_iff HK.out).2 ⟨pk, List.mem_of_getElem? HP.out, rfl⟩
          have HKEY : Hid (keyOf Try.prog 3 (.int .i64 (pk : Int)) = some (.int .i64 (pk : Int))) := key_int (wf_small (by omega) (by omega))
          obtain ⟨kl, HKL⟩ : ∃ kl, Hid ((keysOf M).length = kl) := ⟨_, rfl⟩
          have hkl : 0 < kl := by rw [← HKL.out, HMM.out]; simp [keysOf]
          obtain ⟨ga, gcap, hpv, hrow⟩ := P5.out.row
          rw [HKL.out] at hpv hrow
          obtain ⟨g, hga, _, _, hcell, _⟩ := hrow hkl
          subst hga
          subst hpv
          have q0 := hcell 0 hkl
          have hgd : (keysOf M).getD 0 0 = (pk : Int) := by rw [List.getD_eq_getElem?_getD, keys_at HP.out]; rfl
          rw [hgd] at q0
          clear hrow hcell hgd
          have hkl2 : kl ≤ 9223372036854775807 := by
            have h1 : M.length = kl := by rw [← HKL.out]; simp [keysOf]
            have := HML.out
            omega
          obtain ⟨D5, hown5, hrd5⟩ := M5.out
          have HOWN5 : Hid (w5.ownsMap Try.prog 3 spotElem mb (m + 24 * j) D5) := hown5
          have HRD5 : Hid (ReadsF D5 (mget M)) := hrd5
          have hne5 := row_ne_map (World.ownsRow.alloc O5.out (.cells #[.int .i64 n, .int .i64 d] 44)) (M5.out.kept (Bel.alloc _ (.cells #[.int .i64 n, .int .i64 d] 44)))
          have HNE5 : Hid (some mb ≠ (Value.slice ua j ucap).ownBlock) := hne5
          have hf0 := run_field0 d s w5
          clear hown5 hrd5 hne5
          go_wp2_with (first
            | (at_lookup; refine wpList_lookup_mv _ rfl _ _ 48 rfl 3 44 keyed_int Try.underlying3 Try.underlying48 (zero_move _) mb _ D5 rfl HOWN5.out _ _ rfl HKEY.out _ (HRD5.out.2 _ _ HGET.out) ?_)
            | (at_builtin; refine wpList_append_own _ rfl _ _ 24 rfl w.heap.size 44 i0 (.agg #[.int .i64 0, .int .i64 0]) 2 16 Try.underlying24 hi hz0 hz1 hz2 rfl (by decide) _ o.length (moveC o) rfl (World.ownsRow.alloc O5.out _) ⟨w5.heap.size, 0, none⟩ 1 1 [.int .i64 n, .int .i64 d] rfl rfl (cells_two w5 _ _ _) (by simp [Value.oneCell']) (by have := HOL.out; omega) (by have := HOL.out; omega) (by simp; omega) ?_; intro v' wa hown' hgrow hnil; have HO' : Hid (OwnMoves wa w.heap.size v' (o ++ [⟨n, d⟩])) := OwnMoves.next hown'; have HG : Hid (Below w.heap.size (w5.alloc _) wa) := ownsRow_under (World.ownsRow.alloc O5.out _) (by simp; omega) hgrow; have HOWA : Hid (wa.ownsMap Try.prog 3 spotElem mb (m + 24 * j) D5) := (HOWN5.out.alloc _).kept hgrow HNE5.out; clear hown' hgrow hnil; obtain ⟨va', vc', rfl⟩ := HO'.out.shape (k := j + 1) (by have := HOL.out; simp; omega)))
          have MA : Hid (MapF wa mb (m + 24 * j) (mget M)) := ⟨D5, HOWA.out, HRD5.out⟩
          have HNA := row_ne_map HO'.out MA.out
          have BA : Hid (Below w.heap.size w wa) := (B5.out.alloc hsz5 _).trans HG.out
          refine (takeFrom_any mb (m + 24 * j) M n d _ MA.out HK.out HLT.out (by have := HML.out; omega)).mono ?_
          rintro e w7 ⟨⟨r7, rfl⟩, hf7, hm7⟩
          have O7 : Hid (OwnMoves w7 w.heap.size (.slice va' (j + 1) vc') (o ++ [⟨n, d⟩])) := HO'.out.fr hf7 HNA
          have M7 : Hid (MapF w7 mb (m + 24 * j + M.length) (mget (M.map (fun p => (p.1, mvFrom n d p.2))))) := hm7
          have B7 : Hid (Below w.heap.size w w7) := BA.out.trans (hf7.below hmb2 BA.out.size)
          clear hf7 hm7 HNA
          go_wp2
          go_roundw
          case rel =>
            have hmm : (M.map (fun p => (p.1, mvFrom n d p.2))).map (fun p => p.2) = (M.map (fun p => p.2)).map (mvFrom n d) := by rw [List.map_map, List.map_map]; rfl
            have hst : seqStep n (M.map (fun p => p.2), o) = ((M.map (fun p => (p.1, mvFrom n d p.2))).map (fun p => p.2), o ++ [⟨n, d⟩]) := by
              rw [hmm]
              have h9 := HFR.out
              rw [HMM.out] at h9 ⊢
              exact seqStep_none h9
            refine ⟨M.map (fun p => (p.1, mvFrom n d p.2)), o ++ [⟨n, d⟩], j + 1, by rw [seqN_succ, HJ.out, hst], HK.out.map _, fun p hp => ?_, by rw [List.length_map]; exact HML.out, by have := HOL.out; simp; omega, ?_, M7.out.mono (by have := HML.out; omega), O7.out, B7.out⟩
            · obtain ⟨y, hy, rfl⟩ := List.mem_map.1 hp
              exact HLT.out y hy
            · have h1 := seqLen_less (o := o) HLO.out (fun e => HNE.out (List.map_eq_nil_iff.1 e))
              rw [hst] at h1
              have := HSL.out
              dsimp only at h1
              omega
          case measure => simp [lenOfV]; omega
      · have HNIL : Hid (M = []) := by
          by_cases h : M = []
          · exact h
          · have := HSZ.out.2 h
            rw [HQ.out] at this
            omega
        go_wp2_with (at_len; refine wpList_len_own _ rfl _ 48 rfl 3 44 Try.underlying48 _ mb _ D rfl hown ?_; rw [HQ.out]; clear hown)
        go_ret2
        refine ⟨_, rfl, ?_, HB.out⟩
        have h1 := HJ.out
        rw [HNIL.out] at h1
        have h2 := seq_end HR.out h1
        rw [← HE.out, ← h2]
        exact HO.out
end Go.Proofs.Ytijihgkhdknkeaa
