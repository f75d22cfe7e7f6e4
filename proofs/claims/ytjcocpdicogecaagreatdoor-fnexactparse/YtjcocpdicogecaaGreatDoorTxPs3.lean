/- Words of a line, read by the model. -/
import Derived.Test.YtjcocpdicogecaaGreatDoorTxPs2
namespace Go.Proofs.YtjcocpdicogecaaGreatDoor
open Go.ChangeShapes Go.WideShapes Go.ChangeAt Go.RowKit
set_option linter.unusedVariables false

/-- A list of texts in memory of the call's own. -/
def txC (L : List (List UInt8)) : List Value := L.map (fun l => .string (bs l))
def OwnTxts (w : World) (lo : Nat) (v : Value) (L : List (List UInt8)) : Prop := w.ownsRow lo 9 1 v L.length (txC L)
theorem OwnTxts.keep {w w' : World} {lo : Nat} {v : Value} {L : List (List UInt8)} (h : OwnTxts w lo v L) (hb : Below w.heap.size w w') : OwnTxts w' lo v L := ownsRow_later h hb
theorem OwnTxts.row {w : World} {lo : Nat} {v : Value} {L : List (List UInt8)} (h : OwnTxts w lo v L) :
    ∃ a cap, v = .slice a L.length cap ∧ (0 < L.length → ∃ g, a = some ⟨g, 0, none⟩ ∧ lo ≤ g ∧ g < w.heap.size ∧ ∀ (i : Nat) l, L[i]? = some l → w.cell? ⟨g, i, none⟩ = some (.string (bs l))) := by
  rcases h.2 with ⟨rfl, h0⟩ | ⟨g, cap, cur, rfl, hlo, hg, h1, h2, h3, h4⟩
  · exact ⟨none, 0, by rw [h0], fun hp => absurd hp (by omega)⟩
  · refine ⟨_, cap, rfl, fun hp => ⟨g, rfl, hlo, (Array.getElem?_eq_some_iff.1 hg).1, fun i l hx => ?_⟩⟩
    have hi : i < L.length := (List.getElem?_eq_some_iff.1 hx).1
    have e1 : (cur.toList.take (L.length * 1))[i]? = cur[i]? := by rw [List.getElem?_take, if_pos (by omega)]; simp
    have e2 : cur[i]? = some (.string (bs l)) := by rw [← e1, h4]; simp [txC, hx]
    simp [World.cell?, hg, e2]
theorem OwnTxts.next {w : World} {lo n : Nat} {v : Value} {L : List (List UInt8)} {l : List UInt8} (hn : L.length = n) (h : w.ownsRow lo 9 1 v (n + 1) (txC L ++ [.string (bs l)])) : OwnTxts w lo v (L ++ [l]) := by
  unfold OwnTxts
  rw [List.length_append, List.length_singleton, hn]
  simpa [txC] using h
theorem ownTxts_new {w : World} {lo g : Nat} (hg : w.heap[g]? = some (.cells #[] 9 (0, 0))) (hl : lo ≤ g) : OwnTxts w lo (.slice (some ⟨g, 0, none⟩) 0 0) [] :=
  ⟨by simp [txC], .inr ⟨g, 0, #[], rfl, hl, hg, Nat.le_refl _, Nat.zero_le _, rfl, rfl⟩⟩
theorem cells_oneT (w : World) (a : Value) (T : TypeId) : ∀ j u, [a][j]? = some u → (w.alloc (.cells #[a] T)).cell? ((⟨w.heap.size, 0, none⟩ : Addr).add j) = some u := fun j u hu => by
  rw [addF, Nat.zero_add, World.cell?_alloc_new]
  rcases j with _ | j
  · simpa using hu
  · simp at hu
theorem info_string : (Tryz.prog.info? 9).map (fun i => (i.zero, i.size, i.bytes)) = some (some (.string ByteArray.empty), 1, 16) := by kernel_rfl
def GivesTxts (w : World) (L : List (List UInt8)) (e : Ending) (w' : World) : Prop := ∃ v, e = .returned v ∧ OwnTxts w' w.heap.size v L ∧ Below w.heap.size w w'

theorem len_max {L k m : Nat} (h : L ≤ k) (hk : k + 1 ≤ m + 1) (hm : m ≤ 1048576) : L + 1 ≤ maxLen := by
  have : maxLen = 9223372036854775807 := rfl
  omega
theorem len_bytes {L k m : Nat} (h : L ≤ k) (hk : k + 1 ≤ m + 1) (hm : m ≤ 1048576) : (L + 1) * 16 ≤ 140737488355328 := by omega
theorem base_le {S : Nat} {w : World} (b : Obj) (h : S ≤ w.heap.size) : S ≤ (w.alloc b).heap.size := by simp; omega
theorem base_lt {S : Nat} {w w' : World} (b : Obj) (h : S < w.heap.size) (hb : Below S (w.alloc b) w') : S < w'.heap.size := by
  have h8 := hb.size
  simp at h8
  omega
theorem snoc_len {L : List (List UInt8)} {q : List UInt8} {k : Nat} (h : L.length ≤ k) : (L ++ [q]).length ≤ k + 1 := by
  rw [List.length_append, List.length_singleton]
  omega
theorem num_up (k : Nat) : Value.int .i64 ((k : Int) + 1) = .int .i64 ((k + 1 : Nat) : Int) := by simp
theorem spl_end {l q : List UInt8} {L : List (List UInt8)} {k f m : Nat} (hm : l.length = m) (hk : k = m) (h1 : L ++ spl 32 (l.drop f) = spl 32 l) (h2 : ∀ x ∈ (l.drop f).take (k - f), x ≠ 32) (hq : (l.drop f).take (k - f) = q) : L ++ [q] = spl 32 l := by
  have hle : (l.drop f).take (k - f) = l.drop f := List.take_of_length_le (by rw [List.length_drop]; omega)
  rw [← h1, ← hq, hle]
  congr 1
  rw [hle] at h2
  exact (spl_plain h2).symm
theorem drop_at {l q : List UInt8} {k f : Nat} (hf : f ≤ k) (h : (l.drop f).take (k + 1 - f) = q ++ [32]) : l.drop f = q ++ 32 :: l.drop (k + 1) := by
  have h8 := List.take_append_drop (k + 1 - f) (l.drop f)
  rw [h, List.drop_drop, show f + (k + 1 - f) = k + 1 by omega] at h8
  rw [← h8]
  simp
theorem spl_mid {l q : List UInt8} {L : List (List UInt8)} {k f : Nat} (h1 : L ++ spl 32 (l.drop f) = spl 32 l) (h2 : ∀ x ∈ (l.drop f).take (k - f), x ≠ 32) (hq : (l.drop f).take (k - f) = q) (hd : l.drop f = q ++ 32 :: l.drop (k + 1)) : (L ++ [q]) ++ spl 32 (l.drop (k + 1)) = spl 32 l := by
  rw [hq] at h2
  rw [← h1, hd, spl_cut _ h2]
  simp
theorem take_up {l q : List UInt8} {c : UInt8} {k f : Nat} (hf : f ≤ k) (hc : l[k]? = some c) (hq : (l.drop f).take (k - f) = q) : (l.drop f).take (k + 1 - f) = q ++ [c] := by
  rw [show k + 1 - f = (k - f) + 1 by omega, List.take_add_one, List.getElem?_drop, show f + (k - f) = k by omega, hc, hq]
  rfl
theorem plain_up {l q : List UInt8} {c : UInt8} {k f : Nat} (h : (l.drop f).take (k + 1 - f) = q ++ [c]) (hq : (l.drop f).take (k - f) = q) (h2 : ∀ x ∈ (l.drop f).take (k - f), x ≠ 32) (hc : c ≠ 32) : ∀ x ∈ (l.drop f).take (k + 1 - f), x ≠ 32 := by
  intro x hx
  rw [h, List.mem_append, List.mem_singleton] at hx
  rcases hx with hx | rfl
  · exact h2 x (by rw [hq]; exact hx)
  · exact hc
theorem OwnTxts.form {w : World} {lo : Nat} {v : Value} {L : List (List UInt8)} (h : OwnTxts w lo v L) : ∃ a c, v = .slice a L.length c := by
  obtain ⟨a, c, e, _⟩ := h.row
  exact ⟨a, c, e⟩
theorem OwnTxts.len {w : World} {lo : Nat} {a : Option Addr} {n c : Nat} {L : List (List UInt8)} (h : OwnTxts w lo (.slice a n c) L) : n = L.length := by
  obtain ⟨a9, c9, e9, _⟩ := h.row
  simp at e9
  exact e9.2.1
/-- What the words' loop knows. -/
def WordsRel (l : List UInt8) (m S0 : Nat) (w : World) (ov fv iv : Value) (wr : World) : Prop := ∃ (k f : Nat) (L : List (List UInt8)) (va : Option Addr) (vn vc : Nat), k ≤ m + 1 ∧ iv = .int .i64 k ∧ fv = .int .i64 f ∧ ov = .slice va vn vc ∧ OwnTxts wr S0 (.slice va vn vc) L ∧ L.length ≤ k ∧ Below S0 w wr ∧ S0 < wr.heap.size ∧ (if k ≤ m then f ≤ k ∧ L ++ spl 32 (l.drop f) = spl 32 l ∧ ∀ x ∈ (l.drop f).take (k - f), x ≠ 32 else L = spl 32 l)
theorem WordsRel.last {l q : List UInt8} {m S0 k f : Nat} {w wr wb : World} {b : Obj} {v' : Value} {L : List (List UInt8)} (hm : l.length = m) (hk : k = m) (h1 : L ++ spl 32 (l.drop f) = spl 32 l) (h2 : ∀ x ∈ (l.drop f).take (k - f), x ≠ 32) (hq : (l.drop f).take (k - f) = q)
    (ho : OwnTxts wb S0 v' (L ++ [q])) (hg : Below S0 (wr.alloc b) wb) (hb : Below S0 w wr) (hs : S0 < wr.heap.size) (hl : L.length ≤ k) : WordsRel l m S0 w v' (.int .i64 ((k : Int) + 1)) (.int .i64 ((k : Int) + 1)) wb := by
  obtain ⟨a, c, hv⟩ := ho.form
  subst hv
  refine ⟨k + 1, k + 1, L ++ [q], a, _, c, by omega, num_up k, num_up k, rfl, ho, snoc_len hl, (hb.trans ((Bel.alloc wr _).mono (Nat.le_of_lt hs))).trans hg, base_lt b hs hg, ?_⟩
  rw [if_neg (by omega)]
  exact spl_end hm hk h1 h2 hq
theorem WordsRel.cut {l q : List UInt8} {m S0 k f : Nat} {w wr wb : World} {b : Obj} {v' : Value} {L : List (List UInt8)} (hk : k < m) (h1 : L ++ spl 32 (l.drop f) = spl 32 l) (h2 : ∀ x ∈ (l.drop f).take (k - f), x ≠ 32) (hq : (l.drop f).take (k - f) = q) (hd : l.drop f = q ++ 32 :: l.drop (k + 1))
    (ho : OwnTxts wb S0 v' (L ++ [q])) (hg : Below S0 (wr.alloc b) wb) (hb : Below S0 w wr) (hs : S0 < wr.heap.size) (hl : L.length ≤ k) : WordsRel l m S0 w v' (.int .i64 ((k : Int) + 1)) (.int .i64 ((k : Int) + 1)) wb := by
  obtain ⟨a, c, hv⟩ := ho.form
  subst hv
  refine ⟨k + 1, k + 1, L ++ [q], a, _, c, by omega, num_up k, num_up k, rfl, ho, snoc_len hl, (hb.trans ((Bel.alloc wr _).mono (Nat.le_of_lt hs))).trans hg, base_lt b hs hg, ?_⟩
  rw [if_pos (by omega)]
  exact ⟨Nat.le_refl _, spl_mid h1 h2 hq hd, by simp⟩
theorem WordsRel.plain {l q : List UInt8} {c : UInt8} {m S0 k f vn vc : Nat} {va : Option Addr} {w wr : World} {L : List (List UInt8)} (hk : k < m) (hf : f ≤ k) (h1 : L ++ spl 32 (l.drop f) = spl 32 l) (h2 : ∀ x ∈ (l.drop f).take (k - f), x ≠ 32) (hq : (l.drop f).take (k - f) = q) (hc : l[k]? = some c) (hn : c ≠ 32)
    (ho : OwnTxts wr S0 (.slice va vn vc) L) (hb : Below S0 w wr) (hs : S0 < wr.heap.size) (hl : L.length ≤ k) : WordsRel l m S0 w (.slice va vn vc) (.int .i64 (f : Int)) (.int .i64 ((k : Int) + 1)) wr := by
  refine ⟨k + 1, f, L, va, vn, vc, by omega, num_up k, rfl, rfl, ho, by omega, hb, hs, ?_⟩
  rw [if_pos (by omega)]
  exact ⟨by omega, h1, plain_up (take_up hf hc hq) hq h2 hn⟩

set_option maxRecDepth 100000 in
set_option maxHeartbeats 4000000 in
theorem l17Words_any (l : List UInt8) (w : World) (hl : l.length ≤ 1048576) :
    Calls Tryz.prog 24 #[.string (bs l)] w fun e w' => GivesTxts w (spl 32 l) e w' := by
  obtain ⟨m, HM⟩ : ∃ m, Hid (l.length = m) := ⟨_, rfl⟩
  have hsz : (bs l).size = m := by rw [bs_size, HM.out]
  have hm : m ≤ 1048576 := by rw [← HM.out]; exact hl
  clear hl
  obtain ⟨w1, hw1⟩ : ∃ W, w.alloc (.cells #[] 9) = W := ⟨_, rfl⟩
  have HO1 : Hid (OwnTxts w1 w.heap.size (.slice (some ⟨w.heap.size, 0, none⟩) 0 0) []) := by show OwnTxts _ _ _ _; rw [← hw1]; exact ownTxts_new (World.alloc_heap_new w _) (Nat.le_refl _)
  have HB1 : Hid (Below w.heap.size w w1) := by show Below _ _ _; rw [← hw1]; exact Bel.alloc _ _
  have hsz1 : w.heap.size < w1.heap.size := by rw [← hw1]; simp
  obtain ⟨S0, HS0⟩ : ∃ S, Hid (w.heap.size = S) := ⟨_, rfl⟩
  rw [HS0.out] at HO1
  go_enter Tryz.func24, Tryz.ntmps24
  go_wp2_with fail
  try rw [hw1]
  try rw [HS0.out]
  clear hw1
  go_loopw [3, 4, 5] (fun ov fv iv wr => WordsRel l m S0 w ov fv iv wr) (fun _ _ iv _ => m + 1 - (intOf iv).toNat)
  case atStart => exact ⟨0, 0, [], _, _, _, by omega, rfl, rfl, rfl, HO1.out, by simp, by rw [← HS0.out]; exact HB1.out, by rw [← HS0.out]; exact hsz1, by rw [if_pos (by omega)]; exact ⟨by omega, by simp, by simp⟩⟩
  case round =>
    obtain ⟨k, f, L, va, vn, vc, hk, rfl, rfl, rfl, ho, hlk, hbr, hS, hif⟩ := hrel
    have HOR : Hid (OwnTxts wr S0 (.slice va vn vc) L) := ho
    have HBR : Hid (Below S0 w wr) := hbr
    have HLK : Hid (L.length ≤ k) := hlk
    clear ho hbr hlk
    by_cases hlt : (k : Int) ≤ (m : Int)
    · rw [if_pos (by omega)] at hif
      obtain ⟨hf, hi1, hi2⟩ := hif
      have HI1 : Hid (L ++ spl 32 (l.drop f) = spl 32 l) := hi1
      have HI2 : Hid (∀ x ∈ (l.drop f).take (k - f), x ≠ 32) := hi2
      clear hi1 hi2
      obtain ⟨q, HQ⟩ : ∃ q, Hid ((l.drop f).take (k - f) = q) := ⟨_, rfl⟩
      have hcut : (bs l).extract f k = bs q := by rw [bs_cut, HQ.out]
      obtain ⟨i0, hi, hz0, hz1, hz2⟩ := info_parts info_string
      have HSS : Hid (S0 ≤ wr.heap.size) := Nat.le_of_lt hS
      have hwk : wrap64 ((k : Int) + 1) = (k : Int) + 1 := by unfold wrap64; omega
      have HK1 : Hid (k + 1 ≤ m + 1) := Nat.succ_le_succ (Int.ofNat_le.1 hlt)
      have HM1 : Hid (L.length + 1 ≤ maxLen) := len_max HLK.out HK1.out hm
      have HM2 : Hid ((L.length + 1) * 16 ≤ 140737488355328) := len_bytes HLK.out HK1.out hm
      have HF : Hid (f ≤ k) := hf
      have HS : Hid (S0 < wr.heap.size) := hS
      clear hS
      have HVN : Hid (vn = L.length) := HOR.out.len
      by_cases hkm : k = m
      · have HKM : Hid (k = m) := hkm
        have heq : ((k : Int) == (m : Int)) = true := by rw [hkm]; simp
        clear hkm
        go_wp2_with (at_builtin; (try rw [hcut]); refine wpList_append_own _ rfl _ _ 47 rfl S0 9 i0 (.string ByteArray.empty) 1 16 Tryz.underlying47 hi hz0 hz1 hz2 rfl (by decide) _ L.length (txC L) rfl (World.ownsRow.alloc HOR.out _) ⟨wr.heap.size, 0, none⟩ 1 1 [.string (bs q)] rfl rfl (cells_oneT wr _ _) (by simp [Value.oneCell']) HM1.out HM2.out (base_le _ HSS.out) ?_; intro v' wb hown' hgrow hnil; have HO' : Hid (OwnTxts wb S0 v' (L ++ [q])) := OwnTxts.next rfl hown'; have HG : Hid (Below S0 (wr.alloc _) wb) := ownsRow_underF (World.ownsRow.alloc HOR.out _) (base_le _ HSS.out) hgrow; clear hown' hgrow hnil)
        try rw [hwk]
        go_roundw
        case rel => exact WordsRel.last HM.out HKM.out HI1.out HI2.out HQ.out HO'.out HG.out HBR.out HS.out HLK.out
        case measure => exact meas_up HK1.out
      · have HKM : Hid (k < m) := Nat.lt_of_le_of_ne (Int.ofNat_le.1 hlt) hkm
        have heq : ((k : Int) == (m : Int)) = false := by rw [beq_eq_false_iff_ne]; exact fun h => hkm (Int.ofNat_inj.1 h)
        obtain ⟨c, HC⟩ : ∃ c, Hid (l[k]? = some c) := ⟨l[k]'(by rw [HM.out]; exact HKM.out), List.getElem?_eq_getElem _⟩
        have hg := bs_get l k c HC.out
        have hltm : (k : Int) < (m : Int) := Int.ofNat_lt.2 HKM.out
        clear hkm
        by_cases hc : c = 32
        · have HDR : Hid (l.drop f = q ++ 32 :: l.drop (k + 1)) := drop_at HF.out (by rw [← hc]; exact take_up HF.out HC.out HQ.out)
          subst hc
          go_wp2_with (at_builtin; (try rw [hcut]); refine wpList_append_own _ rfl _ _ 47 rfl S0 9 i0 (.string ByteArray.empty) 1 16 Tryz.underlying47 hi hz0 hz1 hz2 rfl (by decide) _ L.length (txC L) rfl (World.ownsRow.alloc HOR.out _) ⟨wr.heap.size, 0, none⟩ 1 1 [.string (bs q)] rfl rfl (cells_oneT wr _ _) (by simp [Value.oneCell']) HM1.out HM2.out (base_le _ HSS.out) ?_; intro v' wb hown' hgrow hnil; have HO' : Hid (OwnTxts wb S0 v' (L ++ [q])) := OwnTxts.next rfl hown'; have HG : Hid (Below S0 (wr.alloc _) wb) := ownsRow_underF (World.ownsRow.alloc HOR.out _) (base_le _ HSS.out) hgrow; clear hown' hgrow hnil)
          try rw [hwk]
          go_roundw
          case rel => exact WordsRel.cut HKM.out HI1.out HI2.out HQ.out HDR.out HO'.out HG.out HBR.out HS.out HLK.out
          case measure => exact meas_up HK1.out
        · have hb : ((c.toNat : Int) == 32) = false := by
            rw [beq_eq_false_iff_ne]
            exact fun h9 => hc (UInt8.toNat_inj.1 (Int.ofNat_inj.1 h9))
          have HCN : Hid (c ≠ 32) := hc
          clear hc
          go_wp2_with fail
          try rw [hwk]
          go_roundw
          case rel => exact WordsRel.plain HKM.out HF.out HI1.out HI2.out HQ.out HC.out HCN.out HOR.out HBR.out HS.out HLK.out
          case measure => exact meas_up HK1.out
    · rw [if_neg (by omega)] at hif
      have HIF : Hid (L = spl 32 l) := hif
      clear hif
      have HE : Hid (GivesTxts w (spl 32 l) (.returned (.slice va vn vc)) wr) := ⟨_, rfl, by rw [HS0.out, ← HIF.out]; exact HOR.out, by rw [HS0.out]; exact HBR.out⟩
      go_wp2_with fail
      go_ret
      exact HE.out
end Go.Proofs.YtjcocpdicogecaaGreatDoor
