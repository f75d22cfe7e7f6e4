/- Words of a line, read by the model. Words of a line, read by the model. A step of a line: what its words say (mathematics). A step of a line, read by the model. -/
import Derived.Test.YtjcocpdicogecaaGreatDoorKTx1
import Derived.Test.YtjcocpdicogecaaGreatDoorTxPa1K
import Derived.Test.YtjcocpdicogecaaGreatDoorStOK
import Derived.Test.YtjcocpdicogecaaGreatDoorTxSpK
namespace Go.Proofs.YtjcocpdicogecaaGreatDoor
open Go.ChangeShapes Go.WideShapes Go.ChangeAt Go.RowKit
set_option linter.unusedVariables false

def GivesTail (w : World) (l : List UInt8) (c : UInt8) (e : Ending) (w' : World) : Prop := ∃ (x : Int) (ok : Bool), e = .returned (.tuple #[.int .i64 x, .bool ok]) ∧ (ok = true → R64 x ∧ l = c :: Lib.itoa x) ∧ (ok = false → ∀ y, R64 y → l ≠ c :: Lib.itoa y) ∧ Below w.heap.size w w'
theorem bs_cut (l : List UInt8) (f k : Nat) : (bs l).extract f k = bs ((l.drop f).take (k - f)) := by
  apply Go.WideShapes.bytes_inj
  have h : ((bs l).extract f k).data = (bs l).data.extract f k := by
    simp
  rw [h]
  simp [bs]
theorem itoa_ne (x : Int) : Lib.itoa x ≠ [] := by
  unfold Lib.itoa
  split
  · simp
  · exact decDigits_ne _

theorem bs_tail (l : List UInt8) (m : Nat) (h : l.length = m) : (bs l).extract 1 m = bs (l.drop 1) := by
  rw [bs_cut, List.take_of_length_le (by rw [List.length_drop, h]; exact Nat.le_refl _)]
theorem cons_get (l : List UInt8) (d : UInt8) (h : l[0]? = some d) : l = d :: l.drop 1 := by
  cases l with
  | nil => cases h
  | cons z r => simp at h; rw [h]; rfl
theorem tail_none (c : UInt8) (l : List UInt8) (h : l.length < 2) (y : Int) : l ≠ c :: Lib.itoa y := by
  intro e
  have h9 := List.length_pos_iff.2 (itoa_ne y)
  rw [e, List.length_cons] at h
  omega
theorem tail_other (c d : UInt8) (l : List UInt8) (h : l[0]? = some d) (hn : d ≠ c) (y : Int) : l ≠ c :: Lib.itoa y := by
  intro e
  rw [e] at h
  simp at h
  exact hn h.symm
theorem gives_tail (w w1 : World) (l : List UInt8) (c d : UInt8) (x : Int) (ok : Bool) (hd : d = c) (hl : l = d :: l.drop 1) (hy : ok = true → R64 x ∧ Lib.itoa x = l.drop 1) (hn : ok = false → ∀ y, R64 y → Lib.itoa y ≠ l.drop 1) (hb : Below w.heap.size w w1) : GivesTail w l c (.returned (.tuple #[.int .i64 x, .bool ok])) w1 := by
  subst hd
  refine ⟨x, ok, rfl, fun h => ⟨(hy h).1, ?_⟩, fun h y hy2 e => hn h y hy2 ?_, hb⟩
  · rw [(hy h).2]; exact hl
  · rw [e]; rfl

set_option maxRecDepth 100000 in
set_option maxHeartbeats 4000000 in
theorem l17Tail_any (l : List UInt8) (c : UInt8) (w : World) (hl : l.length ≤ 1048576) :
    Calls Tryz.prog 26 #[.string (bs l), .int .u8 c.toNat] w fun e w' => GivesTail w l c e w' := by
  obtain ⟨m, HM⟩ : ∃ m, Hid (l.length = m) := ⟨_, rfl⟩
  have hsz : (bs l).size = m := by rw [bs_size, HM.out]
  have hm : m ≤ 1048576 := by rw [← HM.out]; exact hl
  clear hl
  go_enter Tryz.func26, Tryz.ntmps26
  by_cases h1 : (m : Int) < 2
  · have H2 : Hid (l.length < 2) := by show _ < _; rw [HM.out]; omega
    go_wp2_with fail
    exact bodyPost_ret (v := .tuple #[.int .i64 0, .bool false]) (by simp [results, Tryz.results26, go_sem]) rfl ⟨0, false, rfl, (fun h => by cases h), (fun _ y hy => tail_none c l H2.out y), Below.refl _ _⟩
  · obtain ⟨d, HC⟩ : ∃ d, Hid (l[0]? = some d) := ⟨l[0]'(by have := HM.out; omega), List.getElem?_eq_getElem _⟩
    have hg := bs_get l 0 d HC.out
    have HX : Hid ((bs l).extract 1 m = bs (l.drop 1)) := bs_tail l m HM.out
    have HL9 : Hid ((l.drop 1).length ≤ 1048576) := by show _ ≤ _; rw [List.length_drop, HM.out]; omega
    have HL : Hid (l = d :: l.drop 1) := cons_get l d HC.out
    by_cases he : (d.toNat : Int) = (c.toNat : Int)
    · have HE : Hid (d = c) := UInt8.toNat_inj.1 (by omega)
      have hb : ((d.toNat : Int) != (c.toNat : Int)) = false := by rw [he]; simp
      obtain ⟨y, HY⟩ : ∃ y, Hid (l.drop 1 = y) := ⟨_, rfl⟩
      clear he
      go_wp2_with fail
      rw [HX.out]
      refine (l17Num_any (l.drop 1) _ HL9.out).mono ?_
      rintro e w1 ⟨x, ok, rfl, hy, hn, b1⟩
      have HY2 : Hid (ok = true → R64 x ∧ Lib.itoa x = l.drop 1) := hy
      have HN2 : Hid (ok = false → ∀ y, R64 y → Lib.itoa y ≠ l.drop 1) := hn
      have HB2 : Hid (Below w.heap.size w w1) := b1
      clear hy hn b1
      go_wp2_with fail
      exact bodyPost_ret (v := .tuple #[.int .i64 x, .bool ok]) (by simp [results, Tryz.results26, go_sem]) rfl (gives_tail w w1 l c d x ok HE.out HL.out HY2.out HN2.out HB2.out)
    · have HE : Hid (d ≠ c) := fun h => he (by rw [h])
      have hb : ((d.toNat : Int) != (c.toNat : Int)) = true := by rw [bne_iff_ne]; exact he
      clear he
      go_wp2_with fail
      exact bodyPost_ret (v := .tuple #[.int .i64 0, .bool false]) (by simp [results, Tryz.results26, go_sem]) rfl ⟨0, false, rfl, (fun h => by cases h), (fun _ y hy => tail_other c d l HC.out HE.out y), Below.refl _ _⟩
end Go.Proofs.YtjcocpdicogecaaGreatDoor

namespace Go.Proofs.YtjcocpdicogecaaGreatDoor
open Go.ChangeShapes Go.WideShapes Go.ChangeAt Go.RowKit
set_option linter.unusedVariables false

/-- A list of texts in memory of the call's own. -/
def txC (L : List (List UInt8)) : List Value := L.map (fun l => .string (bs l))
def OwnTxts (w : World) (lo : Nat) (v : Value) (L : List (List UInt8)) : Prop := w.ownsRow lo 9 1 v L.length (txC L)
theorem OwnTxts.keep {w w' : World} {lo : Nat} {v : Value} {L : List (List UInt8)} (h : OwnTxts w lo v L) (hb : Below w.heap.size w w') : OwnTxts w' lo v L := ownsRow_later h hb
theorem OwnTxts.row {w : World} {lo : Nat} {v : Value} {L : List (List UInt8)} (h : OwnTxts w lo v L) :
    ∃ a cap, v = .slice a L.length cap ∧ (0 < L.length → ∃ g, a = some ⟨g, 0, none⟩ ∧ lo ≤ g ∧ g < w.heap.size ∧ ∀ (i : Nat) l, L[i]? = some l → w.cell? ⟨g, i, none⟩ = some (.string (bs l))) := by
  rcases h.2 with ⟨rfl, h0⟩ | ⟨g, cap, cur, rfl, hlo, hg, h1, h2, h3, h4⟩
  · exact ⟨none, 0, by rw [h0], fun hp => absurd hp (by omega)⟩
  · refine ⟨_, cap, rfl, fun hp => ⟨g, rfl, hlo, (Array.getElem?_eq_some_iff.1 hg).1, fun i l hx => ?_⟩⟩
    have hi : i < L.length := (List.getElem?_eq_some_iff.1 hx).1
    have e1 : (cur.toList.take (L.length * 1))[i]? = cur[i]? := by rw [List.getElem?_take, if_pos (by omega)]; simp
    have e2 : cur[i]? = some (.string (bs l)) := by rw [← e1, h4]; simp [txC, hx]
    simp [World.cell?, hg, e2]
theorem OwnTxts.next {w : World} {lo n : Nat} {v : Value} {L : List (List UInt8)} {l : List UInt8} (hn : L.length = n) (h : w.ownsRow lo 9 1 v (n + 1) (txC L ++ [.string (bs l)])) : OwnTxts w lo v (L ++ [l]) := by
  unfold OwnTxts
  rw [List.length_append, List.length_singleton, hn]
  simpa [txC] using h
theorem ownTxts_new {w : World} {lo g : Nat} (hg : w.heap[g]? = some (.cells #[] 9 (0, 0))) (hl : lo ≤ g) : OwnTxts w lo (.slice (some ⟨g, 0, none⟩) 0 0) [] :=
  ⟨by simp [txC], .inr ⟨g, 0, #[], rfl, hl, hg, Nat.le_refl _, Nat.zero_le _, rfl, rfl⟩⟩
theorem cells_oneT (w : World) (a : Value) (T : TypeId) : ∀ j u, [a][j]? = some u → (w.alloc (.cells #[a] T)).cell? ((⟨w.heap.size, 0, none⟩ : Addr).add j) = some u := fun j u hu => by
  rw [addF, Nat.zero_add, World.cell?_alloc_new]
  rcases j with _ | j
  · simpa using hu
  · simp at hu
theorem info_string : (Tryz.prog.info? 9).map (fun i => (i.zero, i.size, i.bytes)) = some (some (.string ByteArray.empty), 1, 16) := by kernel_rfl
def GivesTxts (w : World) (L : List (List UInt8)) (e : Ending) (w' : World) : Prop := ∃ v, e = .returned v ∧ OwnTxts w' w.heap.size v L ∧ Below w.heap.size w w'

theorem len_max {L k m : Nat} (h : L ≤ k) (hk : k + 1 ≤ m + 1) (hm : m ≤ 1048576) : L + 1 ≤ maxLen := by
  have : maxLen = 9223372036854775807 := rfl
  omega
theorem len_bytes {L k m : Nat} (h : L ≤ k) (hk : k + 1 ≤ m + 1) (hm : m ≤ 1048576) : (L + 1) * 16 ≤ 140737488355328 := by omega
theorem base_le {S : Nat} {w : World} (b : Obj) (h : S ≤ w.heap.size) : S ≤ (w.alloc b).heap.size := by simp; omega
theorem base_lt {S : Nat} {w w' : World} (b : Obj) (h : S < w.heap.size) (hb : Below S (w.alloc b) w') : S < w'.heap.size := by
  have h8 := hb.size
  simp at h8
  omega
theorem snoc_len {L : List (List UInt8)} {q : List UInt8} {k : Nat} (h : L.length ≤ k) : (L ++ [q]).length ≤ k + 1 := by
  rw [List.length_append, List.length_singleton]
  omega
theorem num_up (k : Nat) : Value.int .i64 ((k : Int) + 1) = .int .i64 ((k + 1 : Nat) : Int) := by simp
theorem spl_end {l q : List UInt8} {L : List (List UInt8)} {k f m : Nat} (hm : l.length = m) (hk : k = m) (h1 : L ++ spl 32 (l.drop f) = spl 32 l) (h2 : ∀ x ∈ (l.drop f).take (k - f), x ≠ 32) (hq : (l.drop f).take (k - f) = q) : L ++ [q] = spl 32 l := by
  have hle : (l.drop f).take (k - f) = l.drop f := List.take_of_length_le (by rw [List.length_drop]; omega)
  rw [← h1, ← hq, hle]
  congr 1
  rw [hle] at h2
  exact (spl_plain h2).symm
theorem drop_at {l q : List UInt8} {k f : Nat} (hf : f ≤ k) (h : (l.drop f).take (k + 1 - f) = q ++ [32]) : l.drop f = q ++ 32 :: l.drop (k + 1) := by
  have h8 := List.take_append_drop (k + 1 - f) (l.drop f)
  rw [h, List.drop_drop, show f + (k + 1 - f) = k + 1 by omega] at h8
  rw [← h8]
  simp
theorem spl_mid {l q : List UInt8} {L : List (List UInt8)} {k f : Nat} (h1 : L ++ spl 32 (l.drop f) = spl 32 l) (h2 : ∀ x ∈ (l.drop f).take (k - f), x ≠ 32) (hq : (l.drop f).take (k - f) = q) (hd : l.drop f = q ++ 32 :: l.drop (k + 1)) : (L ++ [q]) ++ spl 32 (l.drop (k + 1)) = spl 32 l := by
  rw [hq] at h2
  rw [← h1, hd, spl_cut _ h2]
  simp
theorem take_up {l q : List UInt8} {c : UInt8} {k f : Nat} (hf : f ≤ k) (hc : l[k]? = some c) (hq : (l.drop f).take (k - f) = q) : (l.drop f).take (k + 1 - f) = q ++ [c] := by
  rw [show k + 1 - f = (k - f) + 1 by omega, List.take_add_one, List.getElem?_drop, show f + (k - f) = k by omega, hc, hq]
  rfl
theorem plain_up {l q : List UInt8} {c : UInt8} {k f : Nat} (h : (l.drop f).take (k + 1 - f) = q ++ [c]) (hq : (l.drop f).take (k - f) = q) (h2 : ∀ x ∈ (l.drop f).take (k - f), x ≠ 32) (hc : c ≠ 32) : ∀ x ∈ (l.drop f).take (k + 1 - f), x ≠ 32 := by
  intro x hx
  rw [h, List.mem_append, List.mem_singleton] at hx
  rcases hx with hx | rfl
  · exact h2 x (by rw [hq]; exact hx)
  · exact hc
theorem OwnTxts.form {w : World} {lo : Nat} {v : Value} {L : List (List UInt8)} (h : OwnTxts w lo v L) : ∃ a c, v = .slice a L.length c := by
  obtain ⟨a, c, e, _⟩ := h.row
  exact ⟨a, c, e⟩
theorem OwnTxts.len {w : World} {lo : Nat} {a : Option Addr} {n c : Nat} {L : List (List UInt8)} (h : OwnTxts w lo (.slice a n c) L) : n = L.length := by
  obtain ⟨a9, c9, e9, _⟩ := h.row
  simp at e9
  exact e9.2.1
/-- What the words' loop knows. -/
def WordsRel (l : List UInt8) (m S0 : Nat) (w : World) (ov fv iv : Value) (wr : World) : Prop := ∃ (k f : Nat) (L : List (List UInt8)) (va : Option Addr) (vn vc : Nat), k ≤ m + 1 ∧ iv = .int .i64 k ∧ fv = .int .i64 f ∧ ov = .slice va vn vc ∧ OwnTxts wr S0 (.slice va vn vc) L ∧ L.length ≤ k ∧ Below S0 w wr ∧ S0 < wr.heap.size ∧ (if k ≤ m then f ≤ k ∧ L ++ spl 32 (l.drop f) = spl 32 l ∧ ∀ x ∈ (l.drop f).take (k - f), x ≠ 32 else L = spl 32 l)
theorem WordsRel.last {l q : List UInt8} {m S0 k f : Nat} {w wr wb : World} {b : Obj} {v' : Value} {L : List (List UInt8)} (hm : l.length = m) (hk : k = m) (h1 : L ++ spl 32 (l.drop f) = spl 32 l) (h2 : ∀ x ∈ (l.drop f).take (k - f), x ≠ 32) (hq : (l.drop f).take (k - f) = q)
    (ho : OwnTxts wb S0 v' (L ++ [q])) (hg : Below S0 (wr.alloc b) wb) (hb : Below S0 w wr) (hs : S0 < wr.heap.size) (hl : L.length ≤ k) : WordsRel l m S0 w v' (.int .i64 ((k : Int) + 1)) (.int .i64 ((k : Int) + 1)) wb := by
  obtain ⟨a, c, hv⟩ := ho.form
  subst hv
  refine ⟨k + 1, k + 1, L ++ [q], a, _, c, by omega, num_up k, num_up k, rfl, ho, snoc_len hl, (hb.trans ((Bel.alloc wr _).mono (Nat.le_of_lt hs))).trans hg, base_lt b hs hg, ?_⟩
  rw [if_neg (by omega)]
  exact spl_end hm hk h1 h2 hq
theorem WordsRel.cut {l q : List UInt8} {m S0 k f : Nat} {w wr wb : World} {b : Obj} {v' : Value} {L : List (List UInt8)} (hk : k < m) (h1 : L ++ spl 32 (l.drop f) = spl 32 l) (h2 : ∀ x ∈ (l.drop f).take (k - f), x ≠ 32) (hq : (l.drop f).take (k - f) = q) (hd : l.drop f = q ++ 32 :: l.drop (k + 1))
    (ho : OwnTxts wb S0 v' (L ++ [q])) (hg : Below S0 (wr.alloc b) wb) (hb : Below S0 w wr) (hs : S0 < wr.heap.size) (hl : L.length ≤ k) : WordsRel l m S0 w v' (.int .i64 ((k : Int) + 1)) (.int .i64 ((k : Int) + 1)) wb := by
  obtain ⟨a, c, hv⟩ := ho.form
  subst hv
  refine ⟨k + 1, k + 1, L ++ [q], a, _, c, by omega, num_up k, num_up k, rfl, ho, snoc_len hl, (hb.trans ((Bel.alloc wr _).mono (Nat.le_of_lt hs))).trans hg, base_lt b hs hg, ?_⟩
  rw [if_pos (by omega)]
  exact ⟨Nat.le_refl _, spl_mid h1 h2 hq hd, by simp⟩
theorem WordsRel.plain {l q : List UInt8} {c : UInt8} {m S0 k f vn vc : Nat} {va : Option Addr} {w wr : World} {L : List (List UInt8)} (hk : k < m) (hf : f ≤ k) (h1 : L ++ spl 32 (l.drop f) = spl 32 l) (h2 : ∀ x ∈ (l.drop f).take (k - f), x ≠ 32) (hq : (l.drop f).take (k - f) = q) (hc : l[k]? = some c) (hn : c ≠ 32)
    (ho : OwnTxts wr S0 (.slice va vn vc) L) (hb : Below S0 w wr) (hs : S0 < wr.heap.size) (hl : L.length ≤ k) : WordsRel l m S0 w (.slice va vn vc) (.int .i64 (f : Int)) (.int .i64 ((k : Int) + 1)) wr := by
  refine ⟨k + 1, f, L, va, vn, vc, by omega, num_up k, rfl, rfl, ho, by omega, hb, hs, ?_⟩
  rw [if_pos (by omega)]
  exact ⟨by omega, h1, plain_up (take_up hf hc hq) hq h2 hn⟩

set_option maxRecDepth 100000 in
set_option maxHeartbeats 4000000 in
theorem l17Words_any (l : List UInt8) (w : World) (hl : l.length ≤ 1048576) :
    Calls Tryz.prog 24 #[.string (bs l)] w fun e w' => GivesTxts w (spl 32 l) e w' := by
  obtain ⟨m, HM⟩ : ∃ m, Hid (l.length = m) := ⟨_, rfl⟩
  have hsz : (bs l).size = m := by rw [bs_size, HM.out]
  have hm : m ≤ 1048576 := by rw [← HM.out]; exact hl
  clear hl
  obtain ⟨w1, hw1⟩ : ∃ W, w.alloc (.cells #[] 9) = W := ⟨_, rfl⟩
  have HO1 : Hid (OwnTxts w1 w.heap.size (.slice (some ⟨w.heap.size, 0, none⟩) 0 0) []) := by show OwnTxts _ _ _ _; rw [← hw1]; exact ownTxts_new (World.alloc_heap_new w _) (Nat.le_refl _)
  have HB1 : Hid (Below w.heap.size w w1) := by show Below _ _ _; rw [← hw1]; exact Bel.alloc _ _
  have hsz1 : w.heap.size < w1.heap.size := by rw [← hw1]; simp
  obtain ⟨S0, HS0⟩ : ∃ S, Hid (w.heap.size = S) := ⟨_, rfl⟩
  rw [HS0.out] at HO1
  go_enter Tryz.func24, Tryz.ntmps24
  go_wp2_with fail
  try rw [hw1]
  try rw [HS0.out]
  clear hw1
  go_loopw [3, 4, 5] (fun ov fv iv wr => WordsRel l m S0 w ov fv iv wr) (fun _ _ iv _ => m + 1 - (intOf iv).toNat)
  case atStart => exact ⟨0, 0, [], _, _, _, by omega, rfl, rfl, rfl, HO1.out, by simp, by rw [← HS0.out]; exact HB1.out, by rw [← HS0.out]; exact hsz1, by rw [if_pos (by omega)]; exact ⟨by omega, by simp, by simp⟩⟩
  case round =>
    obtain ⟨k, f, L, va, vn, vc, hk, rfl, rfl, rfl, ho, hlk, hbr, hS, hif⟩ := hrel
    have HOR : Hid (OwnTxts wr S0 (.slice va vn vc) L) := ho
    have HBR : Hid (Below S0 w wr) := hbr
    have HLK : Hid (L.length ≤ k) := hlk
    clear ho hbr hlk
    by_cases hlt : (k : Int) ≤ (m : Int)
    · rw [if_pos (by omega)] at hif
      obtain ⟨hf, hi1, hi2⟩ := hif
      have HI1 : Hid (L ++ spl 32 (l.drop f) = spl 32 l) := hi1
      have HI2 : Hid (∀ x ∈ (l.drop f).take (k - f), x ≠ 32) := hi2
      clear hi1 hi2
      obtain ⟨q, HQ⟩ : ∃ q, Hid ((l.drop f).take (k - f) = q) := ⟨_, rfl⟩
      have hcut : (bs l).extract f k = bs q := by rw [bs_cut, HQ.out]
      obtain ⟨i0, hi, hz0, hz1, hz2⟩ := info_parts info_string
      have HSS : Hid (S0 ≤ wr.heap.size) := Nat.le_of_lt hS
      have hwk : wrap64 ((k : Int) + 1) = (k : Int) + 1 := by unfold wrap64; omega
      have HK1 : Hid (k + 1 ≤ m + 1) := Nat.succ_le_succ (Int.ofNat_le.1 hlt)
      have HM1 : Hid (L.length + 1 ≤ maxLen) := len_max HLK.out HK1.out hm
      have HM2 : Hid ((L.length + 1) * 16 ≤ 140737488355328) := len_bytes HLK.out HK1.out hm
      have HF : Hid (f ≤ k) := hf
      have HS : Hid (S0 < wr.heap.size) := hS
      clear hS
      have HVN : Hid (vn = L.length) := HOR.out.len
      by_cases hkm : k = m
      · have HKM : Hid (k = m) := hkm
        have heq : ((k : Int) == (m : Int)) = true := by rw [hkm]; simp
        clear hkm
        go_wp2_with (at_builtin; (try rw [hcut]); refine wpList_append_own _ rfl _ _ 47 rfl S0 9 i0 (.string ByteArray.empty) 1 16 Tryz.underlying47 hi hz0 hz1 hz2 rfl (by decide) _ L.length (txC L) rfl (World.ownsRow.alloc HOR.out _) ⟨wr.heap.size, 0, none⟩ 1 1 [.string (bs q)] rfl rfl (cells_oneT wr _ _) (by simp [Value.oneCell']) HM1.out HM2.out (base_le _ HSS.out) ?_; intro v' wb hown' hgrow hnil; have HO' : Hid (OwnTxts wb S0 v' (L ++ [q])) := OwnTxts.next rfl hown'; have HG : Hid (Below S0 (wr.alloc _) wb) := ownsRow_underF (World.ownsRow.alloc HOR.out _) (base_le _ HSS.out) hgrow; clear hown' hgrow hnil)
        try rw [hwk]
        go_roundw
        case rel => exact WordsRel.last HM.out HKM.out HI1.out HI2.out HQ.out HO'.out HG.out HBR.out HS.out HLK.out
        case measure => exact meas_up HK1.out
      · have HKM : Hid (k < m) := Nat.lt_of_le_of_ne (Int.ofNat_le.1 hlt) hkm
        have heq : ((k : Int) == (m : Int)) = false := by rw [beq_eq_false_iff_ne]; exact fun h => hkm (Int.ofNat_inj.1 h)
        obtain ⟨c, HC⟩ : ∃ c, Hid (l[k]? = some c) := ⟨l[k]'(by rw [HM.out]; exact HKM.out), List.getElem?_eq_getElem _⟩
        have hg := bs_get l k c HC.out
        have hltm : (k : Int) < (m : Int) := Int.ofNat_lt.2 HKM.out
        clear hkm
        by_cases hc : c = 32
        · have HDR : Hid (l.drop f = q ++ 32 :: l.drop (k + 1)) := drop_at HF.out (by rw [← hc]; exact take_up HF.out HC.out HQ.out)
          subst hc
          go_wp2_with (at_builtin; (try rw [hcut]); refine wpList_append_own _ rfl _ _ 47 rfl S0 9 i0 (.string ByteArray.empty) 1 16 Tryz.underlying47 hi hz0 hz1 hz2 rfl (by decide) _ L.length (txC L) rfl (World.ownsRow.alloc HOR.out _) ⟨wr.heap.size, 0, none⟩ 1 1 [.string (bs q)] rfl rfl (cells_oneT wr _ _) (by simp [Value.oneCell']) HM1.out HM2.out (base_le _ HSS.out) ?_; intro v' wb hown' hgrow hnil; have HO' : Hid (OwnTxts wb S0 v' (L ++ [q])) := OwnTxts.next rfl hown'; have HG : Hid (Below S0 (wr.alloc _) wb) := ownsRow_underF (World.ownsRow.alloc HOR.out _) (base_le _ HSS.out) hgrow; clear hown' hgrow hnil)
          try rw [hwk]
          go_roundw
          case rel => exact WordsRel.cut HKM.out HI1.out HI2.out HQ.out HDR.out HO'.out HG.out HBR.out HS.out HLK.out
          case measure => exact meas_up HK1.out
        · have hb : ((c.toNat : Int) == 32) = false := by
            rw [beq_eq_false_iff_ne]
            exact fun h9 => hc (UInt8.toNat_inj.1 (Int.ofNat_inj.1 h9))
          have HCN : Hid (c ≠ 32) := hc
          clear hc
          go_wp2_with fail
          try rw [hwk]
          go_roundw
          case rel => exact WordsRel.plain HKM.out HF.out HI1.out HI2.out HQ.out HC.out HCN.out HOR.out HBR.out HS.out HLK.out
          case measure => exact meas_up HK1.out
    · rw [if_neg (by omega)] at hif
      have HIF : Hid (L = spl 32 l) := hif
      clear hif
      have HE : Hid (GivesTxts w (spl 32 l) (.returned (.slice va vn vc)) wr) := ⟨_, rfl, by rw [HS0.out, ← HIF.out]; exact HOR.out, by rw [HS0.out]; exact HBR.out⟩
      go_wp2_with fail
      go_ret
      exact HE.out
end Go.Proofs.YtjcocpdicogecaaGreatDoor

namespace Go.Proofs.YtjcocpdicogecaaGreatDoor
open Go.ChangeShapes Go.WideShapes Go.ChangeAt Go.RowKit
set_option linter.unusedVariables false

def regW (rs : List Int) (k : Nat) : Int := (rs ++ [0, 0, 0]).getD k 0
/-- The step that an op, registers and a number make. -/
def stepW (op : Int) (rs : List Int) (n : Int) : InsD :=
  if op = 1 ∨ op = 3 ∨ op = 8 then ⟨op, regW rs 0, 0, 0, n⟩
  else if op = 2 ∨ op = 5 then ⟨op, regW rs 0, regW rs 1, 0, n⟩
  else if op = 4 ∨ op = 7 ∨ op = 10 ∨ op = 11 then ⟨op, 0, regW rs 0, 0, n⟩
  else if op = 6 then ⟨op, 0, regW rs 0, regW rs 1, n⟩
  else ⟨op, regW rs 0, regW rs 1, regW rs 2, n⟩
theorem wordsTo_r {ws : List (List UInt8)} {rs : List Int} {n : Int} (h : WordsTo ws rs n) : R64 n := by
  induction h with
  | none => exact ⟨by omega, by omega⟩
  | reg h hx ih => exact ih
  | slot h hx ih => exact hx
  | num h hx ih => exact hx
theorem stepW_n (op : Int) (rs : List Int) (n : Int) : (stepW op rs n).n = n := by unfold stepW; (repeat' split) <;> rfl
theorem stepW_op (op : Int) (rs : List Int) (n : Int) : (stepW op rs n).op = op := by unfold stepW; (repeat' split) <;> rfl
theorem stepW_is {x : InsD} (h : stepOkB x 900 = true) : stepW x.op (regsF ((kindsX x.op).map (fun q => (q.1, getF x q.2)))) (numF ((kindsX x.op).map (fun q => (q.1, getF x q.2))) 0) = x := by
  have hp := putF_is h
  obtain ⟨op, d, a, b, n⟩ := x
  have hb := (stepOkB_parts h).1
  simp only at hb hp ⊢
  rcases kinds_of op with ⟨e, hk⟩ | ⟨e, hk⟩ | ⟨e, hk⟩ | ⟨e, hk⟩ | ⟨e, hk⟩ | ⟨e, hk⟩ | ⟨e, hk⟩ | ⟨e, hk⟩ | ⟨e, hk⟩ | ⟨e, hk⟩ | ⟨e, hk⟩ | ⟨e, hk⟩ | ⟨e, hk⟩
  case inr.inr.inr.inr.inr.inr.inr.inr.inr.inr.inr.inl =>
    rw [hk] at hp ⊢
    simp [putF, setF, getF] at hp
    have n1 : ¬ (op = 1 ∨ op = 3 ∨ op = 8) := by omega
    have n2 : ¬ (op = 2 ∨ op = 5) := by omega
    have n3 : ¬ (op = 4 ∨ op = 7 ∨ op = 10 ∨ op = 11) := by omega
    have n4 : ¬ op = 6 := by omega
    unfold stepW
    rw [if_neg n1, if_neg n2, if_neg n3, if_neg n4]
    (try simp [regsF, numF, regW, getF]) <;> omega
  case inr.inr.inr.inr.inr.inr.inr.inr.inr.inr.inr.inr => exfalso; omega
  all_goals
    subst e
    rw [hk] at hp ⊢
    simp [putF, setF, getF] at hp
    (try simp [stepW, regsF, numF, regW, getF]) <;> omega
theorem IsLine.len {b : List UInt8} {x : InsD} (h : IsLine b x) : (spl 32 b).tail.length ≤ 4 := by
  rw [h.pieces, List.length_map]
  exact kinds_len _
theorem IsLine.from {b : List UInt8} {x : InsD} (h : IsLine b x) {rs : List Int} {n : Int} (hw : WordsTo ((spl 32 b).tail.take 4) rs n) : stepW (opOfL ((spl 32 b).headD []) : Nat) rs n = x := by
  rw [List.take_of_length_le h.len] at hw
  have e : (spl 32 b).tail = ((kindsX x.op).map (fun q => (q.1, getF x q.2))).map (fun q => piece q.1 q.2) := by
    rw [h.pieces, List.map_map]
    rfl
  obtain ⟨e1, e2⟩ := wordsTo_fields _ (fun q hq => by
    obtain ⟨p, _, rfl⟩ := List.mem_map.1 hq
    exact getF_in h.1 h.2.1 _) hw e
  have ho := h.op
  rw [e1, e2, ho.1, Int.toNat_of_nonneg (by omega)]
  exact stepW_is h.1
/-- A line's answer: the step, and whether there is one. -/
def GivesLine (w : World) (l : List UInt8) (e : Ending) (w' : World) : Prop := ∃ (x : InsD) (ok : Bool), e = .returned (.tuple #[.agg #[.int .i64 x.op, .int .i64 x.d, .int .i64 x.a, .int .i64 x.b, .int .i64 x.n], .bool ok]) ∧ (ok = true → IsLine l x) ∧ (ok = false → ∀ y, ¬ IsLine l y) ∧ Below w.heap.size w w'
theorem line_word {l wd : List UInt8} {i : Nat} (hi : (spl 32 l).tail[i]? = some wd) (h1 : ∀ y, R64 y → wd ≠ 114 :: Lib.itoa y) (h2 : ∀ y, R64 y → wd ≠ 115 :: Lib.itoa y) (h3 : ∀ y, R64 y → Lib.itoa y ≠ wd) : ∀ y, ¬ IsLine l y := by
  intro y h
  rw [h.pieces, List.getElem?_map] at hi
  cases hq : (kindsX y.op)[i]? with
  | none => rw [hq] at hi; cases hi
  | some q =>
    rw [hq] at hi
    have e : piece q.1 (getF y q.2) = wd := by simpa using hi
    have hr : R64 (getF y q.2) := getF_in h.1 h.2.1 _
    unfold piece letL at e
    split at e
    · exact h1 _ hr e.symm
    · split at e
      · exact h2 _ hr e.symm
      · exact h3 _ hr e
theorem line_yes {l : List UInt8} {rs : List Int} {n op : Int} (hn : R64 n) (h0 : textX (stepW op rs n) ≠ []) (h1 : textX (stepW op rs n) = l) : IsLine l (stepW op rs n) :=
  (isLine_text (by show R64 _; rw [stepW_n]; exact hn) (by rw [← h1]; exact h0)).2 h1
theorem line_no {l : List UInt8} {rs : List Int} {n : Int} (hw : WordsTo ((spl 32 l).tail.take 4) rs n) (h : textX (stepW (opOfL ((spl 32 l).headD []) : Nat) rs n) ≠ [] → textX (stepW (opOfL ((spl 32 l).headD []) : Nat) rs n) ≠ l) : ∀ y, ¬ IsLine l y := by
  intro y hy
  rw [hy.from hw] at h
  have e := (isLine_text hy.2.1 hy.ne).1 hy
  exact h (by rw [e]; exact hy.ne) e
end Go.Proofs.YtjcocpdicogecaaGreatDoor

namespace Go.Proofs.YtjcocpdicogecaaGreatDoor
open Go.ChangeShapes Go.WideShapes Go.ChangeAt Go.RowKit
set_option linter.unusedVariables false

theorem ownsRow_belowB {w w' : World} {lo B : Nat} {e : TypeId} {s : Nat} {v : Value} {k : Nat} {xs : List Value} (h : w.ownsRow lo e s v k xs) (hb : Below B w w') (hv : ∀ g, v.ownBlock = some g → g < B) : w'.ownsRow lo e s v k xs := by
  obtain ⟨h0, h1⟩ := h
  refine ⟨h0, ?_⟩
  rcases h1 with h1 | ⟨g, cap, cur, rfl, hlo, hg, h2⟩
  · exact .inl h1
  · exact .inr ⟨g, cap, cur, rfl, hlo, (hb.block g (hv g rfl)).trans hg, h2⟩
/-- A box of a step. -/
def SBx (w : World) (B : Nat) (x0 x1 x2 x3 x4 : Int) : Prop := w.heap[B]? = some (.cells #[.int .i64 x0, .int .i64 x1, .int .i64 x2, .int .i64 x3, .int .i64 x4] 36 (0, 0))
theorem SBx.at {w : World} {B : Nat} {x0 x1 x2 x3 x4 : Int} (h : SBx w B x0 x1 x2 x3 x4) : w.cell? ⟨B, 0, none⟩ = some (.int .i64 x0) ∧ w.cell? ⟨B, 1, none⟩ = some (.int .i64 x1) ∧ w.cell? ⟨B, 2, none⟩ = some (.int .i64 x2) ∧ w.cell? ⟨B, 3, none⟩ = some (.int .i64 x3) ∧ w.cell? ⟨B, 4, none⟩ = some (.int .i64 x4) := by
  unfold SBx at h
  refine ⟨?_, ?_, ?_, ?_, ?_⟩ <;> simp [World.cell?, h]
theorem SBx.fz {w : World} {B : Nat} {x0 x1 x2 x3 x4 : Int} (h : SBx w B x0 x1 x2 x3 x4) (j : Nat) : w.frozen? ⟨B, j, none⟩ = false := by
  unfold SBx at h
  simp [World.frozen?, h]
theorem SBx.lt {w : World} {B : Nat} {x0 x1 x2 x3 x4 : Int} (h : SBx w B x0 x1 x2 x3 x4) : B < w.heap.size := (Array.getElem?_eq_some_iff.1 h).1
theorem SBx.keep {w w' : World} {B : Nat} {x0 x1 x2 x3 x4 : Int} (h : SBx w B x0 x1 x2 x3 x4) (hb : Below w.heap.size w w') : SBx w' B x0 x1 x2 x3 x4 := (hb.block B h.lt).trans h
theorem SBx.under {w w' : World} {B C : Nat} {x0 x1 x2 x3 x4 : Int} (h : SBx w B x0 x1 x2 x3 x4) (hb : Below C w w') (hB : B < C) : SBx w' B x0 x1 x2 x3 x4 := (hb.block B hB).trans h
theorem SBx.other {w : World} {B R j : Nat} {x0 x1 x2 x3 x4 : Int} (h : SBx w B x0 x1 x2 x3 x4) (hB : B ≠ R) (v : Value) : SBx (w.setCell ⟨R, j, none⟩ v) B x0 x1 x2 x3 x4 := (Below.heap_setCell _ _ _ B hB).trans h
theorem SBx.num {w : World} {B : Nat} {x0 x1 x2 x3 x4 : Int} (h : SBx w B x0 x1 x2 x3 x4) (y : Int) : SBx (w.setCell ⟨B, 4, none⟩ (.int .i64 y)) B x0 x1 x2 x3 y := by
  unfold SBx at *
  simp [World.setCell, Array.getElem?_modify, h]
theorem SBx.new (w : World) (x0 x1 x2 x3 x4 : Int) : SBx (w.alloc (.cells #[.int .i64 x0, .int .i64 x1, .int .i64 x2, .int .i64 x3, .int .i64 x4] 36)) w.heap.size x0 x1 x2 x3 x4 := World.alloc_heap_new w _

/-- What the reading of a line knows: S: where its own memory begins (the answer's box lies there); R: the step's box; the words lie between, the registers behind. -/
structure LineSt (l : List UInt8) (w : World) (S R : Nat) (wv : Value) (op : Int) (k : Nat) (rs : List Int) (n : Int) (ov : Value) (wr : World) : Prop where
  k1 : k ≤ (spl 32 l).tail.length
  k4 : k ≤ 4
  regs : OwnInts wr (R + 1) ov rs
  len : rs.length ≤ k
  says : WordsTo ((spl 32 l).tail.take k) rs n
  words : OwnTxts wr (S + 1) wv (spl 32 l)
  wlt : ∀ g, wv.ownBlock = some g → g < R
  box : SBx wr R op 0 0 0 n
  ans : SBx wr S 0 0 0 0 0
  lo : S < R
  below : Below S w wr
theorem LineSt.keep {l : List UInt8} {w wr wn : World} {S R k : Nat} {wv ov : Value} {op n : Int} {rs : List Int} (h : LineSt l w S R wv op k rs n ov wr) (hb : Below wr.heap.size wr wn) : LineSt l w S R wv op k rs n ov wn :=
  ⟨h.k1, h.k4, h.regs.keep hb, h.len, h.says, h.words.keep hb, h.wlt, h.box.keep hb, h.ans.keep hb, h.lo, h.below.trans (hb.mono (Nat.le_of_lt h.ans.lt))⟩
theorem LineSt.word {l : List UInt8} {w wr : World} {S R k : Nat} {wv ov : Value} {op n : Int} {rs : List Int} (h : LineSt l w S R wv op k rs n ov wr) (hk : k < (spl 32 l).tail.length) : ∃ wd, (spl 32 l)[k + 1]? = some wd ∧ (spl 32 l).tail[k]? = some wd := by
  refine ⟨(spl 32 l).tail[k], ?_, List.getElem?_eq_getElem hk⟩
  rw [← List.getElem?_tail]
  exact List.getElem?_eq_getElem hk
theorem take_word {W : List (List UInt8)} {k : Nat} {wd : List UInt8} (h : W[k]? = some wd) : W.take (k + 1) = W.take k ++ [wd] := by
  rw [List.take_add_one, h]
  rfl
/-- A register is added. -/
theorem LineSt.reg {l wd : List UInt8} {w wr wb : World} {S R k : Nat} {wv ov v' : Value} {op n x : Int} {rs : List Int} {b : Obj} (h : LineSt l w S R wv op k rs n ov wr) (hw : (spl 32 l).tail[k]? = some wd) (hk : k < 4) (hx : R64 x ∧ wd = 114 :: Lib.itoa x)
    (ho : OwnInts wb (R + 1) v' (rs ++ [x])) (hg : Below (R + 1) (wr.alloc b) wb) : LineSt l w S R wv op (k + 1) (rs ++ [x]) n v' wb := by
  have ha : Below wr.heap.size wr (wr.alloc b) := Bel.alloc _ _
  have h1 := h.keep ha
  have hlt : ∀ g, wv.ownBlock = some g → g < R + 1 := fun g hg => Nat.lt_succ_of_lt (h.wlt g hg)
  have hlo := h.lo
  refine ⟨(List.getElem?_eq_some_iff.1 hw).1, hk, ho, ?_, ?_, ownsRow_belowB h1.words hg hlt, h.wlt, h1.box.under hg (Nat.lt_succ_self _), h1.ans.under hg (by omega), h.lo, h1.below.trans (hg.mono (by omega))⟩
  · have := h.len; simp; omega
  · rw [take_word hw, hx.2]
    exact .reg h.says hx.1
/-- A number is kept. -/
theorem LineSt.num {l wd : List UInt8} {w wr : World} {S R k : Nat} {wv ov : Value} {op n x : Int} {rs : List Int} (h : LineSt l w S R wv op k rs n ov wr) (hw : (spl 32 l).tail[k]? = some wd) (hk : k < 4) (hx : R64 x ∧ (wd = 115 :: Lib.itoa x ∨ Lib.itoa x = wd)) : LineSt l w S R wv op (k + 1) rs x ov (wr.setCell ⟨R, 4, none⟩ (.int .i64 x)) := by
  have hlo := h.lo
  have hs := h.box.lt
  refine ⟨(List.getElem?_eq_some_iff.1 hw).1, hk, ownsRow_setCell_other h.regs (fun e => ?_) _, Nat.le_succ_of_le h.len, ?_, ownsRow_setCell_other h.words (fun e => ?_) _, h.wlt, h.box.num x, h.ans.other (by omega) _, h.lo, h.below.setCell (p := ⟨R, 4, none⟩) (by show S ≤ R; omega) _⟩
  · have h9 : R + 1 ≤ R := (h.regs.lt _ e).1
    omega
  · rw [take_word hw]
    rcases hx.2 with e | e
    · rw [e]; exact .slot h.says hx.1
    · rw [← e]; exact .num h.says hx.1
  · have h9 : R < R := h.wlt _ e
    omega
theorem SBx.five {W0 : World} {B : Nat} {x0 x1 x2 x3 x4 : Int} (h : SBx W0 B x0 x1 x2 x3 x4) (k0 k1 k2 k3 k4 : Int) : SBx (((((W0.setCell ⟨B, 0, none⟩ (.int .i64 k0)).setCell ⟨B, 1, none⟩ (.int .i64 k1)).setCell ⟨B, 2, none⟩ (.int .i64 k2)).setCell ⟨B, 3, none⟩ (.int .i64 k3)).setCell ⟨B, 4, none⟩ (.int .i64 k4)) B k0 k1 k2 k3 k4 := by
  unfold SBx at *
  simp [World.setCell, Array.getElem?_modify, h]
theorem below_fiveB {w0 w : World} {b B : Nat} (h : Below b w0 w) (hB : b ≤ B) (k0 k1 k2 k3 k4 : Value) : Below b w0 (((((w.setCell ⟨B, 0, none⟩ k0).setCell ⟨B, 1, none⟩ k1).setCell ⟨B, 2, none⟩ k2).setCell ⟨B, 3, none⟩ k3).setCell ⟨B, 4, none⟩ k4) :=
  ((((h.setCell (p := ⟨B, 0, none⟩) hB _).setCell (p := ⟨B, 1, none⟩) hB _).setCell (p := ⟨B, 2, none⟩) hB _).setCell (p := ⟨B, 3, none⟩) hB _).setCell (p := ⟨B, 4, none⟩) hB _
theorem results_line {fn : Func} {t u : Tmp} (h : fn.results = #[.cell t 36, .tmp u]) (tmps : Array Value) (w : World) {B : Nat} {x0 x1 x2 x3 x4 : Int} {ok : Bool} (hp : tmps.getD t undef = .pointer (some ⟨B, 0, none⟩)) (hu : tmps.getD u undef = .bool ok) (hb : SBx w B x0 x1 x2 x3 x4) : (results fn tmps).run Tryz.prog w = .ok (.tuple #[.agg #[.int .i64 x0, .int .i64 x1, .int .i64 x2, .int .i64 x3, .int .i64 x4], .bool ok]) w := by
  have hp' : tmps[t]?.getD undef = .pointer (some ⟨B, 0, none⟩) := by simpa using hp
  have hu' : tmps[u]?.getD undef = .bool ok := by simpa using hu
  obtain ⟨r0, r1, r2, r3, r4⟩ := hb.at
  simp [results, h, hp', hu', go_sem, r0, r1, r2, r3, r4]
theorem OwnTxts.cellAt {w : World} {lo g n c : Nat} {L : List (List UInt8)} (h : OwnTxts w lo (.slice (some ⟨g, 0, none⟩) n c) L) {i : Nat} {wd : List UInt8} (hi : L[i]? = some wd) : w.cell? ⟨g, i, none⟩ = some (.string (bs wd)) := by
  obtain ⟨a, cap, e, hr⟩ := h.row
  obtain ⟨g', ha, _, _, hc⟩ := hr (by have := (List.getElem?_eq_some_iff.1 hi).1; omega)
  simp at e
  obtain ⟨e1, _⟩ := e
  rw [ha] at e1
  cases e1
  exact hc i wd hi
theorem OwnInts.len {w : World} {lo : Nat} {a : Option Addr} {n c : Nat} {l : List Int} (h : OwnInts w lo (.slice a n c) l) : n = l.length := by
  obtain ⟨a9, c9, e9, _⟩ := h.row
  simp at e9
  exact e9.2.1
theorem OwnInts.more {w : World} {lo n : Nat} {v : Value} {l : List Int} {x : Int} (hn : l.length = n) (h : w.ownsRow lo 3 1 v (n + 1) (l.map (fun x => Value.int .i64 x) ++ [.int .i64 x])) : OwnInts w lo v (l ++ [x]) := by
  unfold OwnInts
  rw [List.length_append, List.length_singleton, hn]
  simpa using h
theorem OwnInts.form {w : World} {lo : Nat} {v : Value} {l : List Int} (h : OwnInts w lo v l) : ∃ a c, v = .slice a l.length c := by
  obtain ⟨a, c, e, _⟩ := h.row
  exact ⟨a, c, e⟩
theorem info_intP : (Tryz.prog.info? 3).map (fun i => (i.zero, i.size, i.bytes)) = some (some (.int .i64 0), 1, 8) := by kernel_rfl
theorem regs_max {n k : Nat} (h : n ≤ k) (h4 : k ≤ 4) : n + 1 ≤ maxLen ∧ (n + 1) * 8 ≤ 140737488355328 := by
  have : maxLen = 9223372036854775807 := rfl
  omega
theorem line_end {w w' : World} {l T : List UInt8} {rs : List Int} {n op d a b : Int} {ok : Bool} (ho : ((opOfL ((spl 32 l).headD []) : Nat) : Int) = op) (hw : WordsTo ((spl 32 l).tail.take 4) rs n) (hs : stepW op rs n = ⟨op, d, a, b, n⟩) (hT : textX ⟨op, d, a, b, n⟩ = T)
    (hok : ok = (!(bs T).toList.isEmpty && (bs T).toList == (bs l).toList)) (hb : Below w.heap.size w w') : GivesLine w l (.returned (.tuple #[.agg #[.int .i64 op, .int .i64 d, .int .i64 a, .int .i64 b, .int .i64 n], .bool ok])) w' := by
  rw [bsl, bsl] at hok
  refine ⟨⟨op, d, a, b, n⟩, ok, rfl, fun h => ?_, fun h => ?_, hb⟩
  · rw [h] at hok
    simp at hok
    rw [← hs]
    exact line_yes (wordsTo_r hw) (by rw [hs, hT]; intro e; rw [e] at hok; simp at hok) (by rw [hs, hT]; exact hok.2)
  · refine line_no hw ?_
    rw [ho, hs, hT]
    rw [h] at hok
    intro h1 h2
    rw [h2] at hok h1
    cases l with
    | nil => exact h1 rfl
    | cons c r => simp at hok
/-- The loop's state. -/
def LineRel (l : List UInt8) (w : World) (S R : Nat) (wv : Value) (op : Int) (ov iv : Value) (wr : World) : Prop := ∃ (k : Nat) (rs : List Int) (n : Int) (va : Option Addr) (vn vc : Nat), iv = .int .i64 ((k + 1 : Nat) : Int) ∧ ov = .slice va vn vc ∧ LineSt l w S R wv op k rs n (.slice va vn vc) wr
theorem LineRel.reg {l wd : List UInt8} {w wr wb : World} {S R k j : Nat} {wv ov v' : Value} {op n x : Int} {rs : List Int} {b : Obj} (h : LineSt l w S R wv op k rs n ov wr) (hj : k + 1 = j) (hw : (spl 32 l).tail[k]? = some wd) (hk : k < 4) (hx : R64 x ∧ wd = 114 :: Lib.itoa x)
    (ho : OwnInts wb (R + 1) v' (rs ++ [x])) (hg : Below (R + 1) (wr.alloc b) wb) : LineRel l w S R wv op v' (.int .i64 ((j : Int) + 1)) wb := by
  obtain ⟨a, c, e⟩ := ho.form
  subst hj
  have h9 := h.reg hw hk hx ho hg
  rw [e] at h9
  exact ⟨k + 1, rs ++ [x], n, a, _, c, num_up _, e, h9⟩
theorem LineRel.num {l wd : List UInt8} {w wr : World} {S R k j vn vc : Nat} {wv : Value} {va : Option Addr} {op n x : Int} {rs : List Int} (h : LineSt l w S R wv op k rs n (.slice va vn vc) wr) (hj : k + 1 = j) (hw : (spl 32 l).tail[k]? = some wd) (hk : k < 4) (hx : R64 x ∧ (wd = 115 :: Lib.itoa x ∨ Lib.itoa x = wd)) : LineRel l w S R wv op (.slice va vn vc) (.int .i64 ((j : Int) + 1)) (wr.setCell ⟨R, 4, none⟩ (.int .i64 x)) := by
  subst hj
  exact ⟨k + 1, rs, x, va, vn, vc, num_up _, rfl, h.num hw hk hx⟩
theorem meas_ten {j : Nat} (h : j < 5) : 10 - (intOf (.int .i64 ((j : Int) + 1))).toNat < 10 - (intOf (.int .i64 (j : Int))).toNat := by simp [intOf]; omega
theorem cells_threeI (w : World) (T : TypeId) : ∀ j u, [Value.int .i64 0, .int .i64 0, .int .i64 0][j]? = some u → (w.alloc (.cells #[.int .i64 0, .int .i64 0, .int .i64 0] T)).cell? ((⟨w.heap.size, 0, none⟩ : Addr).add j) = some u := fun j u hu => by
  rw [addF, Nat.zero_add, World.cell?_alloc_new]
  simpa using hu
theorem regs_max3 {n k : Nat} (h : n ≤ k) (h4 : k ≤ 4) : n + 3 ≤ maxLen ∧ (n + 3) * 8 ≤ 140737488355328 := by
  have : maxLen = 9223372036854775807 := rfl
  omega
theorem three_lt {n M : Nat} (h : n + 3 = M) : (0 : Int) < (M : Int) ∧ (1 : Int) < (M : Int) ∧ (2 : Int) < (M : Int) := by omega
theorem apart_of {R g : Nat} (h : R + 1 ≤ g) : ¬ R = g ∧ ¬ g = R := by omega
theorem regs_cells {w : World} {lo M : Nat} {v : Value} {rs : List Int} (hM : rs.length + 3 = M) (h : w.ownsRow lo 3 1 v (rs.length + 3) (rs.map (fun x => Value.int .i64 x) ++ [.int .i64 0, .int .i64 0, .int .i64 0])) :
    ∃ g c, v = .slice (some ⟨g, 0, none⟩) M c ∧ lo ≤ g ∧ w.cell? ⟨g, 0, none⟩ = some (.int .i64 (regW rs 0)) ∧ w.cell? ⟨g, 1, none⟩ = some (.int .i64 (regW rs 1)) ∧ w.cell? ⟨g, 2, none⟩ = some (.int .i64 (regW rs 2)) := by
  have h9 : OwnInts w lo v (rs ++ [0, 0, 0]) := by
    unfold OwnInts
    rw [List.length_append, List.map_append]
    exact h
  obtain ⟨a, c, rfl, hr⟩ := h9.row
  obtain ⟨g, rfl, hlo, _, hc, _⟩ := hr (by simp)
  subst hM
  exact ⟨g, c, by simp, hlo, hc 0 (by simp), hc 1 (by simp), hc 2 (by simp)⟩
theorem LineSt.boxB {l : List UInt8} {w wr wb : World} {S R k : Nat} {wv ov : Value} {op n : Int} {rs : List Int} {b : Obj} (h : LineSt l w S R wv op k rs n ov wr) (hg : Below (R + 1) (wr.alloc b) wb) : SBx wb R op 0 0 0 n := (h.box.keep (Bel.alloc _ _)).under hg (Nat.lt_succ_self _)
theorem LineSt.ansB {l : List UInt8} {w wr wb : World} {S R k : Nat} {wv ov : Value} {op n : Int} {rs : List Int} {b : Obj} (h : LineSt l w S R wv op k rs n ov wr) (hg : Below (R + 1) (wr.alloc b) wb) : SBx wb S 0 0 0 0 0 := (h.ans.keep (Bel.alloc _ _)).under hg (by have := h.lo; omega)
theorem LineSt.belowB {l : List UInt8} {w wr wb : World} {S R k : Nat} {wv ov : Value} {op n : Int} {rs : List Int} {b : Obj} (h : LineSt l w S R wv op k rs n ov wr) (hg : Below (R + 1) (wr.alloc b) wb) : Below S w wb := (h.below.trans ((Bel.alloc wr b).mono (Nat.le_of_lt h.ans.lt))).trans (hg.mono (by have := h.lo; omega))
theorem LineSt.full {l : List UInt8} {w wr : World} {S R k : Nat} {wv ov : Value} {op n : Int} {rs : List Int} (h : LineSt l w S R wv op k rs n ov wr) (hk : k < (spl 32 l).tail.length → ¬ k < 4) : WordsTo ((spl 32 l).tail.take 4) rs n := by
  have h1 := h.k1
  have h4 := h.k4
  have hs := h.says
  by_cases e : k = 4
  · rw [← e]; exact hs
  · have e9 : k = (spl 32 l).tail.length := by
      by_cases e2 : k < (spl 32 l).tail.length
      · exact absurd (by omega) (hk e2)
      · omega
    rw [e9, List.take_of_length_le (Nat.le_refl _)] at hs
    rw [List.take_of_length_le (by omega)]
    exact hs
theorem opOfL_le (b : List UInt8) : opOfL b ≤ 21 := by
  unfold opOfL
  cases h : (List.range 22).find? (fun k => decide (1 ≤ k) && decide (opNm k = b)) with
  | none => simp
  | some k => have := List.mem_range.1 (List.mem_of_find?_eq_some h); simp; omega
theorem op_r {b : List UInt8} {op : Int} (h : ((opOfL b : Nat) : Int) = op) : -9223372036854775808 ≤ op ∧ op ≤ 9223372036854775807 := by
  have := opOfL_le b
  omega
theorem ne_of_beq {a b : Int} (h : (a == b) = false) : ¬ a = b := by simpa using h
theorem op_ways (op : Int) : op = 1 ∨ op = 3 ∨ op = 8 ∨ op = 2 ∨ op = 5 ∨ op = 4 ∨ op = 7 ∨ op = 10 ∨ op = 11 ∨ op = 6 ∨ ((op == 1) = false ∧ (op == 2) = false ∧ (op == 3) = false ∧ (op == 4) = false ∧ (op == 5) = false ∧ (op == 6) = false ∧ (op == 7) = false ∧ (op == 8) = false ∧ (op == 10) = false ∧ (op == 11) = false) := by
  simp only [beq_eq_false_iff_ne]
  omega
/-- The answer's box stays when the step's is written. -/
inductive Sets (R : Nat) (w : World) : World → Prop where
  | none : Sets R w w
  | more {w' : World} (h : Sets R w w') (j : Nat) (v : Value) : Sets R w (w'.setCell ⟨R, j, none⟩ v)
theorem SBx.sets {w w' : World} {B R : Nat} {x0 x1 x2 x3 x4 : Int} (h : SBx w B x0 x1 x2 x3 x4) (hB : B < R) (hs : Sets R w w') : SBx w' B x0 x1 x2 x3 x4 := by
  induction hs with
  | none => exact h
  | more _ j v ih => exact ih.other (by omega) v
theorem Below.sets {w0 w w' : World} {S R : Nat} (h : Below S w0 w) (hB : S < R) (hs : Sets R w w') : Below S w0 w' := by
  induction hs with
  | none => exact h
  | more _ j v ih => exact ih.setCell (p := ⟨R, j, none⟩) (by show S ≤ R; omega) v
end Go.Proofs.YtjcocpdicogecaaGreatDoor
