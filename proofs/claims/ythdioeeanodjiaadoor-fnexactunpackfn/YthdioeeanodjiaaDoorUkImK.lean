/- The program's UnpackFn. -/
import Derived.Test.YthdioeeanodjiaaDoorKUb
import Derived.Test.YthdioeeanodjiaaDoorPkImpK
import Derived.Test.YthdioeeanodjiaaDoorKDq
namespace Go.Proofs.YthdioeeanodjiaaDoor
open Go.ChangeShapes Go.WideShapes Go.ChangeAt Go.RowKit
set_option linter.unusedVariables false
set_option linter.unusedSimpArgs false

theorem bs_inj {a b : List UInt8} (h : bs a = bs b) : a = b := by simpa [bs] using h
theorem bs_eq (a b : List UInt8) : ((bs a).toList == (bs b).toList) = decide (a = b) := by
  by_cases h : a = b
  · rw [h]; simp
  · rw [decide_eq_false h, beq_eq_false_iff_ne]
    exact fun e => h (bs_inj (str_inj e))
set_option maxHeartbeats 1000000 in
theorem bytesEqual_any (v1 v2 : Value) (l1 l2 : List UInt8) (w : World) (h1 : BytesAt w v1 l1) (h2 : BytesAt w v2 l2) :
    Calls Tryd.prog 31 #[v1, v2] w fun e w' => e = .returned (.bool (decide (l1 = l2))) ∧ w' = w := by
  have c1 := conv_bytes v1 l1 w h1
  have c2 := conv_bytes v2 l2 w h2
  have hq := bs_eq l1 l2
  go_enter Tryd.func31, Tryd.ntmps31
  go_wp2
  go_ret
  exact ⟨rfl, rfl⟩

theorem shape_blockLim {F : FnD} (h : FnShape F) : F.blocks.length ≤ 16 ∧ ∀ x ∈ F.blocks, blockLim x := by
  obtain ⟨h1, h2, h3, h4, h5⟩ := h
  refine ⟨h2, fun x hx => ?_⟩
  obtain ⟨i, hi⟩ := List.getElem?_of_mem hx
  obtain ⟨k1, k2, k3, k4, k5⟩ := h5 i x hi
  refine ⟨k1, fun p hp => ?_, k2, fun z hz => ?_, ?_⟩
  · obtain ⟨j, hj⟩ := List.getElem?_of_mem hp
    obtain ⟨q1, q2, q3⟩ := k3 j p hj
    unfold phiLim
    omega
  · obtain ⟨j, hj⟩ := List.getElem?_of_mem hz
    have h9 := k4 j z hj
    unfold placeOkV insOkV at h9
    unfold Named
    repeat' split at h9
    all_goals first | omega | simp at h9
  · unfold termOkV at k5
    unfold EndNamed
    repeat' split at k5
    all_goals first | omega | simp at k5

/-- What UnpackFn is to answer. -/
def UnAns (l : List UInt8) (G : FnD) (r : Bool) : Prop := (∀ F, PackOk F → packB (fnN F) = l → r = true ∧ G = F) ∧ (r = true → PackOk G ∧ packB (fnN G) = l) ∧ (r = false → G = ⟨[], 0⟩)
theorem UnAns.same {l : List UInt8} {G G' : FnD} {r r' : Bool} (h : UnAns l G r) (h' : UnAns l G' r') : r = r' ∧ G = G' := by
  cases r with
  | true =>
    obtain ⟨k1, k2⟩ := h.2.1 rfl
    obtain ⟨e1, e2⟩ := h'.1 G k1 k2
    exact ⟨e1.symm, e2.symm⟩
  | false =>
    cases r' with
    | true =>
      obtain ⟨k1, k2⟩ := h'.2.1 rfl
      have := (h.1 G' k1 k2).1
      cases this
    | false => exact ⟨rfl, (h.2.2 rfl).trans (h'.2.2 rfl).symm⟩
def GivesUk (w : World) (l : List UInt8) (e : Ending) (w' : World) : Prop := ∃ (G : FnD) (bv : Value) (own : OwnF) (r : Bool), e = .returned (.tuple #[.agg #[bv, .int .i64 G.values], .bool r]) ∧ FnO w.heap.size own w' bv G.blocks ∧ (G.blocks.length ≤ 16 ∧ ∀ x ∈ G.blocks, blockSm x) ∧ Below w.heap.size w w' ∧ UnAns l G r
theorem fnO_none (w : World) (lo : Nat) (a : Option Addr) (c : Nat) : FnO lo (fun _ => (9, 0, 0)) w (.slice a 0 c) [] :=
  ⟨ListO.nil _ _, fun _ h => absurd h (by simp), fun _ h => absurd h (by simp), fun _ h => absurd h (by simp)⟩

set_option maxHeartbeats 1000000 in
theorem readerOf_any (v : Value) (l : List UInt8) (w : World) (hb : BytesAt w v l) (hl : l.length ≤ 1048576) (hT : Tab w) :
    Calls Tryd.prog 29 #[v] w fun e w' => e = .returned (clo w.heap.size (w.heap.size + 1)) ∧ RdI w' w.heap.size (w.heap.size + 1) v l 0 ∧ Below w.heap.size w w' := by
  have hw0 : 0 < w.heap.size := World.block_lt_of_cell? w _ (hT 0 (by omega))
  have HR : Hid (RdI ((w.alloc (.cells #[v] 22)).alloc (.cells #[.int .i64 0] 3)) w.heap.size (w.heap.size + 1) v l 0 ∧ Below w.heap.size w ((w.alloc (.cells #[v] 22)).alloc (.cells #[.int .i64 0] 3))) := by
    have hB : Below w.heap.size w ((w.alloc (.cells #[v] 22)).alloc (.cells #[.int .i64 0] 3)) := Bel.after (Bel.alloc _ _) (Bel.alloc _ _)
    refine ⟨⟨?_, ?_, hb.keep hB, fun hp a n c e => ?_, fun i hi => Bel.keeps hB (hT i hi), by omega, by omega, Nat.zero_le _, hl⟩, hB⟩
    · rw [Below.heap_alloc _ _ _ (by simp)]
      exact World.alloc_heap_new w _
    · have h := World.alloc_heap_new (w.alloc (.cells #[v] 22)) (.cells #[.int .i64 0] 3)
      rw [World.size_alloc] at h
      exact h
    · obtain ⟨a', cap, e2, hm, hc⟩ := hb
      obtain ⟨_, b, off, e3, hd⟩ := hc hp
      rw [e2, e3] at e
      simp at e
      rw [← e.1]
      have := World.block_lt_of_cell? w _ (hd 0 hp)
      show b ≠ _
      have : b < w.heap.size := this
      omega
  obtain ⟨a, cap, rfl, _⟩ := hb
  clear hT
  generalize l.length = m at HR ⊢
  go_enter Tryd.func29, Tryd.ntmps29
  go_wp2_with fail
  go_ret
  exact ⟨rfl, HR.out.1, HR.out.2⟩

set_option maxRecDepth 100000 in
set_option maxHeartbeats 8000000 in
theorem impl_unpackFn (v : Value) (l : List UInt8) (w : World) (hb : BytesAt w v l) (hl : l.length ≤ 1048576) (hT : Tab w) :
    Calls Tryd.prog 9 #[v] w fun e w' => GivesUk w l e w' := by
  have HB : Hid (BytesAt w v l) := hb
  have HL : Hid (l.length ≤ 1048576) := hl
  have HT : Hid (Tab w) := hT
  clear hb hl hT
  have hw0 : 0 < w.heap.size := World.block_lt_of_cell? w _ (HT.out 0 (by omega))
  go_enter Tryd.func9, Tryd.ntmps9
  go_wp2_with fail
  generalize hw1 : w.alloc (.cells #[.slice none 0 0, .int .i64 0] 26) = w1
  have B1 : Below w.heap.size w w1 := by rw [← hw1]; exact Bel.alloc _ _
  have HQ1 : Hid (w1.heap[w.heap.size]? = some (.cells #[.slice none 0 0, .int .i64 0] 26 (0, 0))) := by rw [← hw1]; exact World.alloc_heap_new w _
  have HS1 : Hid (w1.heap.size = w.heap.size + 1) := by
    show _ = _
    rw [← hw1]
    simp
  have HB1 : Hid (Below w.heap.size w w1) := B1
  clear hw1 B1
  obtain ⟨Q, HQQ⟩ : ∃ Q, Hid (w.heap.size = Q) := ⟨_, rfl⟩
  rw [HQQ.out] at HQ1 HS1 HB1 ⊢
  have kb : ∀ {w'}, Below w1.heap.size w1 w' → Below Q w w' := fun h => HB1.out.trans (h.mono (by have := HS1.out; omega))
  have HKB : Hid (∀ {w'}, Below w1.heap.size w1 w' → Below Q w w') := kb
  clear kb
  refine (readerOf_any v l w1 (HB.out.keep (by rw [HQQ.out]; exact HB1.out)) HL.out (fun i hi => Bel.keeps (by rw [HQQ.out]; exact HB1.out) (HT.out i hi))).mono ?_
  rintro e w2 ⟨rfl, hR2, hB2⟩
  have HR2 : Hid (RdI w2 w1.heap.size (w1.heap.size + 1) v l 0) := hR2
  have HB2 : Hid (Below w1.heap.size w1 w2) := hB2
  clear hR2 hB2
  go_wp2_with fail
  refine (fn_any HR2.out).mono ?_
  rintro e w3 ⟨F, own, g, p', rfl, hF16, hFs, hV, hR, hF, hO⟩
  have HB3 : Hid (Below w1.heap.size w1 w3) := HB2.out.trans (hF.below (by omega) HB2.out.size)
  have HF3 : Hid (F.blocks.length ≤ 16 ∧ (∀ x ∈ F.blocks, blockSm x) ∧ FnO w1.heap.size own w3 (.slice (some ⟨g, 0, none⟩) F.blocks.length F.blocks.length) F.blocks) := ⟨hF16, hFs, hV.low' HB2.out.size⟩
  have HO3 : Hid (∀ F0, PackOk F0 → packB (fnN F0) = l → F = F0) := fun F0 h1 h2 => hO F0 (shape_blockLim h1.1).1 (shape_blockLim h1.1).2 (On.start h2 h1.2)
  clear hF16 hFs hV hR hF hO HR2
  obtain ⟨n, HN⟩ : ∃ n, Hid (F.blocks.length = n) := ⟨_, rfl⟩
  obtain ⟨vals, HV⟩ : ∃ n, Hid (F.values = n) := ⟨_, rfl⟩
  rw [HN.out, HV.out]
  go_wp2_with fail
  have B4 : Below w3.heap.size w3 (w3.alloc (.cells #[.slice (some ⟨g, 0, none⟩) n n, .int .i64 vals] 26)) := Bel.alloc _ _
  have HB4 : Hid (Below w1.heap.size w1 (w3.alloc (.cells #[.slice (some ⟨g, 0, none⟩) n n, .int .i64 vals] 26))) := HB3.out.trans (B4.mono HB3.out.size)
  have HV4 : Hid (FnO w1.heap.size own (w3.alloc (.cells #[.slice (some ⟨g, 0, none⟩) n n, .int .i64 vals] 26)) (.slice (some ⟨g, 0, none⟩) n n) F.blocks) := by
    have h := HF3.out.2.2.keep B4
    rw [HN.out] at h
    exact h
  have HP4 : Hid ((w3.alloc (.cells #[.slice (some ⟨g, 0, none⟩) n n, .int .i64 vals] 26)).heap[w3.heap.size]? = some (.cells #[.slice (some ⟨g, 0, none⟩) n n, .int .i64 vals] 26 (0, 0))) := World.alloc_heap_new _ _
  have HS4 : Hid (w3.heap.size < (w3.alloc (.cells #[.slice (some ⟨g, 0, none⟩) n n, .int .i64 vals] 26)).heap.size) := by
    show _ < _
    simp
  generalize w3.alloc (.cells #[.slice (some ⟨g, 0, none⟩) n n, .int .i64 vals] 26) = w4 at HB4 HV4 HP4 HS4 B4 ⊢
  obtain ⟨P, HPP⟩ : ∃ P, Hid (w3.heap.size = P) := ⟨_, rfl⟩
  rw [HPP.out] at HP4 HS4 ⊢
  clear B4
  refine (impl_packFn _ F w4 ((HV4.out.low' (Nat.zero_le _)).fnAt HV.out)).mono ?_
  rintro e w5 ⟨u, rfl, hu, hB⟩
  have HB5 : Hid (Below w1.heap.size w1 w5) := HB4.out.trans (hB.mono HB4.out.size)
  have HV5 : Hid (FnO w1.heap.size own w5 (.slice (some ⟨g, 0, none⟩) n n) F.blocks) := HV4.out.keep hB
  have HU5 : Hid (BytesAt w5 u (packFnB F)) := hu.at
  have HP5 : Hid (w5.heap[P]? = some (.cells #[.slice (some ⟨g, 0, none⟩) n n, .int .i64 vals] 26 (0, 0))) := (hB.block P HS4.out).trans HP4.out
  have HQ5 : Hid (w5.heap[Q]? = some (.cells #[.slice none 0 0, .int .i64 0] 26 (0, 0))) := (HB5.out.block Q (by rw [HS1.out]; omega)).trans HQ1.out
  have HBb : Hid (BytesAt w5 v l) := HB.out.keep (by rw [HQQ.out]; exact HKB.out HB5.out)
  clear hu hB
  have q0 : w5.cell? ⟨Q, 0, none⟩ = some (.slice none 0 0) := by simp [World.cell?, HQ5.out]
  have q1 : w5.cell? ⟨Q, 1, none⟩ = some (.int .i64 0) := by simp [World.cell?, HQ5.out]
  have qz : ∀ j, w5.frozen? ⟨Q, j, none⟩ = false := fun j => by simp [World.frozen?, HQ5.out]
  have p0 : w5.cell? ⟨P, 0, none⟩ = some (.slice (some ⟨g, 0, none⟩) n n) := by simp [World.cell?, HP5.out]
  have p1 : w5.cell? ⟨P, 1, none⟩ = some (.int .i64 vals) := by simp [World.cell?, HP5.out]
  obtain ⟨ok, HOK⟩ : ∃ b, Hid (packFnOk F = b) := ⟨_, rfl⟩
  rw [HOK.out]
  have HNO : Hid (∀ r : Bool, r = false → (¬ (PackOk F ∧ packB (fnN F) = l)) → UnAns l ⟨[], 0⟩ r) := fun r hr hn => ⟨fun F0 h1 h2 => absurd (by rw [HO3.out F0 h1 h2]; exact ⟨h1, h2⟩) hn, ⟨fun h => absurd (hr.symm.trans h) (by simp), fun _ => rfl⟩⟩
  cases ok with
  | false =>
    go_wp2_with fail
    refine bodyPost_ret (v := .tuple #[.agg #[.slice none 0 0, .int .i64 0], .bool false]) (by simp [results, Tryd.results9, go_sem, q0, q1]) rfl ?_
    refine ⟨⟨[], 0⟩, .slice none 0 0, fun _ => (9, 0, 0), false, rfl, fnO_none _ _ _ _, ⟨Nat.zero_le _, fun x hx => (List.not_mem_nil hx).elim⟩, ?_, HNO.out false rfl (fun h => by have h9 := HOK.out; simp [packFnOk, h.1] at h9)⟩
    rw [HQQ.out]
    exact ((HKB.out HB5.out).setCell (p := ⟨Q, 0, none⟩) (Nat.le_refl _) _).setCell (p := ⟨Q, 1, none⟩) (Nat.le_refl _) _
  | true =>
    go_wp2_with fail
    refine (bytesEqual_any u v _ l w5 HU5.out HBb.out).mono ?_
    rintro e w6 ⟨rfl, hw6⟩
    subst hw6
    have hok : PackOk F := by
      have h := HOK.out
      simpa [packFnOk] using h
    by_cases he : packFnB F = l
    · rw [decide_eq_true he]
      have HE : Hid (packFnB F = l) := he
      clear he
      go_wp2_with fail
      refine bodyPost_ret (v := .tuple #[.agg #[.slice (some ⟨g, 0, none⟩) n n, .int .i64 vals], .bool true]) (by simp [results, Tryd.results9, go_sem, q0, q1]) rfl ?_
      have hV9 : FnO w.heap.size own ((w6.setCell ⟨Q, 0, none⟩ (.slice (some ⟨g, 0, none⟩) n n)).setCell ⟨Q, 1, none⟩ (.int .i64 vals)) (.slice (some ⟨g, 0, none⟩) n n) F.blocks :=
        (HV5.out.low' (by rw [HS1.out, HQQ.out]; omega)).same (fun b hb => (Below.heap_setCell _ _ _ b (show b ≠ Q by have := HV5.out.low b hb; have := HS1.out; omega)).trans (Below.heap_setCell _ _ _ b (show b ≠ Q by have := HV5.out.low b hb; have := HS1.out; omega))) (by simp)
      have hk : packB (fnN F) = l := by rw [← (packFn_yes hok).1]; exact HE.out
      refine ⟨F, _, own, true, by rw [HV.out], hV9, ⟨HF3.out.1, HF3.out.2.1⟩, ?_, fun F0 h1 h2 => ⟨rfl, HO3.out F0 h1 h2⟩, fun _ => ⟨hok, hk⟩, fun h => absurd h (by simp)⟩
      rw [HQQ.out]
      exact ((HKB.out HB5.out).setCell (p := ⟨Q, 0, none⟩) (Nat.le_refl _) _).setCell (p := ⟨Q, 1, none⟩) (Nat.le_refl _) _
    · rw [decide_eq_false he]
      have HE : Hid (¬ packFnB F = l) := he
      clear he
      go_wp2_with fail
      refine bodyPost_ret (v := .tuple #[.agg #[.slice none 0 0, .int .i64 0], .bool false]) (by simp [results, Tryd.results9, go_sem, q0, q1]) rfl ?_
      refine ⟨⟨[], 0⟩, .slice none 0 0, fun _ => (9, 0, 0), false, rfl, fnO_none _ _ _ _, ⟨Nat.zero_le _, fun x hx => (List.not_mem_nil hx).elim⟩, ?_, HNO.out false rfl (fun h => HE.out (by rw [(packFn_yes hok).1]; exact h.2))⟩
      rw [HQQ.out]
      exact ((HKB.out HB5.out).setCell (p := ⟨Q, 0, none⟩) (Nat.le_refl _) _).setCell (p := ⟨Q, 1, none⟩) (Nat.le_refl _) _
end Go.Proofs.YthdioeeanodjiaaDoor
