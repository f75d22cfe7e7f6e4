/- The program's PackFn. -/
import Derived.Test.YthdioeeanodjiaaDoorKPk
import Derived.Test.YthdioeeanodjiaaDoorKSb
namespace Go.Proofs.YthdioeeanodjiaaDoor
open Go.ChangeShapes Go.WideShapes Go.ChangeAt Go.RowKit
set_option linter.unusedVariables false

def GivesPk (w : World) (F : FnD) (e : Ending) (w' : World) : Prop := ∃ u, e = .returned (.tuple #[u, .bool (packFnOk F)]) ∧ OwnB w' w.heap.size u (packFnB F) ∧ Below w.heap.size w w'
theorem fnN_eq (F : FnD) : fnN F = [F.values, (F.blocks.length : Int)] ++ blocksN F.blocks := rfl
theorem blocks_take_len {F : FnD} (h : FnShape F) (k : Nat) : (blocksN (F.blocks.take k)).length ≤ 16000 := by
  have h1 := blocksN_len (F.blocks.take k) (fun x hx => shape_lim h x (List.mem_of_mem_take hx))
  have h2 := h.2.1
  rw [List.length_take] at h1
  omega
def BksR (K : Nat → Prop) (lo Q : Nat) (w0 : World) (F : FnD) (zs : List Int) (n : Nat) (iv : Value) (wr : World) : Prop :=
  ∃ k : Nat, k ≤ n ∧ iv = .int .i64 k ∧ BlkSt K lo Q w0 wr [] true (zs ++ blocksN (F.blocks.take k))
theorem BlkSt.at {K : Nat → Prop} {lo Q : Nat} {w0 wr : World} {ys : List Int} (h : BlkSt K lo Q w0 wr [] true ys) : PkAt K lo Q wr (packB ys) (allF ys) := by
  have h9 := PkSt.at' h
  simpa using h9

set_option maxRecDepth 100000 in
set_option maxHeartbeats 4000000 in
theorem impl_packFn (v : Value) (F : FnD) (w : World) (hF : FnAt w v F) :
    Calls Tryd.prog 7 #[v] w fun e w' => GivesPk w F e w' := by
  have HF : Hid (FnAt w v F) := hF
  obtain ⟨n, HN⟩ : ∃ n, Hid (F.blocks.length = n) := ⟨_, rfl⟩
  obtain ⟨vals, HV⟩ : ∃ x, Hid (F.values = x) := ⟨_, rfl⟩
  obtain ⟨bv, rfl, hbv⟩ := hF
  obtain ⟨ba, bcap, rfl, _, hbc⟩ := hbv
  rw [HN.out] at hbc HF ⊢
  rw [HV.out] at HF ⊢
  have HBC : Hid (0 < n → ∃ b off, ba = some ⟨b, off, none⟩ ∧ 0 ≤ b ∧ ∀ i x, F.blocks[i]? = some x → BlockAt 0 w b (off + i * 6) x) := hbc
  clear hbc
  obtain ⟨wA, hwA⟩ : ∃ wA, w.alloc (.cells #[.slice ba n bcap, .int .i64 vals] 26) = wA := ⟨_, rfl⟩
  have BA : Hid (Below w.heap.size w wA) := by rw [← hwA]; exact Bel.alloc _ _
  have hsA : wA.heap.size = w.heap.size + 1 := by rw [← hwA]; simp
  have XA : Hid (wA.heap[w.heap.size]? = some (.cells #[.slice ba n bcap, .int .i64 vals] 26 (0, 0))) := by
    rw [← hwA]
    exact World.alloc_heap_new w _
  have a0 : wA.cell? ⟨w.heap.size, 0, none⟩ = some (.slice ba n bcap) := by simp [World.cell?, XA.out]
  have a1 : wA.cell? ⟨w.heap.size, 1, none⟩ = some (.int .i64 vals) := by simp [World.cell?, XA.out]
  go_enter Tryd.func7, Tryd.ntmps7
  go_wp2_with fail
  refine (impl_shapeOk _ F _ (HF.out.later BA.out)).mono ?_
  rintro e w2 ⟨t, rfl, ht, b2⟩
  have HT : Hid (t = true ↔ FnShape F) := ht
  have B2 : Hid (Below w.heap.size w w2) := Bel.after BA.out b2
  have X2 : Hid (w2.heap[w.heap.size]? = some (.cells #[.slice ba n bcap, .int .i64 vals] 26 (0, 0))) := (b2.block _ (by omega)).trans XA.out
  have hs2 := b2.size
  clear b2 a0 a1 ht hwA XA
  cases t with
  | false =>
    have HNO : Hid (¬ PackOk F) := fun h => by
      have := HT.out.2 h.1
      cases this
    go_wp2_with fail
    refine bodyPost_ret (v := .tuple #[.slice (some ⟨w2.heap.size, 0, none⟩) 0 0, .bool false]) (by simp [results, Tryd.results7, go_sem]) rfl ?_
    exact ⟨_, by rw [(packFn_no HNO.out).2], by rw [(packFn_no HNO.out).1]; exact ownB_new _ _ B2.out.size, Bel.after B2.out (Bel.alloc _ _)⟩
  | true =>
    have HSH : Hid (FnShape F) := HT.out.1 rfl
    obtain ⟨w3, hw3⟩ : ∃ W, (w2.alloc (.cells #[] 5)).alloc (.cells #[.slice (some ⟨w2.heap.size, 0, none⟩) 0 0, .bool true] 54) = W := ⟨_, rfl⟩
    have b3 : Below w2.heap.size w2 w3 := by rw [← hw3]; exact Bel.after (Bel.alloc _ _) (Bel.alloc _ _)
    have hs3 : w3.heap.size = w2.heap.size + 1 + 1 := by rw [← hw3]; simp
    have HP3 : Hid (PkAt (fun g => g = w.heap.size) w.heap.size (w2.heap.size + 1) w3 [] true) := by
      refine ⟨.slice (some ⟨w2.heap.size, 0, none⟩) 0 0, ?_, ?_, fun g hg => ?_, fun g hg => ?_, by omega, by omega⟩
      · rw [← hw3]
        have := World.alloc_heap_new (w2.alloc (.cells #[] 5)) (.cells #[.slice (some ⟨w2.heap.size, 0, none⟩) 0 0, .bool true] 54)
        rwa [World.size_alloc] at this
      · rw [← hw3]
        exact (ownB_new w2 w.heap.size (by omega)).keep (Bel.alloc _ _)
      · simp [Value.ownBlock] at hg
        omega
      · subst hg
        omega
    have S3 : Hid (BlkSt (fun g => g = w.heap.size) w.heap.size (w2.heap.size + 1) w3 w3 [] true []) := by
      refine ⟨?_, Below.refl _ _, fun _ _ => rfl, Nat.le_refl _⟩
      rw [packB_nil, allF_nil]
      exact HP3.out
    have X3 : Hid (w3.heap[w.heap.size]? = some (.cells #[.slice ba n bcap, .int .i64 vals] 26 (0, 0))) := (b3.block _ (by omega)).trans X2.out
    have a0 : w3.cell? ⟨w.heap.size, 0, none⟩ = some (.slice ba n bcap) := by simp [World.cell?, X3.out]
    have a1 : w3.cell? ⟨w.heap.size, 1, none⟩ = some (.int .i64 vals) := by simp [World.cell?, X3.out]
    have HXB : Hid (∀ wr ys, BlkSt (fun g => g = w.heap.size) w.heap.size (w2.heap.size + 1) w3 wr [] true ys → wr.heap[w.heap.size]? = some (.cells #[.slice ba n bcap, .int .i64 vals] 26 (0, 0))) := fun wr ys h => (h.off _ rfl).trans X3.out
    have HSW : Hid (∀ wr ys, BlkSt (fun g => g = w.heap.size) w.heap.size (w2.heap.size + 1) w3 wr [] true ys → Below w.heap.size w wr) := fun wr ys h => (Bel.after B2.out b3).trans h.bel
    obtain ⟨Q, HQ⟩ : ∃ z, Hid (w2.heap.size + 1 = z) := ⟨_, rfl⟩
    obtain ⟨X, HX⟩ : ∃ z, Hid (w.heap.size = z) := ⟨_, rfl⟩
    go_wp2_with fail
    refine (S3.out.call _ (Bel.alloc w3 _) (w2.heap.size + 1 + 1) 2 [vals, (n : Int)] (by omega) (by simp; omega) rfl (by omega) (row_at w3 _ _ _ _ hs3 rfl) (by simp)).mono ?_
    rintro e w4 ⟨rfl, s4, _⟩
    have S4 : Hid (BlkSt (fun g => g = w.heap.size) w.heap.size (w2.heap.size + 1) w3 w4 [] true ([vals, (n : Int)] ++ blocksN (F.blocks.take 0))) := by
      show BlkSt _ _ _ _ _ _ _ _
      simpa [blocksN] using s4
    have a0 : w4.cell? ⟨w.heap.size, 0, none⟩ = some (.slice ba n bcap) := by simp [World.cell?, HXB.out _ _ S4.out]
    have hn16 : (n : Int) ≤ 16 := by have := HSH.out.2.1; have := HN.out; omega
    rw [HQ.out] at S4 HXB HSW ⊢
    rw [HX.out] at a0 ⊢
    generalize w2.heap.size = s2 at *
    clear s4 a1 hw3 S3 HP3 b3
    go_wp2_with fail
    clear a0
    go_loopw [25] (fun iv wr => BksR (fun g => g = w.heap.size) w.heap.size Q w3 F [vals, (n : Int)] n iv wr) (fun iv _ => n - (intOf iv).toNat)
    case atStart => exact ⟨0, Nat.zero_le _, rfl, S4.out⟩
    case round =>
      obtain ⟨k, hk, rfl, hst⟩ := hrel
      have ST : Hid (BlkSt (fun g => g = w.heap.size) w.heap.size Q w3 wr [] true ([vals, (n : Int)] ++ blocksN (F.blocks.take k))) := hst
      clear hst
      by_cases hlt : (k : Int) < (n : Int)
      · have hkn : k < n := by omega
        obtain ⟨x, HXX⟩ : ∃ x, Hid (F.blocks[k]? = some x) := ⟨_, List.getElem?_eq_getElem (by rw [HN.out]; exact hkn)⟩
        obtain ⟨b, off, rfl, _, hd⟩ := HBC.out (by omega)
        obtain ⟨pv, lv, p0, p1, p2, p3, p4, p5, hp, hl⟩ := hd k x HXX.out
        have hlim : Hid (BlockLim x) := shape_lim HSH.out x (List.mem_of_getElem? HXX.out)
        obtain ⟨pa, pcap, rfl, hpm, hpc⟩ := hp
        obtain ⟨la, lcap, rfl, hlm, hlc⟩ := hl
        obtain ⟨pn, HPN⟩ : ∃ z, Hid (x.phis.length = z) := ⟨_, rfl⟩
        obtain ⟨ln, HLN⟩ : ∃ z, Hid (x.list.length = z) := ⟨_, rfl⟩
        have HPV : Hid (ListAt 0 2 (PhiAt 0) w (.slice pa pn pcap) x.phis) := ⟨pa, pcap, by rw [HPN.out], hpm, hpc⟩
        have HLV : Hid (ListAt 0 5 InsAt w (.slice la ln lcap) x.list) := ⟨la, lcap, by rw [HLN.out], hlm, hlc⟩
        rw [HPN.out] at p0
        rw [HLN.out] at p1
        obtain ⟨tk, HTK⟩ : ∃ n, Hid (x.term.k = n) := ⟨_, rfl⟩
        obtain ⟨ta, HTA⟩ : ∃ n, Hid (x.term.a = n) := ⟨_, rfl⟩
        obtain ⟨tt, HTT⟩ : ∃ n, Hid (x.term.t = n) := ⟨_, rfl⟩
        obtain ⟨te, HTE⟩ : ∃ n, Hid (x.term.e = n) := ⟨_, rfl⟩
        rw [HTK.out] at p2
        rw [HTA.out] at p3
        rw [HTT.out] at p4
        rw [HTE.out] at p5
        have BW : Hid (Below w.heap.size w wr) := HSW.out _ _ ST.out
        have q0 := Bel.keeps BW.out p0
        have q1 := Bel.keeps BW.out p1
        have q2 := Bel.keeps BW.out p2
        have q3 := Bel.keeps BW.out p3
        have q4 := Bel.keeps BW.out p4
        have q5 := Bel.keeps BW.out p5
        clear p0 p1 p2 p3 p4 p5 hd hpm hpc hlm hlc
        go_wp2_with fail
        have bP := Bel.alloc wr (.cells #[.slice pa pn pcap, .slice la ln lcap, .int .i64 tk, .int .i64 ta, .int .i64 tt, .int .i64 te] 46)
        rw [← HTK.out, ← HTA.out, ← HTT.out, ← HTE.out]
        rw [← HTK.out, ← HTA.out, ← HTT.out, ← HTE.out] at bP
        refine (block_any (KNew (fun g => g = w.heap.size) wr _) w.heap.size Q _ _ (.slice pa pn pcap) (.slice la ln lcap) x w _ (PkSt.ready ST.out bP) (Bel.after BW.out bP) rfl hlim.out (by
          have h1 := packB_len ([vals, (n : Int)] ++ blocksN (F.blocks.take k))
          have h2 := blocks_take_len HSH.out k
          simp only [List.nil_append, List.length_append, List.length_cons, List.length_nil] at h1 ⊢
          omega) HPV.out HLV.out).mono ?_
        intro e w5 h5
        obtain ⟨rfl, s5, _⟩ := BlkSt.put ST.out bP h5
        have S5 : Hid (BlkSt (fun g => g = w.heap.size) w.heap.size Q w3 w5 [] true ([vals, (n : Int)] ++ blocksN (F.blocks.take (k + 1)))) := s5.congr (by rw [blocksN_next HXX.out, List.append_assoc])
        clear s5 h5 bP q0 q1 q2 q3 q4 q5
        go_wp2_with fail
        go_roundw
        case rel => exact ⟨k + 1, by omega, by go_num, S5.out⟩
        case measure => simp [intOf]; omega
      · have ekn : k = n := by omega
        subst ekn
        have SA : Hid (BlkSt (fun g => g = w.heap.size) w.heap.size Q w3 wr [] true (fnN F)) := ST.out.congr (by
          rw [List.take_of_length_le (by rw [HN.out]; exact Nat.le_refl _), fnN_eq, HN.out, HV.out])
        have BW : Hid (Below w.heap.size w wr) := HSW.out _ _ SA.out
        obtain ⟨u, p1, p2, _, _, _, p6⟩ := SA.out.at
        have U2 : Hid (OwnB wr w.heap.size u (packB (fnN F))) := p2
        obtain ⟨un, HUN⟩ : ∃ z, Hid ((packB (fnN F)).length = z) := ⟨_, rfl⟩
        obtain ⟨ua, uc, e9⟩ := p2.form HUN.out
        subst e9
        have c0 : wr.cell? ⟨Q, 0, none⟩ = some (.slice ua un uc) := by simp [World.cell?, p1]
        have c1 : wr.cell? ⟨Q, 1, none⟩ = some (.bool (allF (fnN F))) := by simp [World.cell?, p1]
        clear p1 p2 ST
        cases hall : allF (fnN F) with
        | true =>
          rw [hall] at c1
          have HY : Hid (PackOk F) := ⟨HSH.out, hall⟩
          clear hall
          go_wp2_with fail
          refine bodyPost_ret (v := .tuple #[.slice ua un uc, .bool true]) (by simp [results, Tryd.results7, go_sem]) rfl ?_
          exact ⟨_, by rw [(packFn_yes HY.out).2], by rw [(packFn_yes HY.out).1]; exact U2.out, BW.out⟩
        | false =>
          rw [hall] at c1
          have HNO : Hid (¬ PackOk F) := fun h => by rw [h.2] at hall; cases hall
          clear hall
          go_wp2_with fail
          refine bodyPost_ret (v := .tuple #[.slice (some ⟨wr.heap.size, 0, none⟩) 0 0, .bool false]) (by simp [results, Tryd.results7, go_sem]) rfl ?_
          exact ⟨_, by rw [(packFn_no HNO.out).2], by rw [(packFn_no HNO.out).1]; exact ownB_new _ _ p6, Bel.after BW.out (Bel.alloc _ _)⟩
end Go.Proofs.YthdioeeanodjiaaDoor
