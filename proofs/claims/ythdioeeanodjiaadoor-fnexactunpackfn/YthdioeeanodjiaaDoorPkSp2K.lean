/- The model's PackFn, its walk. -/
import Derived.Test.YthdioeeanodjiaaDoorPkSp1K
namespace Go.Proofs.YthdioeeanodjiaaDoor
open Go.ChangeShapes Go.WideShapes Go.ChangeAt Go.RowKit
set_option linter.unusedVariables false

def AllFm (l : List Int) : Prop := ∀ x ∈ l, Formed x
theorem allF_iff {l : List Int} : allF l = true ↔ AllFm l := by
  unfold allF AllFm
  simp [List.all_eq_true]
theorem place_formed {vals : Int} {x : InsD} (h : placeOkV vals x = true) (hv : vals ≤ 80) : Formed x.op ∧ Formed x.d ∧ Formed x.a ∧ Formed x.b := by
  unfold placeOkV insOkV at h
  unfold Formed
  repeat' split at h
  all_goals simp [valIn_iff] at h
  all_goals omega
theorem term_formed {n vals k a t e : Int} (h : termOkV n vals k a t e = true) (hn : n ≤ 16) (hv : vals ≤ 80) : Formed k ∧ Formed a ∧ Formed t ∧ Formed e := by
  unfold termOkV at h
  unfold Formed
  repeat' split at h
  all_goals simp [valIn_iff] at h
  all_goals omega
theorem all_formed {F : FnD} (h : FnShape F) (hN : ∀ x ∈ F.blocks, ∀ z ∈ x.list, Formed z.n) : allF (fnN F) = true := by
  rw [allF_iff]
  obtain ⟨h1, h2, h3, h4, h5⟩ := h
  intro v hv
  rw [fnN_eq, List.mem_append] at hv
  rcases hv with hv | hv
  · simp at hv
    unfold Formed
    rcases hv with rfl | rfl <;> omega
  · unfold blocksN at hv
    rw [List.mem_flatMap] at hv
    obtain ⟨x, hx, hv⟩ := hv
    obtain ⟨i, hi⟩ := List.getElem?_of_mem hx
    obtain ⟨k1, k2, k3, k4, k5⟩ := h5 i x hi
    unfold blockN at hv
    simp only [List.mem_append, List.mem_cons, List.not_mem_nil, or_false] at hv
    rcases hv with (((hv | hv) | hv) | hv) | hv
    · subst hv; unfold Formed; omega
    · unfold phisN at hv
      rw [List.mem_flatMap] at hv
      obtain ⟨p, hp, hv⟩ := hv
      obtain ⟨j, hj⟩ := List.getElem?_of_mem hp
      obtain ⟨q1, q2, q3⟩ := k3 j p hj
      unfold phiN at hv
      simp only [List.mem_append, List.mem_cons, List.not_mem_nil, or_false] at hv
      rcases hv with (rfl | rfl) | hv
      · exact valIn_formed q1 (by omega)
      · unfold Formed; omega
      · unfold armsN at hv
        rw [List.mem_flatMap] at hv
        obtain ⟨a, ha, hv⟩ := hv
        obtain ⟨m, hm⟩ := List.getElem?_of_mem ha
        obtain ⟨r1, r2, _⟩ := q3 m a (List.getElem?_eq_some_iff.1 hm).1 hm
        simp at hv
        rcases hv with rfl | rfl
        · exact valIn_formed r1 (by omega)
        · exact valIn_formed r2 (by omega)
    · subst hv; unfold Formed; omega
    · unfold insN at hv
      rw [List.mem_flatMap] at hv
      obtain ⟨z, hz, hv⟩ := hv
      obtain ⟨m, hm⟩ := List.getElem?_of_mem hz
      obtain ⟨r1, r2, r3, r4⟩ := place_formed (k4 m z hm) h4
      have r5 := hN x hx z hz
      simp at hv
      rcases hv with rfl | rfl | rfl | rfl | rfl <;> assumption
    · obtain ⟨r1, r2, r3, r4⟩ := term_formed k5 (by omega) h4
      rcases hv with rfl | rfl | rfl | rfl <;> assumption
theorem not_formed {F : FnD} {x : BlockD} {z : InsD} (hx : x ∈ F.blocks) (hz : z ∈ x.list) (h : ¬ Formed z.n) : ¬ PackOk F := fun h9 => by
  have h8 := allF_iff.1 h9.2
  refine h (h8 z.n ?_)
  rw [fnN_eq, List.mem_append]
  refine .inr ?_
  unfold blocksN
  rw [List.mem_flatMap]
  refine ⟨x, hx, ?_⟩
  unfold blockN
  simp only [List.mem_append]
  refine .inl (.inr ?_)
  unfold insN
  rw [List.mem_flatMap]
  exact ⟨z, hz, by simp⟩

def OutP (K : Nat → Prop) (lo : Nat) (w0 : World) (F : FnD) (Z : List Int) (n : Nat) (ov iv : Value) (wr : World) : Prop :=
  ∃ k : Nat, k ≤ n ∧ iv = .int .i64 k ∧ SpSt K lo w0 wr ov (packB (Z ++ blocksN (F.blocks.take k))) ∧ ∀ x ∈ F.blocks.take k, ∀ z ∈ x.list, Formed z.n
def PhiP (K : Nat → Prop) (lo : Nat) (w0 : World) (x : BlockD) (Z : List Int) (n : Nat) (ov iv : Value) (wr : World) : Prop :=
  ∃ k : Nat, k ≤ n ∧ iv = .int .i64 k ∧ SpSt K lo w0 wr ov (packB (Z ++ phisN (x.phis.take k)))
def ArmP (K : Nat → Prop) (lo : Nat) (w0 : World) (ar : List ArmD) (Z : List Int) (n : Nat) (ov iv : Value) (wr : World) : Prop :=
  ∃ k : Nat, k ≤ n ∧ iv = .int .i64 k ∧ SpSt K lo w0 wr ov (packB (Z ++ armsN (ar.take k)))
def LisP (K : Nat → Prop) (lo : Nat) (w0 : World) (x : BlockD) (Z : List Int) (n : Nat) (ov iv : Value) (wr : World) : Prop :=
  ∃ k : Nat, k ≤ n ∧ iv = .int .i64 k ∧ SpSt K lo w0 wr ov (packB (Z ++ insN (x.list.take k))) ∧ ∀ z ∈ x.list.take k, Formed z.n
theorem SpSt.form {K : Nat → Prop} {lo : Nat} {w0 wr : World} {v : Value} {l : List UInt8} (h : SpSt K lo w0 wr v l) : ∃ a q c, v = .slice a q c := by
  obtain ⟨a, c, e⟩ := h.own.form rfl
  exact ⟨a, _, c, e⟩

set_option maxRecDepth 100000 in
set_option maxHeartbeats 8000000 in
theorem spec_packFn (v : Value) (F : FnD) (w : World) (hF : FnAt w v F) :
    Calls Tryd.prog 8 #[v] w fun e w' => GivesPk w F e w' := by
  have HF : Hid (FnAt w v F) := hF
  obtain ⟨n, HN⟩ : ∃ n, Hid (F.blocks.length = n) := ⟨_, rfl⟩
  obtain ⟨vals, HV⟩ : ∃ x, Hid (F.values = x) := ⟨_, rfl⟩
  obtain ⟨bv, rfl, hbv⟩ := hF
  obtain ⟨ba, bcap, rfl, _, hbc⟩ := hbv
  rw [HN.out] at hbc HF ⊢
  rw [HV.out] at HF ⊢
  have HBC : Hid (0 < n → ∃ b off, ba = some ⟨b, off, none⟩ ∧ 0 ≤ b ∧ ∀ i x, F.blocks[i]? = some x → BlockAt 0 w b (off + i * 6) x) := hbc
  clear hbc
  obtain ⟨wA, hwA⟩ : ∃ wA, w.alloc (.cells #[.slice ba n bcap, .int .i64 vals] 26) = wA := ⟨_, rfl⟩
  have BA : Hid (Below w.heap.size w wA) := by rw [← hwA]; exact Bel.alloc _ _
  have hsA : wA.heap.size = w.heap.size + 1 := by rw [← hwA]; simp
  have XA : Hid (wA.heap[w.heap.size]? = some (.cells #[.slice ba n bcap, .int .i64 vals] 26 (0, 0))) := by
    rw [← hwA]
    exact World.alloc_heap_new w _
  have a0 : wA.cell? ⟨w.heap.size, 0, none⟩ = some (.slice ba n bcap) := by simp [World.cell?, XA.out]
  have a1 : wA.cell? ⟨w.heap.size, 1, none⟩ = some (.int .i64 vals) := by simp [World.cell?, XA.out]
  go_enter Tryd.func8, Tryd.ntmps8
  go_wp2_with fail
  refine (spec_shapeOk _ F _ (HF.out.later BA.out)).mono ?_
  rintro e w2 ⟨t, rfl, ht, b2⟩
  have HT : Hid (t = true ↔ FnShape F) := ht
  have B2 : Hid (Below w.heap.size w w2) := Bel.after BA.out b2
  have X2 : Hid (w2.heap[w.heap.size]? = some (.cells #[.slice ba n bcap, .int .i64 vals] 26 (0, 0))) := (b2.block _ (by omega)).trans XA.out
  have hs2 := b2.size
  clear b2 a0 a1 ht hwA XA
  cases t with
  | false =>
    have HNO : Hid (¬ PackOk F) := fun h => by
      have := HT.out.2 h.1
      cases this
    go_wp2_with fail
    refine bodyPost_ret (v := .tuple #[.slice (some ⟨w2.heap.size, 0, none⟩) 0 0, .bool false]) (by simp [results, Tryd.results8, go_sem]) rfl ?_
    exact ⟨_, by rw [(packFn_no HNO.out).2], by rw [(packFn_no HNO.out).1]; exact ownB_new _ _ B2.out.size, Bel.after B2.out (Bel.alloc _ _)⟩
  | true =>
    have HSH : Hid (FnShape F) := HT.out.1 rfl
    have hn16 : (n : Int) ≤ 16 := by have := HSH.out.2.1; have := HN.out; omega
    have a0 : w2.cell? ⟨w.heap.size, 0, none⟩ = some (.slice ba n bcap) := by simp [World.cell?, X2.out]
    have a1 : w2.cell? ⟨w.heap.size, 1, none⟩ = some (.int .i64 vals) := by simp [World.cell?, X2.out]
    go_wp2_with fail
    have bL := Bel.alloc w2 (.cells #[.int .i64 vals, .int .i64 (n : Int)] 3)
    refine (l19Nums_any w2.heap.size 2 [vals, (n : Int)] _ rfl (by omega) (row_new w2 _ _ _ rfl)).mono ?_
    rintro e w3 ⟨v3, rfl, o3, b3⟩
    have B3 : Hid (Below w.heap.size w w3) := Bel.after (Bel.after B2.out bL) b3
    have X3 : Hid (w3.heap[w.heap.size]? = some (.cells #[.slice ba n bcap, .int .i64 vals] 26 (0, 0))) := (b3.block _ (by simp; omega)).trans ((bL.block _ (by omega)).trans X2.out)
    have hs3 := Nat.le_trans bL.size b3.size
    have S3 : Hid (SpSt (fun g => g = w.heap.size) w.heap.size w3 w3 v3 (packB ([vals, (n : Int)] ++ blocksN (F.blocks.take 0)))) := by
      refine ⟨?_, fun g hg hk => ?_, fun g hg => ⟨by omega, rfl⟩, Below.refl _ _, by omega⟩
      · have h9 := o3.low (show w.heap.size ≤ (w2.alloc (.cells #[.int .i64 vals, .int .i64 (n : Int)] 3)).heap.size by simp; omega)
        simpa [blocksN] using h9
      · have := (o3.lt g hg).1
        simp at this
        omega
    have HXB : Hid (∀ wr v l, SpSt (fun g => g = w.heap.size) w.heap.size w3 wr v l → wr.heap[w.heap.size]? = some (.cells #[.slice ba n bcap, .int .i64 vals] 26 (0, 0))) := fun wr v l h => ((h.off _ rfl).2).trans X3.out
    have HSW : Hid (∀ wr v l, SpSt (fun g => g = w.heap.size) w.heap.size w3 wr v l → Below w.heap.size w wr) := fun wr v l h => B3.out.trans h.bel
    obtain ⟨X, HX⟩ : ∃ z, Hid (w.heap.size = z) := ⟨_, rfl⟩
    have HXC : Hid (∀ wr v l, SpSt (fun g => g = w.heap.size) w.heap.size w3 wr v l → wr.cell? ⟨X, 0, none⟩ = some (.slice ba n bcap)) := fun wr v l h => by
      rw [← HX.out]
      simp [World.cell?, HXB.out wr v l h]
    rw [HX.out]
    obtain ⟨va, vq, vc, e9⟩ := S3.out.form
    subst e9
    clear o3 b3 bL a0 a1 hs3
    go_wp2_with fail
    go_loopw [4, 5] (fun ov iv wr => OutP (fun g => g = w.heap.size) w.heap.size w3 F [vals, (n : Int)] n ov iv wr) (fun _ iv _ => n - (intOf iv).toNat)
    case atStart => exact ⟨0, Nat.zero_le _, rfl, S3.out, fun x hx => by simp at hx⟩
    case round =>
      obtain ⟨k, hk, rfl, hst, hfm⟩ := hrel
      obtain ⟨va, vq, vc, rfl⟩ := hst.form
      have ST : Hid (SpSt (fun g => g = w.heap.size) w.heap.size w3 wr (.slice va vq vc) (packB ([vals, (n : Int)] ++ blocksN (F.blocks.take k)))) := hst
      have HFM : Hid (∀ x ∈ F.blocks.take k, ∀ z ∈ x.list, Formed z.n) := hfm
      have a0 := HXC.out _ _ _ ST.out
      clear hst hfm S3
      by_cases hlt : (k : Int) < (n : Int)
      · have hkn : k < n := by omega
        obtain ⟨x, HXX⟩ : ∃ x, Hid (F.blocks[k]? = some x) := ⟨_, List.getElem?_eq_getElem (by rw [HN.out]; exact hkn)⟩
        obtain ⟨b, off, rfl, _, hd⟩ := HBC.out (by omega)
        obtain ⟨pv, lv, p0, p1, p2, p3, p4, p5, hp, hl⟩ := hd k x HXX.out
        have HLIM : Hid (BlockLim x) := shape_lim HSH.out x (List.mem_of_getElem? HXX.out)
        obtain ⟨pa, pcap, rfl, hpm, hpc⟩ := hp
        obtain ⟨la, lcap, rfl, hlm, hlc⟩ := hl
        obtain ⟨pn, HPN⟩ : ∃ z, Hid (x.phis.length = z) := ⟨_, rfl⟩
        obtain ⟨ln, HLN⟩ : ∃ z, Hid (x.list.length = z) := ⟨_, rfl⟩
        rw [HPN.out] at p0 hpc
        rw [HLN.out] at p1 hlc
        have HPC : Hid (0 < pn → ∃ b off, pa = some ⟨b, off, none⟩ ∧ 0 ≤ b ∧ ∀ i y, x.phis[i]? = some y → PhiAt 0 w b (off + i * 2) y) := hpc
        have HVC : Hid (0 < ln → ∃ b off, la = some ⟨b, off, none⟩ ∧ 0 ≤ b ∧ ∀ i y, x.list[i]? = some y → InsAt w b (off + i * 5) y) := hlc
        have hpn24 : (pn : Int) ≤ 24 := by have := HLIM.out.1; have := HPN.out; omega
        have hln24 : (ln : Int) ≤ 24 := by have := HLIM.out.2.1; have := HLN.out; omega
        obtain ⟨tk, HTK⟩ : ∃ n, Hid (x.term.k = n) := ⟨_, rfl⟩
        obtain ⟨ta, HTA⟩ : ∃ n, Hid (x.term.a = n) := ⟨_, rfl⟩
        obtain ⟨tt, HTT⟩ : ∃ n, Hid (x.term.t = n) := ⟨_, rfl⟩
        obtain ⟨te, HTE⟩ : ∃ n, Hid (x.term.e = n) := ⟨_, rfl⟩
        rw [HTK.out] at p2
        rw [HTA.out] at p3
        rw [HTT.out] at p4
        rw [HTE.out] at p5
        have BW : Hid (Below w.heap.size w wr) := HSW.out _ _ _ ST.out
        have q0 := Bel.keeps BW.out p0
        have q1 := Bel.keeps BW.out p1
        have q2 := Bel.keeps BW.out p2
        have q3 := Bel.keeps BW.out p3
        have q4 := Bel.keeps BW.out p4
        have q5 := Bel.keeps BW.out p5
        obtain ⟨wb, hwb⟩ : ∃ W, wr.alloc (.cells #[.slice pa pn pcap, .slice la ln lcap, .int .i64 tk, .int .i64 ta, .int .i64 tt, .int .i64 te] 46) = W := ⟨_, rfl⟩
        have bb : Below wr.heap.size wr wb := by rw [← hwb]; exact Bel.alloc _ _
        have hsb : wb.heap.size = wr.heap.size + 1 := by rw [← hwb]; simp
        obtain ⟨B, HB⟩ : ∃ z, Hid (wr.heap.size = z) := ⟨_, rfl⟩
        have XB : Hid (wb.heap[B]? = some (.cells #[.slice pa pn pcap, .slice la ln lcap, .int .i64 tk, .int .i64 ta, .int .i64 tt, .int .i64 te] 46 (0, 0))) := by
          show _ = _
          rw [← hwb, ← HB.out]
          exact World.alloc_heap_new wr _
        have SB : Hid (SpSt (KNew (fun g => g = w.heap.size) wr wb) w.heap.size wb wb (.slice va vq vc) (packB ([vals, (n : Int)] ++ blocksN (F.blocks.take k)))) := ST.out.begin bb
        have HKB : Hid (KNew (fun g => g = w.heap.size) wr wb B) := .inr ⟨by rw [HB.out]; exact Nat.le_refl _, by rw [hsb, HB.out]; omega⟩
        have HBH : Hid (∀ wr' v l, SpSt (KNew (fun g => g = w.heap.size) wr wb) w.heap.size wb wr' v l → wr'.heap[B]? = some (.cells #[.slice pa pn pcap, .slice la ln lcap, .int .i64 tk, .int .i64 ta, .int .i64 tt, .int .i64 te] 46 (0, 0))) := fun wr' v l h => ((h.off B HKB.out).2).trans XB.out
        have HBW : Hid (∀ wr' v l, SpSt (KNew (fun g => g = w.heap.size) wr wb) w.heap.size wb wr' v l → Below w.heap.size w wr') := fun wr' v l h => (Bel.after BW.out bb).trans h.bel
        have HBACK : Hid (∀ wr' v l, SpSt (KNew (fun g => g = w.heap.size) wr wb) w.heap.size wb wr' v l → SpSt (fun g => g = w.heap.size) w.heap.size w3 wr' v l) := fun wr' v l h =>
          h.back (fun g hg => .inl hg) (ST.out.bel.trans (bb.mono (Nat.le_trans ST.out.le ST.out.bel.size))) (fun g hg => ⟨(ST.out.off g hg).1, (bb.block g (Nat.lt_of_lt_of_le (ST.out.off g hg).1 ST.out.bel.size)).trans (ST.out.off g hg).2⟩) ST.out.le
        obtain ⟨Z0, HZ0⟩ : ∃ z, Hid ([vals, (n : Int)] ++ blocksN (F.blocks.take k) = z) := ⟨_, rfl⟩
        have HZL : Hid (Z0.length ≤ 16002) := by
          have h2 := blocks_take_len HSH.out k
          show _ ≤ _
          rw [← HZ0.out, List.length_append]
          simp only [List.length_cons, List.length_nil]
          omega
        rw [HZ0.out] at SB
        have b0 : wb.cell? ⟨wr.heap.size, 0, none⟩ = some (.slice pa pn pcap) := by rw [HB.out]; simp [World.cell?, XB.out]
        clear p0 p1 p2 p3 p4 p5 hd hpm hpc hlm hlc
        go_wp2_with fail
        clear hwb q0 q1 q2 q3 q4 q5 b0 a0
        refine (spec_packNumX (pn : Int) _).mono ?_
        rintro e w4 ⟨v4, rfl, o4, b4⟩
        obtain ⟨ua, uq, uc, w5, hrun, s5, _⟩ := (SB.out.keep b4).add o4 (by have := packB_len Z0; have := HZL.out; have := packX_len (pn : Int); omega)
        obtain ⟨Z1, HZ1⟩ : ∃ z, Hid (Z0 ++ [(pn : Int)] = z) := ⟨_, rfl⟩
        have S5 : Hid (SpSt (KNew (fun g => g = w.heap.size) wr wb) w.heap.size wb w5 (.slice ua uq uc) (packB (Z1 ++ phisN (x.phis.take 0)))) := s5.congr (by rw [← packB_one, ← packB_app, HZ1.out]; simp [phisN])
        have HZ1L : Hid (Z1.length ≤ 16003) := by
          have := HZL.out
          show _ ≤ _
          rw [← HZ1.out, List.length_append]
          simp only [List.length_cons, List.length_nil]
          omega
        rw [HB.out]
        clear o4 b4 s5
        go_wp2_with (at_builtin; refine wpList_appendR rfl _ _ 22 rfl rfl rfl hrun ?_)
        clear hrun
        have b0 : w5.cell? ⟨B, 0, none⟩ = some (.slice pa pn pcap) := by simp [World.cell?, HBH.out _ _ _ S5.out]
        go_loopw [4, 7] (fun ov iv wr' => PhiP (KNew (fun g => g = w.heap.size) wr wb) w.heap.size wb x Z1 pn ov iv wr') (fun _ iv _ => pn - (intOf iv).toNat)
        case atStart => exact ⟨0, Nat.zero_le _, rfl, S5.out⟩
        case round =>
          obtain ⟨wp, hwp⟩ : ∃ z, z = wr := ⟨_, rfl⟩
          subst hwp
          obtain ⟨i, hi, rfl, hst⟩ := hrel
          obtain ⟨ua, uq, uc, rfl⟩ := hst.form
          have SP : Hid (SpSt (KNew (fun g => g = w.heap.size) wr wb) w.heap.size wb wp (.slice ua uq uc) (packB (Z1 ++ phisN (x.phis.take i)))) := hst
          have b0 : wp.cell? ⟨B, 0, none⟩ = some (.slice pa pn pcap) := by simp [World.cell?, HBH.out _ _ _ SP.out]
          clear hst S5
          by_cases hlt1 : (i : Int) < (pn : Int)
          · have hin : i < pn := by omega
            obtain ⟨y, HY⟩ : ∃ y, Hid (x.phis[i]? = some y) := ⟨_, List.getElem?_eq_getElem (by rw [HPN.out]; exact hin)⟩
            obtain ⟨pb, poff, rfl, _, hd⟩ := HPC.out (by omega)
            obtain ⟨p0, av, p1, hav⟩ := hd i y HY.out
            obtain ⟨aa, acap, rfl, _, hac⟩ := hav
            obtain ⟨an, HAN⟩ : ∃ n, Hid (y.arms.length = n) := ⟨_, rfl⟩
            rw [HAN.out] at p1 hac
            have han16 : (an : Int) ≤ 16 := by have := HLIM.out.2.2 y (List.mem_of_getElem? HY.out); have := HAN.out; omega
            have HAC : Hid (0 < an → ∃ b off, aa = some ⟨b, off, none⟩ ∧ 0 ≤ b ∧ ∀ i z, y.arms[i]? = some z → ArmAt w b (off + i * 2) z) := hac
            obtain ⟨yd, HYD⟩ : ∃ z, Hid (y.d = z) := ⟨_, rfl⟩
            rw [HYD.out] at p0
            have HP0 : Hid (w.cell? ⟨pb, poff + i * 2, none⟩ = some (.int .i64 yd)) := p0
            have HP1 : Hid (w.cell? ⟨pb, poff + i * 2 + 1, none⟩ = some (.slice aa an acap)) := p1
            have HS9 : Hid (∀ wr' v l, SpSt (KNew (fun g => g = w.heap.size) wr wb) w.heap.size wb wr' v l → wr'.cell? ⟨B, 0, none⟩ = some (.slice (some ⟨pb, poff, none⟩) pn pcap) ∧ wr'.cell? ⟨pb, poff + i * 2, none⟩ = some (.int .i64 yd) ∧ wr'.cell? ⟨pb, poff + i * 2 + 1, none⟩ = some (.slice aa an acap)) := fun wr' v l h =>
              ⟨by simp [World.cell?, HBH.out _ _ _ h], Bel.keeps (HBW.out _ _ _ h) HP0.out, Bel.keeps (HBW.out _ _ _ h) HP1.out⟩
            clear p0 p1 hd hac
            go_wp2_with fail
            refine wp_region_held_drew (S := fun w' => w'.cell? ⟨B, 0, none⟩ = some (.slice (some ⟨pb, poff, none⟩) pn pcap) ∧ w'.cell? ⟨pb, poff + i * 2, none⟩ = some (.int .i64 yd) ∧ w'.cell? ⟨pb, poff + i * 2 + 1, none⟩ = some (.slice aa an acap)) (by kernel_rfl) (HS9.out _ _ _ (SP.out.keep ((Below.refl _ wp).drew))) (fun hHeld => ?_)
            obtain ⟨wB, hwB⟩ : ∃ W, wp.drew = W := ⟨_, rfl⟩
            have hdr : Below wp.heap.size wp wB := by rw [← hwB]; exact (Below.refl _ wp).drew
            have SB2 : Hid (SpSt (KNew (fun g => g = w.heap.size) wr wb) w.heap.size wb wB (.slice ua uq uc) (packB (Z1 ++ phisN (x.phis.take i)))) := SP.out.keep hdr
            rw [hwB] at hHeld ⊢
            clear hwB hdr b0 SP
            refine wpAnyH_take (i := 0) (oi := { dst := some 47, op := Go.Op.move (Go.Operand.tmp 4), type := 22, pos := "l19_pack.go:59", after := #[], guard := none }) (v := ?_) rfl (by kernel_rfl) (by kernel_rfl) (by kernel_rfl) (fun _ _ _ h => h) (Or.inl ⟨by rfl, ?_⟩) (by assumption) ?_
            rotate_left
            · intro w hSw
              (try dsimp only at hSw)
              go_simp
              (try with_reducible rfl)
            try simp only [Act.put, List.setIfInBounds_toArray, List.set_cons_zero, List.set_cons_succ]
            refine wpAnyH_take (i := 1) (oi := { dst := some 48, op := Go.Op.fieldAddr 46 (Go.Operand.tmp 6) 0, type := 0, pos := "l19_pack.go:59", after := #[], guard := none }) (v := ?_) rfl (by kernel_rfl) (by kernel_rfl) (by kernel_rfl) (fun _ _ _ h => h) (Or.inl ⟨by rfl, ?_⟩) (by assumption) ?_
            rotate_left
            · intro w hSw
              (try dsimp only at hSw)
              go_simp
              (try with_reducible rfl)
            try simp only [Act.put, List.setIfInBounds_toArray, List.set_cons_zero, List.set_cons_succ]
            refine wpAnyH_take (i := 2) (oi := { dst := some 49, op := Go.Op.load 41 (Go.Operand.tmp 48), type := 41, pos := "l19_pack.go:59", after := #[{ on := 1, ground := Go.Ground.data }], guard := none }) (v := ?_) rfl (by kernel_rfl) (by kernel_rfl) (by kernel_rfl) (fun _ _ _ h => h) (Or.inl ⟨by rfl, ?_⟩) (by assumption) ?_
            rotate_left
            · intro w hSw
              (try dsimp only at hSw)
              go_simp
              (try with_reducible rfl)
            try simp only [Act.put, List.setIfInBounds_toArray, List.set_cons_zero, List.set_cons_succ]
            refine wpAnyH_take (i := 3) (oi := { dst := some 50, op := Go.Op.move (Go.Operand.tmp 7), type := 3, pos := "l19_pack.go:59", after := #[], guard := none }) (v := ?_) rfl (by kernel_rfl) (by kernel_rfl) (by kernel_rfl) (fun _ _ _ h => h) (Or.inl ⟨by rfl, ?_⟩) (by assumption) ?_
            rotate_left
            · intro w hSw
              (try dsimp only at hSw)
              go_simp
              (try with_reducible rfl)
            try simp only [Act.put, List.setIfInBounds_toArray, List.set_cons_zero, List.set_cons_succ]
            refine wpAnyH_take (i := 4) (oi := { dst := some 51, op := Go.Op.indexAddr 41 (Go.Operand.tmp 49) (Go.Operand.tmp 50), type := 0, pos := "l19_pack.go:59", after := #[{ on := 2, ground := Go.Ground.data }, { on := 3, ground := Go.Ground.data }], guard := none }) (v := ?_) rfl (by kernel_rfl) (by kernel_rfl) (by kernel_rfl) (fun _ _ _ h => h) (Or.inl ⟨by rfl, ?_⟩) (by assumption) ?_
            rotate_left
            · intro w hSw
              (try dsimp only at hSw)
              go_simp
              (try with_reducible rfl)
            try simp only [Act.put, List.setIfInBounds_toArray, List.set_cons_zero, List.set_cons_succ]
            refine wpAnyH_take (i := 5) (oi := { dst := some 52, op := Go.Op.fieldAddr 61 (Go.Operand.tmp 51) 0, type := 0, pos := "l19_pack.go:59", after := #[{ on := 4, ground := Go.Ground.data }], guard := none }) (v := ?_) rfl (by kernel_rfl) (by kernel_rfl) (by kernel_rfl) (fun _ _ _ h => h) (Or.inl ⟨by rfl, ?_⟩) (by assumption) ?_
            rotate_left
            · intro w hSw
              (try dsimp only at hSw)
              go_simp
              (try with_reducible rfl)
            try simp only [Act.put, List.setIfInBounds_toArray, List.set_cons_zero, List.set_cons_succ]
            refine wpAnyH_take (i := 6) (oi := { dst := some 53, op := Go.Op.load 3 (Go.Operand.tmp 52), type := 3, pos := "l19_pack.go:59", after := #[{ on := 5, ground := Go.Ground.data }], guard := none }) (v := ?_) rfl (by kernel_rfl) (by kernel_rfl) (by kernel_rfl) (fun _ _ _ h => h) (Or.inl ⟨by rfl, ?_⟩) (by assumption) ?_
            rotate_left
            · intro w hSw
              (try dsimp only at hSw)
              go_simp
              (try with_reducible rfl)
            try simp only [Act.put, List.setIfInBounds_toArray, List.set_cons_zero, List.set_cons_succ]
            refine wpAnyH_take (i := 7) (oi := { dst := some 54, op := Go.Op.fieldAddr 46 (Go.Operand.tmp 6) 0, type := 0, pos := "l19_pack.go:59", after := #[], guard := none }) (v := ?_) rfl (by kernel_rfl) (by kernel_rfl) (by kernel_rfl) (fun _ _ _ h => h) (Or.inl ⟨by rfl, ?_⟩) (by assumption) ?_
            rotate_left
            · intro w hSw
              (try dsimp only at hSw)
              go_simp
              (try with_reducible rfl)
            try simp only [Act.put, List.setIfInBounds_toArray, List.set_cons_zero, List.set_cons_succ]
            refine wpAnyH_take (i := 8) (oi := { dst := some 55, op := Go.Op.load 41 (Go.Operand.tmp 54), type := 41, pos := "l19_pack.go:59", after := #[{ on := 7, ground := Go.Ground.data }], guard := none }) (v := ?_) rfl (by kernel_rfl) (by kernel_rfl) (by kernel_rfl) (fun _ _ _ h => h) (Or.inl ⟨by rfl, ?_⟩) (by assumption) ?_
            rotate_left
            · intro w hSw
              (try dsimp only at hSw)
              go_simp
              (try with_reducible rfl)
            try simp only [Act.put, List.setIfInBounds_toArray, List.set_cons_zero, List.set_cons_succ]
            refine wpAnyH_take (i := 9) (oi := { dst := some 56, op := Go.Op.move (Go.Operand.tmp 7), type := 3, pos := "l19_pack.go:59", after := #[], guard := none }) (v := ?_) rfl (by kernel_rfl) (by kernel_rfl) (by kernel_rfl) (fun _ _ _ h => h) (Or.inl ⟨by rfl, ?_⟩) (by assumption) ?_
            rotate_left
            · intro w hSw
              (try dsimp only at hSw)
              go_simp
              (try with_reducible rfl)
            try simp only [Act.put, List.setIfInBounds_toArray, List.set_cons_zero, List.set_cons_succ]
            refine wpAnyH_take (i := 10) (oi := { dst := some 57, op := Go.Op.indexAddr 41 (Go.Operand.tmp 55) (Go.Operand.tmp 56), type := 0, pos := "l19_pack.go:59", after := #[{ on := 8, ground := Go.Ground.data }, { on := 9, ground := Go.Ground.data }], guard := none }) (v := ?_) rfl (by kernel_rfl) (by kernel_rfl) (by kernel_rfl) (fun _ _ _ h => h) (Or.inl ⟨by rfl, ?_⟩) (by assumption) ?_
            rotate_left
            · intro w hSw
              (try dsimp only at hSw)
              go_simp
              (try with_reducible rfl)
            try simp only [Act.put, List.setIfInBounds_toArray, List.set_cons_zero, List.set_cons_succ]
            refine wpAnyH_take (i := 11) (oi := { dst := some 58, op := Go.Op.fieldAddr 61 (Go.Operand.tmp 57) 1, type := 0, pos := "l19_pack.go:59", after := #[{ on := 10, ground := Go.Ground.data }], guard := none }) (v := ?_) rfl (by kernel_rfl) (by kernel_rfl) (by kernel_rfl) (fun _ _ _ h => h) (Or.inl ⟨by rfl, ?_⟩) (by assumption) ?_
            rotate_left
            · intro w hSw
              (try dsimp only at hSw)
              go_simp
              (try with_reducible rfl)
            try simp only [Act.put, List.setIfInBounds_toArray, List.set_cons_zero, List.set_cons_succ]
            refine wpAnyH_take (i := 12) (oi := { dst := some 59, op := Go.Op.load 59 (Go.Operand.tmp 58), type := 59, pos := "l19_pack.go:59", after := #[{ on := 11, ground := Go.Ground.data }], guard := none }) (v := ?_) rfl (by kernel_rfl) (by kernel_rfl) (by kernel_rfl) (fun _ _ _ h => h) (Or.inl ⟨by rfl, ?_⟩) (by assumption) ?_
            rotate_left
            · intro w hSw
              (try dsimp only at hSw)
              go_simp
              (try with_reducible rfl)
            try simp only [Act.put, List.setIfInBounds_toArray, List.set_cons_zero, List.set_cons_succ]
            refine wpAnyH_take (i := 13) (oi := { dst := some 60, op := Go.Op.call { callee := Go.Callee.builtin Go.Builtin.len, args := #[Go.Operand.tmp 59], argTypes := #[59] }, type := 3, pos := "l19_pack.go:59", after := #[{ on := 12, ground := Go.Ground.data }], guard := none }) (v := ?_) rfl (by kernel_rfl) (by kernel_rfl) (by kernel_rfl) (fun _ _ _ h => h) (Or.inl ⟨by rfl, ?_⟩) (by assumption) ?_
            rotate_left
            · intro w hSw
              (try dsimp only at hSw)
              go_simp
              (try with_reducible rfl)
            try simp only [Act.put, List.setIfInBounds_toArray, List.set_cons_zero, List.set_cons_succ]
            refine ckAnyH_oneK (i := 14) (o := { dst := some 61, op := Go.Op.buildSlice 48 2 #[(0, Go.Operand.tmp 53), (1, Go.Operand.tmp 60)], type := 48, pos := "l19_pack.go:59", after := #[{ on := 6, ground := Go.Ground.data }, { on := 13, ground := Go.Ground.data }], guard := none }) rfl rfl (by kernel_rfl) (fun K9 hK9 => ?_)
            have hal : Below wB.heap.size wB (wB.alloc (.cells #[.int .i64 yd, .int .i64 (an : Int)] 3)) := Bel.alloc _ _
            have hH6 := HS9.out _ _ _ (SB2.out.keep hal)
            refine wp_value (v := .slice (some ⟨wB.heap.size, 0, none⟩) 2 2) (w' := wB.alloc (.cells #[.int .i64 yd, .int .i64 (an : Int)] 3)) (by simp [execOp, Instr.buildSlice, go_sem]) (hK9 _ _ ⟨hH6, ?_⟩)
            (try simp only [Act.put, List.setIfInBounds_toArray, List.set_cons_zero, List.set_cons_succ])
            clear hK9 hHeld
            refine ckAnyH_oneK (i := 15) (o := { dst := some 62, op := Go.Op.call { callee := Go.Callee.value (Go.Operand.func 27), args := #[Go.Operand.tmp 61], argTypes := #[48] }, type := 22, pos := "l19_pack.go:59", after := #[{ on := 14, ground := Go.Ground.data }], guard := none }) rfl rfl (by kernel_rfl) (fun K9 hK9 => ?_)
            refine wp_call_of (f := 27) (args := #[.slice (some ⟨wB.heap.size, 0, none⟩) 2 2]) (by go_simp) (l19Nums_any wB.heap.size 2 [yd, (an : Int)] _ rfl (by omega) (row_new wB _ _ _ rfl)) ?_
            rintro e wE ⟨v5, rfl, o5, b5⟩
            have SE : Hid (SpSt (KNew (fun g => g = w.heap.size) wr wb) w.heap.size wb wE (.slice ua uq uc) (packB (Z1 ++ phisN (x.phis.take i)))) := (SB2.out.keep hal).keep b5
            have hHE := HS9.out _ _ _ SE.out
            refine ⟨_, rfl, hK9 _ _ ⟨hHE, ?_⟩⟩
            (try simp only [Act.put, List.setIfInBounds_toArray, List.set_cons_zero, List.set_cons_succ])
            clear hK9 hH6
            obtain ⟨ta2, tq2, tc2, w6, hrun, s6, _⟩ := SE.out.add o5 (by
              have h1 := packB_len (Z1 ++ phisN (x.phis.take i))
              have h2 := phis_take_len HLIM.out i
              have h3 := HZ1L.out
              have h4 := packB_len [yd, (an : Int)]
              rw [List.length_append] at h1
              simp only [List.length_cons, List.length_nil] at h4
              omega)
            obtain ⟨Z2, HZ2⟩ : ∃ z, Hid ((Z1 ++ phisN (x.phis.take i)) ++ [yd, (an : Int)] = z) := ⟨_, rfl⟩
            have S6 : Hid (SpSt (KNew (fun g => g = w.heap.size) wr wb) w.heap.size wb w6 (.slice ta2 tq2 tc2) (packB (Z2 ++ armsN (y.arms.take 0)))) := s6.congr (by rw [← packB_app, HZ2.out]; simp [armsN])
            have HZ2L : Hid (Z2.length ≤ 17000) := by
              have h2 := phis_take_len HLIM.out i
              have h3 := HZ1L.out
              show _ ≤ _
              rw [← HZ2.out, List.length_append, List.length_append]
              simp only [List.length_cons, List.length_nil]
              omega
            have hH8 := HS9.out _ _ _ S6.out
            have hHeld := hHE
            refine ckAnyH_oneK (i := 16) (o := { dst := some 63, op := Go.Op.call { callee := Go.Callee.builtin Go.Builtin.append, args := #[Go.Operand.tmp 47, Go.Operand.tmp 62], argTypes := #[22, 22] }, type := 22, pos := "l19_pack.go:59", after := #[{ on := 0, ground := Go.Ground.data }, { on := 15, ground := Go.Ground.data }, { on := 15, ground := Go.Ground.chain }], guard := none }) rfl rfl (by kernel_rfl) (fun K9 hK9 => ?_)
            refine wp_value (run_addOpP rfl (by rfl) (by rfl) (hrun _)) (hK9 _ _ ⟨hH8, ?_⟩)
            (try simp only [Act.put, List.setIfInBounds_toArray, List.set_cons_zero, List.set_cons_succ])
            clear hK9 hHE hHeld hrun s6 o5 b5 SE SB2 hal
            have hHeld := hH8
            refine wpAnyH_take (i := 17) (oi := { dst := some 4, op := Go.Op.assign (Go.Operand.tmp 63), type := 22, pos := "l19_pack.go:59", after := #[{ on := 16, ground := Go.Ground.data }, { on := 16, ground := Go.Ground.chain }, { on := 0, ground := Go.Ground.phase }, { on := 1, ground := Go.Ground.phase }, { on := 2, ground := Go.Ground.phase }, { on := 3, ground := Go.Ground.phase }, { on := 4, ground := Go.Ground.phase }, { on := 5, ground := Go.Ground.phase }, { on := 6, ground := Go.Ground.phase }, { on := 7, ground := Go.Ground.phase }, { on := 8, ground := Go.Ground.phase }, { on := 9, ground := Go.Ground.phase }, { on := 10, ground := Go.Ground.phase }, { on := 11, ground := Go.Ground.phase }, { on := 12, ground := Go.Ground.phase }, { on := 13, ground := Go.Ground.phase }, { on := 14, ground := Go.Ground.phase }, { on := 15, ground := Go.Ground.phase }, { on := 16, ground := Go.Ground.phase }], guard := none }) (v := ?_) rfl (by kernel_rfl) (by kernel_rfl) (by kernel_rfl) (fun _ _ _ h => h) (Or.inl ⟨by rfl, ?_⟩) (by assumption) ?_
            rotate_left
            · intro w hSw
              (try dsimp only at hSw)
              go_simp
              (try with_reducible rfl)
            try simp only [Act.put, List.setIfInBounds_toArray, List.set_cons_zero, List.set_cons_succ]
            refine wpAnyH_done (by kernel_rfl) ?_ _
            try simp only [Exit.then]
            first | go_at_K | skip
            have b0 := hH8.1
            have b1 := hH8.2.2
            clear hHeld hH8
            go_wp2_with fail
            clear b0 b1
            go_loopw [4, 8] (fun ov iv wr' => ArmP (KNew (fun g => g = w.heap.size) wr wb) w.heap.size wb y.arms Z2 an ov iv wr') (fun _ iv _ => an - (intOf iv).toNat)
            case atStart => exact ⟨0, Nat.zero_le _, rfl, S6.out⟩
            case round =>
              obtain ⟨wq, hwq⟩ : ∃ z, z = wr := ⟨_, rfl⟩
              subst hwq
              obtain ⟨j, hj, rfl, hst⟩ := hrel
              obtain ⟨ua, uq, uc, rfl⟩ := hst.form
              have SQ : Hid (SpSt (KNew (fun g => g = w.heap.size) wr wb) w.heap.size wb wq (.slice ua uq uc) (packB (Z2 ++ armsN (y.arms.take j)))) := hst
              have hb0 := HS9.out _ _ _ SQ.out
              have b0 := hb0.1
              have b1 := hb0.2.2
              clear hst hb0 S6
              by_cases hlt2 : (j : Int) < (an : Int)
              · have hjn : j < an := by omega
                obtain ⟨z, HZZ⟩ : ∃ z, Hid (y.arms[j]? = some z) := ⟨_, List.getElem?_eq_getElem (by rw [HAN.out]; exact hjn)⟩
                obtain ⟨ab, aoff, rfl, _, hd2⟩ := HAC.out (by omega)
                obtain ⟨p0, p1⟩ := hd2 j z HZZ.out
                obtain ⟨zf, zv⟩ := z
                dsimp only at p0 p1
                have HQ0 : Hid (w.cell? ⟨ab, aoff + j * 2, none⟩ = some (.int .i64 zf)) := p0
                have HQ1 : Hid (w.cell? ⟨ab, aoff + j * 2 + 1, none⟩ = some (.int .i64 zv)) := p1
                have HS8 : Hid (∀ wr' v l, SpSt (KNew (fun g => g = w.heap.size) wr wb) w.heap.size wb wr' v l → wr'.cell? ⟨B, 0, none⟩ = some (.slice (some ⟨pb, poff, none⟩) pn pcap) ∧ wr'.cell? ⟨pb, poff + i * 2 + 1, none⟩ = some (.slice (some ⟨ab, aoff, none⟩) an acap) ∧ wr'.cell? ⟨ab, aoff + j * 2, none⟩ = some (.int .i64 zf) ∧ wr'.cell? ⟨ab, aoff + j * 2 + 1, none⟩ = some (.int .i64 zv)) := fun wr' v l h =>
                  ⟨(HS9.out _ _ _ h).1, (HS9.out _ _ _ h).2.2, Bel.keeps (HBW.out _ _ _ h) HQ0.out, Bel.keeps (HBW.out _ _ _ h) HQ1.out⟩
                clear p0 p1 hd2
                go_wp2_with fail
                refine wp_region_held_drew (S := fun w' => w'.cell? ⟨B, 0, none⟩ = some (.slice (some ⟨pb, poff, none⟩) pn pcap) ∧ w'.cell? ⟨pb, poff + i * 2 + 1, none⟩ = some (.slice (some ⟨ab, aoff, none⟩) an acap) ∧ w'.cell? ⟨ab, aoff + j * 2, none⟩ = some (.int .i64 zf) ∧ w'.cell? ⟨ab, aoff + j * 2 + 1, none⟩ = some (.int .i64 zv)) (by kernel_rfl) (HS8.out _ _ _ (SQ.out.keep ((Below.refl _ wq).drew))) (fun hHeld => ?_)
                obtain ⟨wB, hwB⟩ : ∃ W, wq.drew = W := ⟨_, rfl⟩
                have hdr : Below wq.heap.size wq wB := by rw [← hwB]; exact (Below.refl _ wq).drew
                have SB2 : Hid (SpSt (KNew (fun g => g = w.heap.size) wr wb) w.heap.size wb wB (.slice ua uq uc) (packB (Z2 ++ armsN (y.arms.take j)))) := SQ.out.keep hdr
                rw [hwB] at hHeld ⊢
                clear hwB hdr b0 b1 SQ
                refine wpAnyH_take (i := 0) (oi := { dst := some 75, op := Go.Op.move (Go.Operand.tmp 4), type := 22, pos := "l19_pack.go:61", after := #[], guard := none }) (v := ?_) rfl (by kernel_rfl) (by kernel_rfl) (by kernel_rfl) (fun _ _ _ h => h) (Or.inl ⟨by rfl, ?_⟩) (by assumption) ?_
                rotate_left
                · intro w hSw
                  (try dsimp only at hSw)
                  go_simp
                  (try with_reducible rfl)
                try simp only [Act.put, List.setIfInBounds_toArray, List.set_cons_zero, List.set_cons_succ]
                refine wpAnyH_take (i := 1) (oi := { dst := some 76, op := Go.Op.fieldAddr 46 (Go.Operand.tmp 6) 0, type := 0, pos := "l19_pack.go:61", after := #[], guard := none }) (v := ?_) rfl (by kernel_rfl) (by kernel_rfl) (by kernel_rfl) (fun _ _ _ h => h) (Or.inl ⟨by rfl, ?_⟩) (by assumption) ?_
                rotate_left
                · intro w hSw
                  (try dsimp only at hSw)
                  go_simp
                  (try with_reducible rfl)
                try simp only [Act.put, List.setIfInBounds_toArray, List.set_cons_zero, List.set_cons_succ]
                refine wpAnyH_take (i := 2) (oi := { dst := some 77, op := Go.Op.load 41 (Go.Operand.tmp 76), type := 41, pos := "l19_pack.go:61", after := #[{ on := 1, ground := Go.Ground.data }], guard := none }) (v := ?_) rfl (by kernel_rfl) (by kernel_rfl) (by kernel_rfl) (fun _ _ _ h => h) (Or.inl ⟨by rfl, ?_⟩) (by assumption) ?_
                rotate_left
                · intro w hSw
                  (try dsimp only at hSw)
                  go_simp
                  (try with_reducible rfl)
                try simp only [Act.put, List.setIfInBounds_toArray, List.set_cons_zero, List.set_cons_succ]
                refine wpAnyH_take (i := 3) (oi := { dst := some 78, op := Go.Op.move (Go.Operand.tmp 7), type := 3, pos := "l19_pack.go:61", after := #[], guard := none }) (v := ?_) rfl (by kernel_rfl) (by kernel_rfl) (by kernel_rfl) (fun _ _ _ h => h) (Or.inl ⟨by rfl, ?_⟩) (by assumption) ?_
                rotate_left
                · intro w hSw
                  (try dsimp only at hSw)
                  go_simp
                  (try with_reducible rfl)
                try simp only [Act.put, List.setIfInBounds_toArray, List.set_cons_zero, List.set_cons_succ]
                refine wpAnyH_take (i := 4) (oi := { dst := some 79, op := Go.Op.indexAddr 41 (Go.Operand.tmp 77) (Go.Operand.tmp 78), type := 0, pos := "l19_pack.go:61", after := #[{ on := 2, ground := Go.Ground.data }, { on := 3, ground := Go.Ground.data }], guard := none }) (v := ?_) rfl (by kernel_rfl) (by kernel_rfl) (by kernel_rfl) (fun _ _ _ h => h) (Or.inl ⟨by rfl, ?_⟩) (by assumption) ?_
                rotate_left
                · intro w hSw
                  (try dsimp only at hSw)
                  go_simp
                  (try with_reducible rfl)
                try simp only [Act.put, List.setIfInBounds_toArray, List.set_cons_zero, List.set_cons_succ]
                refine wpAnyH_take (i := 5) (oi := { dst := some 80, op := Go.Op.fieldAddr 61 (Go.Operand.tmp 79) 1, type := 0, pos := "l19_pack.go:61", after := #[{ on := 4, ground := Go.Ground.data }], guard := none }) (v := ?_) rfl (by kernel_rfl) (by kernel_rfl) (by kernel_rfl) (fun _ _ _ h => h) (Or.inl ⟨by rfl, ?_⟩) (by assumption) ?_
                rotate_left
                · intro w hSw
                  (try dsimp only at hSw)
                  go_simp
                  (try with_reducible rfl)
                try simp only [Act.put, List.setIfInBounds_toArray, List.set_cons_zero, List.set_cons_succ]
                refine wpAnyH_take (i := 6) (oi := { dst := some 81, op := Go.Op.load 59 (Go.Operand.tmp 80), type := 59, pos := "l19_pack.go:61", after := #[{ on := 5, ground := Go.Ground.data }], guard := none }) (v := ?_) rfl (by kernel_rfl) (by kernel_rfl) (by kernel_rfl) (fun _ _ _ h => h) (Or.inl ⟨by rfl, ?_⟩) (by assumption) ?_
                rotate_left
                · intro w hSw
                  (try dsimp only at hSw)
                  go_simp
                  (try with_reducible rfl)
                try simp only [Act.put, List.setIfInBounds_toArray, List.set_cons_zero, List.set_cons_succ]
                refine wpAnyH_take (i := 7) (oi := { dst := some 82, op := Go.Op.move (Go.Operand.tmp 8), type := 3, pos := "l19_pack.go:61", after := #[], guard := none }) (v := ?_) rfl (by kernel_rfl) (by kernel_rfl) (by kernel_rfl) (fun _ _ _ h => h) (Or.inl ⟨by rfl, ?_⟩) (by assumption) ?_
                rotate_left
                · intro w hSw
                  (try dsimp only at hSw)
                  go_simp
                  (try with_reducible rfl)
                try simp only [Act.put, List.setIfInBounds_toArray, List.set_cons_zero, List.set_cons_succ]
                refine wpAnyH_take (i := 8) (oi := { dst := some 83, op := Go.Op.indexAddr 59 (Go.Operand.tmp 81) (Go.Operand.tmp 82), type := 0, pos := "l19_pack.go:61", after := #[{ on := 6, ground := Go.Ground.data }, { on := 7, ground := Go.Ground.data }], guard := none }) (v := ?_) rfl (by kernel_rfl) (by kernel_rfl) (by kernel_rfl) (fun _ _ _ h => h) (Or.inl ⟨by rfl, ?_⟩) (by assumption) ?_
                rotate_left
                · intro w hSw
                  (try dsimp only at hSw)
                  go_simp
                  (try with_reducible rfl)
                try simp only [Act.put, List.setIfInBounds_toArray, List.set_cons_zero, List.set_cons_succ]
                refine wpAnyH_take (i := 9) (oi := { dst := some 84, op := Go.Op.fieldAddr 63 (Go.Operand.tmp 83) 0, type := 0, pos := "l19_pack.go:61", after := #[{ on := 8, ground := Go.Ground.data }], guard := none }) (v := ?_) rfl (by kernel_rfl) (by kernel_rfl) (by kernel_rfl) (fun _ _ _ h => h) (Or.inl ⟨by rfl, ?_⟩) (by assumption) ?_
                rotate_left
                · intro w hSw
                  (try dsimp only at hSw)
                  go_simp
                  (try with_reducible rfl)
                try simp only [Act.put, List.setIfInBounds_toArray, List.set_cons_zero, List.set_cons_succ]
                refine wpAnyH_take (i := 10) (oi := { dst := some 85, op := Go.Op.load 3 (Go.Operand.tmp 84), type := 3, pos := "l19_pack.go:61", after := #[{ on := 9, ground := Go.Ground.data }], guard := none }) (v := ?_) rfl (by kernel_rfl) (by kernel_rfl) (by kernel_rfl) (fun _ _ _ h => h) (Or.inl ⟨by rfl, ?_⟩) (by assumption) ?_
                rotate_left
                · intro w hSw
                  (try dsimp only at hSw)
                  go_simp
                  (try with_reducible rfl)
                try simp only [Act.put, List.setIfInBounds_toArray, List.set_cons_zero, List.set_cons_succ]
                refine wpAnyH_take (i := 11) (oi := { dst := some 86, op := Go.Op.fieldAddr 46 (Go.Operand.tmp 6) 0, type := 0, pos := "l19_pack.go:61", after := #[], guard := none }) (v := ?_) rfl (by kernel_rfl) (by kernel_rfl) (by kernel_rfl) (fun _ _ _ h => h) (Or.inl ⟨by rfl, ?_⟩) (by assumption) ?_
                rotate_left
                · intro w hSw
                  (try dsimp only at hSw)
                  go_simp
                  (try with_reducible rfl)
                try simp only [Act.put, List.setIfInBounds_toArray, List.set_cons_zero, List.set_cons_succ]
                refine wpAnyH_take (i := 12) (oi := { dst := some 87, op := Go.Op.load 41 (Go.Operand.tmp 86), type := 41, pos := "l19_pack.go:61", after := #[{ on := 11, ground := Go.Ground.data }], guard := none }) (v := ?_) rfl (by kernel_rfl) (by kernel_rfl) (by kernel_rfl) (fun _ _ _ h => h) (Or.inl ⟨by rfl, ?_⟩) (by assumption) ?_
                rotate_left
                · intro w hSw
                  (try dsimp only at hSw)
                  go_simp
                  (try with_reducible rfl)
                try simp only [Act.put, List.setIfInBounds_toArray, List.set_cons_zero, List.set_cons_succ]
                refine wpAnyH_take (i := 13) (oi := { dst := some 88, op := Go.Op.move (Go.Operand.tmp 7), type := 3, pos := "l19_pack.go:61", after := #[], guard := none }) (v := ?_) rfl (by kernel_rfl) (by kernel_rfl) (by kernel_rfl) (fun _ _ _ h => h) (Or.inl ⟨by rfl, ?_⟩) (by assumption) ?_
                rotate_left
                · intro w hSw
                  (try dsimp only at hSw)
                  go_simp
                  (try with_reducible rfl)
                try simp only [Act.put, List.setIfInBounds_toArray, List.set_cons_zero, List.set_cons_succ]
                refine wpAnyH_take (i := 14) (oi := { dst := some 89, op := Go.Op.indexAddr 41 (Go.Operand.tmp 87) (Go.Operand.tmp 88), type := 0, pos := "l19_pack.go:61", after := #[{ on := 12, ground := Go.Ground.data }, { on := 13, ground := Go.Ground.data }], guard := none }) (v := ?_) rfl (by kernel_rfl) (by kernel_rfl) (by kernel_rfl) (fun _ _ _ h => h) (Or.inl ⟨by rfl, ?_⟩) (by assumption) ?_
                rotate_left
                · intro w hSw
                  (try dsimp only at hSw)
                  go_simp
                  (try with_reducible rfl)
                try simp only [Act.put, List.setIfInBounds_toArray, List.set_cons_zero, List.set_cons_succ]
                refine wpAnyH_take (i := 15) (oi := { dst := some 90, op := Go.Op.fieldAddr 61 (Go.Operand.tmp 89) 1, type := 0, pos := "l19_pack.go:61", after := #[{ on := 14, ground := Go.Ground.data }], guard := none }) (v := ?_) rfl (by kernel_rfl) (by kernel_rfl) (by kernel_rfl) (fun _ _ _ h => h) (Or.inl ⟨by rfl, ?_⟩) (by assumption) ?_
                rotate_left
                · intro w hSw
                  (try dsimp only at hSw)
                  go_simp
                  (try with_reducible rfl)
                try simp only [Act.put, List.setIfInBounds_toArray, List.set_cons_zero, List.set_cons_succ]
                refine wpAnyH_take (i := 16) (oi := { dst := some 91, op := Go.Op.load 59 (Go.Operand.tmp 90), type := 59, pos := "l19_pack.go:61", after := #[{ on := 15, ground := Go.Ground.data }], guard := none }) (v := ?_) rfl (by kernel_rfl) (by kernel_rfl) (by kernel_rfl) (fun _ _ _ h => h) (Or.inl ⟨by rfl, ?_⟩) (by assumption) ?_
                rotate_left
                · intro w hSw
                  (try dsimp only at hSw)
                  go_simp
                  (try with_reducible rfl)
                try simp only [Act.put, List.setIfInBounds_toArray, List.set_cons_zero, List.set_cons_succ]
                refine wpAnyH_take (i := 17) (oi := { dst := some 92, op := Go.Op.move (Go.Operand.tmp 8), type := 3, pos := "l19_pack.go:61", after := #[], guard := none }) (v := ?_) rfl (by kernel_rfl) (by kernel_rfl) (by kernel_rfl) (fun _ _ _ h => h) (Or.inl ⟨by rfl, ?_⟩) (by assumption) ?_
                rotate_left
                · intro w hSw
                  (try dsimp only at hSw)
                  go_simp
                  (try with_reducible rfl)
                try simp only [Act.put, List.setIfInBounds_toArray, List.set_cons_zero, List.set_cons_succ]
                refine wpAnyH_take (i := 18) (oi := { dst := some 93, op := Go.Op.indexAddr 59 (Go.Operand.tmp 91) (Go.Operand.tmp 92), type := 0, pos := "l19_pack.go:61", after := #[{ on := 16, ground := Go.Ground.data }, { on := 17, ground := Go.Ground.data }], guard := none }) (v := ?_) rfl (by kernel_rfl) (by kernel_rfl) (by kernel_rfl) (fun _ _ _ h => h) (Or.inl ⟨by rfl, ?_⟩) (by assumption) ?_
                rotate_left
                · intro w hSw
                  (try dsimp only at hSw)
                  go_simp
                  (try with_reducible rfl)
                try simp only [Act.put, List.setIfInBounds_toArray, List.set_cons_zero, List.set_cons_succ]
                refine wpAnyH_take (i := 19) (oi := { dst := some 94, op := Go.Op.fieldAddr 63 (Go.Operand.tmp 93) 1, type := 0, pos := "l19_pack.go:61", after := #[{ on := 18, ground := Go.Ground.data }], guard := none }) (v := ?_) rfl (by kernel_rfl) (by kernel_rfl) (by kernel_rfl) (fun _ _ _ h => h) (Or.inl ⟨by rfl, ?_⟩) (by assumption) ?_
                rotate_left
                · intro w hSw
                  (try dsimp only at hSw)
                  go_simp
                  (try with_reducible rfl)
                try simp only [Act.put, List.setIfInBounds_toArray, List.set_cons_zero, List.set_cons_succ]
                refine wpAnyH_take (i := 20) (oi := { dst := some 95, op := Go.Op.load 3 (Go.Operand.tmp 94), type := 3, pos := "l19_pack.go:61", after := #[{ on := 19, ground := Go.Ground.data }], guard := none }) (v := ?_) rfl (by kernel_rfl) (by kernel_rfl) (by kernel_rfl) (fun _ _ _ h => h) (Or.inl ⟨by rfl, ?_⟩) (by assumption) ?_
                rotate_left
                · intro w hSw
                  (try dsimp only at hSw)
                  go_simp
                  (try with_reducible rfl)
                try simp only [Act.put, List.setIfInBounds_toArray, List.set_cons_zero, List.set_cons_succ]
                refine ckAnyH_oneK (i := 21) (o := { dst := some 96, op := Go.Op.buildSlice 48 2 #[(0, Go.Operand.tmp 85), (1, Go.Operand.tmp 95)], type := 48, pos := "l19_pack.go:61", after := #[{ on := 10, ground := Go.Ground.data }, { on := 20, ground := Go.Ground.data }], guard := none }) rfl rfl (by kernel_rfl) (fun K9 hK9 => ?_)
                have hal : Below wB.heap.size wB (wB.alloc (.cells #[.int .i64 zf, .int .i64 zv] 3)) := Bel.alloc _ _
                have hH6 := HS8.out _ _ _ (SB2.out.keep hal)
                refine wp_value (v := .slice (some ⟨wB.heap.size, 0, none⟩) 2 2) (w' := wB.alloc (.cells #[.int .i64 zf, .int .i64 zv] 3)) (by simp [execOp, Instr.buildSlice, go_sem]) (hK9 _ _ ⟨hH6, ?_⟩)
                (try simp only [Act.put, List.setIfInBounds_toArray, List.set_cons_zero, List.set_cons_succ])
                clear hK9 hHeld
                refine ckAnyH_oneK (i := 22) (o := { dst := some 97, op := Go.Op.call { callee := Go.Callee.value (Go.Operand.func 27), args := #[Go.Operand.tmp 96], argTypes := #[48] }, type := 22, pos := "l19_pack.go:61", after := #[{ on := 21, ground := Go.Ground.data }], guard := none }) rfl rfl (by kernel_rfl) (fun K9 hK9 => ?_)
                refine wp_call_of (f := 27) (args := #[.slice (some ⟨wB.heap.size, 0, none⟩) 2 2]) (by go_simp) (l19Nums_any wB.heap.size 2 [zf, zv] _ rfl (by omega) (row_new wB _ _ _ rfl)) ?_
                rintro e wE ⟨v5, rfl, o5, b5⟩
                have SE : Hid (SpSt (KNew (fun g => g = w.heap.size) wr wb) w.heap.size wb wE (.slice ua uq uc) (packB (Z2 ++ armsN (y.arms.take j)))) := (SB2.out.keep hal).keep b5
                have hHE := HS8.out _ _ _ SE.out
                refine ⟨_, rfl, hK9 _ _ ⟨hHE, ?_⟩⟩
                (try simp only [Act.put, List.setIfInBounds_toArray, List.set_cons_zero, List.set_cons_succ])
                clear hK9 hH6
                obtain ⟨ta2, tq2, tc2, w6, hrun, s6, _⟩ := SE.out.add o5 (by
                  have h1 := packB_len (Z2 ++ armsN (y.arms.take j))
                  have h2 := arms_take_len HLIM.out HY.out j
                  have h3 := HZ2L.out
                  have h4 := packB_len [zf, zv]
                  rw [List.length_append] at h1
                  simp only [List.length_cons, List.length_nil] at h4
                  omega)
                have S6 : Hid (SpSt (KNew (fun g => g = w.heap.size) wr wb) w.heap.size wb w6 (.slice ta2 tq2 tc2) (packB (Z2 ++ armsN (y.arms.take (j + 1))))) := s6.congr (by rw [← packB_app, armsN_next HZZ.out, List.append_assoc])
                have hH8 := HS8.out _ _ _ S6.out
                have hHeld := hHE
                refine ckAnyH_oneK (i := 23) (o := { dst := some 98, op := Go.Op.call { callee := Go.Callee.builtin Go.Builtin.append, args := #[Go.Operand.tmp 75, Go.Operand.tmp 97], argTypes := #[22, 22] }, type := 22, pos := "l19_pack.go:61", after := #[{ on := 0, ground := Go.Ground.data }, { on := 22, ground := Go.Ground.data }, { on := 22, ground := Go.Ground.chain }], guard := none }) rfl rfl (by kernel_rfl) (fun K9 hK9 => ?_)
                refine wp_value (run_addOpP rfl (by rfl) (by rfl) (hrun _)) (hK9 _ _ ⟨hH8, ?_⟩)
                (try simp only [Act.put, List.setIfInBounds_toArray, List.set_cons_zero, List.set_cons_succ])
                clear hK9 hHE hHeld hrun s6 o5 b5 SE SB2 hal
                have hHeld := hH8
                refine wpAnyH_take (i := 24) (oi := { dst := some 4, op := Go.Op.assign (Go.Operand.tmp 98), type := 22, pos := "l19_pack.go:61", after := #[{ on := 23, ground := Go.Ground.data }, { on := 23, ground := Go.Ground.chain }, { on := 0, ground := Go.Ground.phase }, { on := 1, ground := Go.Ground.phase }, { on := 2, ground := Go.Ground.phase }, { on := 3, ground := Go.Ground.phase }, { on := 4, ground := Go.Ground.phase }, { on := 5, ground := Go.Ground.phase }, { on := 6, ground := Go.Ground.phase }, { on := 7, ground := Go.Ground.phase }, { on := 8, ground := Go.Ground.phase }, { on := 9, ground := Go.Ground.phase }, { on := 10, ground := Go.Ground.phase }, { on := 11, ground := Go.Ground.phase }, { on := 12, ground := Go.Ground.phase }, { on := 13, ground := Go.Ground.phase }, { on := 14, ground := Go.Ground.phase }, { on := 15, ground := Go.Ground.phase }, { on := 16, ground := Go.Ground.phase }, { on := 17, ground := Go.Ground.phase }, { on := 18, ground := Go.Ground.phase }, { on := 19, ground := Go.Ground.phase }, { on := 20, ground := Go.Ground.phase }, { on := 21, ground := Go.Ground.phase }, { on := 22, ground := Go.Ground.phase }, { on := 23, ground := Go.Ground.phase }], guard := none }) (v := ?_) rfl (by kernel_rfl) (by kernel_rfl) (by kernel_rfl) (fun _ _ _ h => h) (Or.inl ⟨by rfl, ?_⟩) (by assumption) ?_
                rotate_left
                · intro w hSw
                  (try dsimp only at hSw)
                  go_simp
                  (try with_reducible rfl)
                try simp only [Act.put, List.setIfInBounds_toArray, List.set_cons_zero, List.set_cons_succ]
                refine wpAnyH_done (by kernel_rfl) ?_ _
                try simp only [Exit.then]
                first | go_at_K | skip
                clear hHeld hH8
                have HR : Hid (ArmP (KNew (fun g => g = w.heap.size) wr wb) w.heap.size wb y.arms Z2 an (.slice ta2 tq2 tc2) (.int .i64 ((j : Int) + 1)) w6) := ⟨j + 1, by omega, by simp, S6.out⟩
                go_wp2_with fail
                go_roundw
                case rel =>
                  first
                    | exact HR.out
                    | ((repeat apply Exists.intro); exact ⟨HR.out, rfl⟩)
                case measure => simp [intOf]; omega
              · have ejn : j = an := by omega
                subst ejn
                have HR : Hid (PhiP (KNew (fun g => g = w.heap.size) wr wb) w.heap.size wb x Z1 pn (.slice ua uq uc) (.int .i64 ((i : Int) + 1)) wq) := ⟨i + 1, by omega, by simp, SQ.out.congr (by
                  rw [List.take_of_length_le (by rw [HAN.out]; exact Nat.le_refl _), ← HZ2.out, phisN_next HY.out, ← HAN.out, ← HYD.out]
                  simp [phiN])⟩
                go_wp2_with fail
                go_roundw
                case rel =>
                  first
                    | exact HR.out
                    | ((repeat apply Exists.intro); exact ⟨HR.out, rfl⟩)
                case measure => simp [intOf]; omega
          · have ein : i = pn := by omega
            subst ein
            obtain ⟨Z3, HZ3⟩ : ∃ z, Hid (Z1 ++ phisN x.phis = z) := ⟨_, rfl⟩
            have S7 : Hid (SpSt (KNew (fun g => g = w.heap.size) wr wb) w.heap.size wb wp (.slice ua uq uc) (packB Z3)) := SP.out.congr (by rw [List.take_of_length_le (by rw [HPN.out]; exact Nat.le_refl _), HZ3.out])
            have HZ3L : Hid (Z3.length ≤ 17000) := by
              have h2 := phis_take_len HLIM.out x.phis.length
              have h3 := HZ1L.out
              rw [List.take_length] at h2
              show _ ≤ _
              rw [← HZ3.out, List.length_append]
              omega
            have b1 : wp.cell? ⟨B, 1, none⟩ = some (.slice la ln lcap) := by simp [World.cell?, HBH.out _ _ _ S7.out]
            clear SP
            go_wp2_with fail
            refine (spec_packNumX (ln : Int) _).mono ?_
            rintro e w7 ⟨v7, rfl, o7, b7⟩
            obtain ⟨ta2, tq2, tc2, w8, hrun, s8, _⟩ := (S7.out.keep b7).add o7 (by have := packB_len Z3; have := HZ3L.out; have := packX_len (ln : Int); omega)
            obtain ⟨Z4, HZ4⟩ : ∃ z, Hid (Z3 ++ [(ln : Int)] = z) := ⟨_, rfl⟩
            have S8 : Hid (SpSt (KNew (fun g => g = w.heap.size) wr wb) w.heap.size wb w8 (.slice ta2 tq2 tc2) (packB (Z4 ++ insN (x.list.take 0)))) := s8.congr (by rw [← packB_one, ← packB_app, HZ4.out]; simp [insN])
            have HZ4L : Hid (Z4.length ≤ 17001) := by
              have := HZ3L.out
              show _ ≤ _
              rw [← HZ4.out, List.length_append]
              simp only [List.length_cons, List.length_nil]
              omega
            clear o7 b7 s8 b0 b1 S7
            go_wp2_with (at_builtin; refine wpList_appendR rfl _ _ 22 rfl rfl rfl hrun ?_)
            clear hrun
            go_loopw [4, 9] (fun ov iv wr' => LisP (KNew (fun g => g = w.heap.size) wr wb) w.heap.size wb x Z4 ln ov iv wr') (fun _ iv _ => ln - (intOf iv).toNat)
            case atStart => exact ⟨0, Nat.zero_le _, rfl, S8.out, fun z hz => by simp at hz⟩
            case round =>
              obtain ⟨wq, hwq⟩ : ∃ z, z = wr := ⟨_, rfl⟩
              subst hwq
              obtain ⟨j, hj, rfl, hst, hzf⟩ := hrel
              obtain ⟨ua, uq, uc, rfl⟩ := hst.form
              have SQ : Hid (SpSt (KNew (fun g => g = w.heap.size) wr wb) w.heap.size wb wq (.slice ua uq uc) (packB (Z4 ++ insN (x.list.take j)))) := hst
              have HZF : Hid (∀ z ∈ x.list.take j, Formed z.n) := hzf
              have b1 : wq.cell? ⟨B, 1, none⟩ = some (.slice la ln lcap) := by simp [World.cell?, HBH.out _ _ _ SQ.out]
              clear hst hzf S8
              by_cases hlt2 : (j : Int) < (ln : Int)
              · have hjn : j < ln := by omega
                obtain ⟨z, HZZ⟩ : ∃ z, Hid (x.list[j]? = some z) := ⟨_, List.getElem?_eq_getElem (by rw [HLN.out]; exact hjn)⟩
                obtain ⟨ab, aoff, rfl, _, hd2⟩ := HVC.out (by omega)
                obtain ⟨p0, p1, p2, p3, p4⟩ := hd2 j z HZZ.out
                have q0 := Bel.keeps (HBW.out _ _ _ SQ.out) p0
                have q1 := Bel.keeps (HBW.out _ _ _ SQ.out) p1
                have q2 := Bel.keeps (HBW.out _ _ _ SQ.out) p2
                have q3 := Bel.keeps (HBW.out _ _ _ SQ.out) p3
                have q4 := Bel.keeps (HBW.out _ _ _ SQ.out) p4
                have HIN : Hid (∀ g, ¬ Formed g → g = z.n → ¬ PackOk F) := fun g hg e => not_formed (List.mem_of_getElem? HXX.out) (List.mem_of_getElem? HZZ.out) (by rw [← e]; exact hg)
                have HFZ : Hid (Formed z.n → ∀ y ∈ x.list.take (j + 1), Formed y.n) := fun hf y hy => by
                  rw [List.take_add_one, HZZ.out] at hy
                  simp at hy
                  rcases hy with hy | hy
                  · exact HZF.out y hy
                  · rw [hy]; exact hf
                obtain ⟨zo, zd, za, zb, zn⟩ := z
                dsimp only at q0 q1 q2 q3 q4
                clear p0 p1 p2 p3 p4 hd2
                obtain ⟨wi, hwi⟩ : ∃ W, wq.alloc (.cells #[.int .i64 zo, .int .i64 zd, .int .i64 za, .int .i64 zb, .int .i64 zn] 50) = W := ⟨_, rfl⟩
                have bi : Below wq.heap.size wq wi := by rw [← hwi]; exact Bel.alloc _ _
                have XI : Hid (wi.heap[wq.heap.size]? = some (.cells #[.int .i64 zo, .int .i64 zd, .int .i64 za, .int .i64 zb, .int .i64 zn] 50 (0, 0))) := by
                  show _ = _
                  rw [← hwi]
                  exact World.alloc_heap_new wq _
                have c4 : wi.cell? ⟨wq.heap.size, 4, none⟩ = some (.int .i64 zn) := by simp [World.cell?, XI.out]
                have hsi : wq.heap.size < wi.heap.size := by rw [← hwi]; simp
                go_wp2_with fail
                clear hwi q0 q1 q2 q3 q4 b1 c4
                refine (spec_packNumX zn _).mono ?_
                rintro e w9 ⟨v9, rfl, o9, b9⟩
                obtain ⟨zl, HZL9⟩ : ∃ q, Hid ((packX zn).length = q) := ⟨_, rfl⟩
                obtain ⟨z9a, z9c, e9⟩ := o9.form HZL9.out
                subst e9
                have SI : Hid (SpSt (KNew (fun g => g = w.heap.size) wr wb) w.heap.size wb w9 (.slice ua uq uc) (packB (Z4 ++ insN (x.list.take j)))) := (SQ.out.keep bi).keep b9
                have X9 : Hid (w9.heap[wq.heap.size]? = some (.cells #[.int .i64 zo, .int .i64 zd, .int .i64 za, .int .i64 zb, .int .i64 zn] 50 (0, 0))) := (b9.block _ hsi).trans XI.out
                clear bi o9 b9 hsi SQ XI
                by_cases hzl : zl = 0
                · have HNO : Hid (¬ PackOk F) := HIN.out zn (fun hf => by have := packX_pos.2 hf; rw [HZL9.out] at this; omega) rfl
                  have BW9 : Hid (Below w.heap.size w w9) := HBW.out _ _ _ SI.out
                  subst hzl
                  go_wp2_with fail
                  refine bodyPost_ret (v := .tuple #[.slice (some ⟨w9.heap.size, 0, none⟩) 0 0, .bool false]) (by simp [results, Tryd.results8, go_sem]) rfl ?_
                  exact ⟨_, by rw [(packFn_no HNO.out).2], by rw [(packFn_no HNO.out).1]; exact ownB_new _ _ BW9.out.size, Bel.after BW9.out (Bel.alloc _ _)⟩
                · have hzl0 : ¬ ((zl : Int) = 0) := by omega
                  have HF9 : Hid (Formed zn) := packX_pos.1 (by rw [HZL9.out]; omega)
                  have d0 : w9.cell? ⟨wq.heap.size, 0, none⟩ = some (.int .i64 zo) := by simp [World.cell?, X9.out]
                  have d1 : w9.cell? ⟨wq.heap.size, 1, none⟩ = some (.int .i64 zd) := by simp [World.cell?, X9.out]
                  have d2 : w9.cell? ⟨wq.heap.size, 2, none⟩ = some (.int .i64 za) := by simp [World.cell?, X9.out]
                  have d3 : w9.cell? ⟨wq.heap.size, 3, none⟩ = some (.int .i64 zb) := by simp [World.cell?, X9.out]
                  have d4 : w9.cell? ⟨wq.heap.size, 4, none⟩ = some (.int .i64 zn) := by simp [World.cell?, X9.out]
                  go_wp2_with fail
                  clear d0 d1 d2 d3 d4
                  have hal : Below w9.heap.size w9 (w9.alloc (.cells #[.int .i64 zo, .int .i64 zd, .int .i64 za, .int .i64 zb, .int .i64 zn] 3)) := Bel.alloc _ _
                  refine (l19Nums_any w9.heap.size 5 [zo, zd, za, zb, zn] _ rfl (by omega) (row_new w9 _ _ _ rfl)).mono ?_
                  rintro e wE ⟨v5, rfl, o5, b5⟩
                  obtain ⟨ta2, tq2, tc2, w6, hrun, s6, _⟩ := ((SI.out.keep hal).keep b5).add o5 (by
                    have h1 := packB_len (Z4 ++ insN (x.list.take j))
                    have h2 := ins_take_len HLIM.out j
                    have h3 := HZ4L.out
                    have h4 := packB_len [zo, zd, za, zb, zn]
                    rw [List.length_append] at h1
                    simp only [List.length_cons, List.length_nil] at h4
                    omega)
                  have S6 : Hid (SpSt (KNew (fun g => g = w.heap.size) wr wb) w.heap.size wb w6 (.slice ta2 tq2 tc2) (packB (Z4 ++ insN (x.list.take (j + 1))))) := s6.congr (by rw [← packB_app, insN_next HZZ.out, List.append_assoc])
                  have HR : Hid (LisP (KNew (fun g => g = w.heap.size) wr wb) w.heap.size wb x Z4 ln (.slice ta2 tq2 tc2) (.int .i64 ((j : Int) + 1)) w6) := ⟨j + 1, by omega, by simp, S6.out, HFZ.out HF9.out⟩
                  clear o5 b5 s6 hal SI
                  go_wp2_with (at_builtin; refine wpList_appendR rfl _ _ 22 rfl rfl rfl hrun ?_)
                  go_roundw
                  case rel =>
                    first
                      | exact HR.out
                      | ((repeat apply Exists.intro); exact ⟨HR.out, rfl⟩)
                  case measure => simp [intOf]; omega
              · have ejn : j = ln := by omega
                subst ejn
                have HZA : Hid (∀ z ∈ x.list, Formed z.n) := by
                  have h9 := HZF.out
                  rwa [List.take_of_length_le (by rw [HLN.out]; exact Nat.le_refl _)] at h9
                have b2 : wq.cell? ⟨B, 2, none⟩ = some (.int .i64 tk) := by simp [World.cell?, HBH.out _ _ _ SQ.out]
                have b3 : wq.cell? ⟨B, 3, none⟩ = some (.int .i64 ta) := by simp [World.cell?, HBH.out _ _ _ SQ.out]
                have b4 : wq.cell? ⟨B, 4, none⟩ = some (.int .i64 tt) := by simp [World.cell?, HBH.out _ _ _ SQ.out]
                have b5 : wq.cell? ⟨B, 5, none⟩ = some (.int .i64 te) := by simp [World.cell?, HBH.out _ _ _ SQ.out]
                go_wp2_with fail
                clear b1 b2 b3 b4 b5
                have hal : Below wq.heap.size wq (wq.alloc (.cells #[.int .i64 tk, .int .i64 ta, .int .i64 tt, .int .i64 te] 3)) := Bel.alloc _ _
                refine (l19Nums_any wq.heap.size 4 [tk, ta, tt, te] _ rfl (by omega) (row_new wq _ _ _ rfl)).mono ?_
                rintro e wE ⟨v5, rfl, o5, b5⟩
                obtain ⟨ta2, tq2, tc2, w6, hrun, s6, _⟩ := ((SQ.out.keep hal).keep b5).add o5 (by
                  have h1 := packB_len (Z4 ++ insN (x.list.take j))
                  have h2 := ins_take_len HLIM.out j
                  have h3 := HZ4L.out
                  have h4 := packB_len [tk, ta, tt, te]
                  rw [List.length_append] at h1
                  simp only [List.length_cons, List.length_nil] at h4
                  omega)
                have S6 : Hid (SpSt (fun g => g = w.heap.size) w.heap.size w3 w6 (.slice ta2 tq2 tc2) (packB ([vals, (n : Int)] ++ blocksN (F.blocks.take (k + 1))))) := (HBACK.out _ _ _ s6).congr (by
                  rw [← packB_app, List.take_of_length_le (by rw [HLN.out]; exact Nat.le_refl _), ← HZ4.out, ← HZ3.out, ← HZ1.out, ← HZ0.out, ← HPN.out, ← HLN.out, ← HTK.out, ← HTA.out, ← HTT.out, ← HTE.out, blocksN_next HXX.out]
                  simp [blockN])
                have HR : Hid (OutP (fun g => g = w.heap.size) w.heap.size w3 F [vals, (n : Int)] n (.slice ta2 tq2 tc2) (.int .i64 ((k : Int) + 1)) w6) := ⟨k + 1, by omega, by simp, S6.out, fun y hy => by
                  rw [List.take_add_one, HXX.out] at hy
                  simp only [List.mem_append] at hy
                  rcases hy with hy | hy
                  · exact HFM.out y hy
                  · simp at hy
                    rw [hy]
                    exact HZA.out⟩
                clear o5 b5 s6 hal SQ
                go_wp2_with (at_builtin; refine wpList_appendR rfl _ _ 22 rfl rfl rfl hrun ?_)
                go_roundw
                case rel =>
                  first
                    | exact HR.out
                    | ((repeat apply Exists.intro); exact ⟨HR.out, rfl⟩)
                case measure => simp [intOf]; omega
      · have ekn : k = n := by omega
        subst ekn
        have HFO : Hid (∀ x ∈ F.blocks, ∀ z ∈ x.list, Formed z.n) := by
          have h9 := HFM.out
          rwa [List.take_of_length_le (by rw [HN.out]; exact Nat.le_refl _)] at h9
        have SA : Hid (SpSt (fun g => g = w.heap.size) w.heap.size w3 wr (.slice va vq vc) (packB (fnN F))) := ST.out.congr (by
          rw [List.take_of_length_le (by rw [HN.out]; exact Nat.le_refl _), fnN_eq, HN.out, HV.out])
        have HY : Hid (PackOk F) := ⟨HSH.out, all_formed HSH.out HFO.out⟩
        have BW : Hid (Below w.heap.size w wr) := HSW.out _ _ _ SA.out
        go_wp2_with fail
        refine bodyPost_ret (v := .tuple #[.slice va vq vc, .bool true]) (by simp [results, Tryd.results8, go_sem]) rfl ?_
        exact ⟨_, by rw [(packFn_yes HY.out).2], by rw [(packFn_yes HY.out).1]; exact SA.out.own, BW.out⟩
end Go.Proofs.YthdioeeanodjiaaDoor
