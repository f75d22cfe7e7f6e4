/- A block put by the program's packer. -/
import Derived.Test.YtgjojajodkagbaaPkPut
import Derived.Test.YtgjojajodkagbaaDeep
namespace Go.Proofs.Ytgjojajodkagbaa
open Go.ChangeShapes Go.WideShapes Go.ChangeAt Go.RowKit
set_option linter.unusedVariables false

structure PkSt (K : Nat → Prop) (lo Q : Nat) (w0 wr : World) (l : List UInt8) (ok : Bool) : Prop where
  at' : PkAt K lo Q wr l ok
  bel : Below lo w0 wr
  off : ∀ g, K g → wr.heap[g]? = w0.heap[g]?
  size : w0.heap.size ≤ wr.heap.size
/-- K, and what lies in new memory. -/
def KNew (K : Nat → Prop) (w w' : World) : Nat → Prop := fun g => K g ∨ (w.heap.size ≤ g ∧ g < w'.heap.size)
theorem PkSt.ready {K : Nat → Prop} {lo Q : Nat} {w0 wr w' : World} {l : List UInt8} {ok : Bool} (h : PkSt K lo Q w0 wr l ok) (hb : Below wr.heap.size wr w') : PkAt (KNew K wr w') lo Q w' l ok := h.at'.keep hb
theorem PkSt.lo {K : Nat → Prop} {lo Q : Nat} {w0 wr : World} {l : List UInt8} {ok : Bool} (h : PkSt K lo Q w0 wr l ok) : lo ≤ wr.heap.size := by
  obtain ⟨v, _, _, _, _, _, h6⟩ := h.at'
  exact h6
theorem PkSt.put {K : Nat → Prop} {lo Q : Nat} {w0 wr w' w2 : World} {l m : List UInt8} {ok ok' : Bool} {e : Ending} (h : PkSt K lo Q w0 wr l ok) (hb : Below wr.heap.size wr w') (hp : GivesPut (KNew K wr w') lo Q w' m ok' e w2) :
    e = .returned (.tuple #[]) ∧ PkSt K lo Q w0 w2 m ok' ∧ (∀ g, wr.heap.size ≤ g → g < w'.heap.size → w2.heap[g]? = w'.heap[g]?) := by
  obtain ⟨he, h1, h2, h3, h4⟩ := hp
  have hlo := h.lo
  have hK : ∀ g, K g → g < wr.heap.size := fun g hg => by
    obtain ⟨v, _, _, _, h9, _, _⟩ := h.at'
    exact (h9 g hg).2
  refine ⟨he, ⟨h1.less (fun g hg => .inl hg), h.bel.trans ((hb.mono hlo).trans h2), fun g hg => ?_, Nat.le_trans h.size (Nat.le_trans hb.size h4)⟩, fun g hg1 hg2 => h3 g (.inr ⟨hg1, hg2⟩)⟩
  rw [h3 g (.inl hg), hb.block g (hK g hg), h.off g hg]
theorem PkSt.grown {K : Nat → Prop} {lo Q : Nat} {w0 wr w' : World} {l : List UInt8} {ok : Bool} (h : PkSt K lo Q w0 wr l ok) (hb : Below wr.heap.size wr w') : PkSt K lo Q w0 w' l ok := by
  have hK : ∀ g, K g → g < wr.heap.size := fun g hg => by
    obtain ⟨v, _, _, _, h9, _, _⟩ := h.at'
    exact (h9 g hg).2
  exact ⟨(h.at'.keep hb).less (fun g hg => .inl hg), h.bel.trans (hb.mono h.lo), fun g hg => (hb.block g (hK g hg)).trans (h.off g hg), Nat.le_trans h.size hb.size⟩
theorem row_new (w : World) (xs : List Int) (c : Array Value) (T : TypeId) (hc : c = (xs.map (Value.int .i64)).toArray) : ∀ i x, xs[i]? = some x → (w.alloc (.cells c T)).cell? ⟨w.heap.size, i, none⟩ = some (.int .i64 x) := fun i x hx => by
  subst hc
  rw [World.cell?_alloc_new]
  simp [hx]

/-- So far: the numbers ys are put. -/
def BlkSt (K : Nat → Prop) (lo Q : Nat) (w0 wr : World) (l : List UInt8) (ok : Bool) (ys : List Int) : Prop := PkSt K lo Q w0 wr (l ++ packB ys) (ok && allF ys)
theorem BlkSt.put {K : Nat → Prop} {lo Q : Nat} {w0 wr w' w2 : World} {l : List UInt8} {ok : Bool} {ys xs : List Int} {e : Ending} (h : BlkSt K lo Q w0 wr l ok ys) (hb : Below wr.heap.size wr w') (hp : GivesPut (KNew K wr w') lo Q w' ((l ++ packB ys) ++ packB xs) ((ok && allF ys) && allF xs) e w2) :
    e = .returned (.tuple #[]) ∧ BlkSt K lo Q w0 w2 l ok (ys ++ xs) ∧ (∀ g, wr.heap.size ≤ g → g < w'.heap.size → w2.heap[g]? = w'.heap[g]?) := by
  obtain ⟨h1, h2, h3⟩ := PkSt.put h hb hp
  refine ⟨h1, ?_, h3⟩
  unfold BlkSt
  rw [packB_app, allF_app, ← List.append_assoc, ← Bool.and_assoc]
  exact h2

theorem BlkSt.call {K : Nat → Prop} {lo Q : Nat} {w0 wr : World} {l : List UInt8} {ok : Bool} {ys : List Int} (h : BlkSt K lo Q w0 wr l ok ys) (w' : World) (hb : Below wr.heap.size wr w') (g n : Nat) (xs : List Int) (hg1 : wr.heap.size ≤ g) (hg2 : g < w'.heap.size) (hn : xs.length = n) (hn9 : n ≤ 1000)
    (hc : ∀ i x, xs[i]? = some x → w'.cell? ⟨g, i, none⟩ = some (.int .i64 x)) (hl : l.length + 9 * ys.length ≤ 1000000) :
    Calls Try.prog 37 #[.pointer (some ⟨Q, 0, none⟩), .slice (some ⟨g, 0, none⟩) n n] w' fun e w2 => e = .returned (.tuple #[]) ∧ BlkSt K lo Q w0 w2 l ok (ys ++ xs) ∧ (∀ g, wr.heap.size ≤ g → g < w'.heap.size → w2.heap[g]? = w'.heap[g]?) :=
  (put_any (KNew K wr w') lo Q g n _ _ xs w' (PkSt.ready h hb) (.inr ⟨hg1, hg2⟩) hn hn9 hc (by rw [List.length_append]; have := packB_len ys; omega)).mono fun e w2 hp => BlkSt.put h hb hp

theorem row_at (w : World) (g : Nat) (xs : List Int) (c : Array Value) (T : TypeId) (hg : w.heap.size = g) (hc : c = (xs.map (Value.int .i64)).toArray) : ∀ i x, xs[i]? = some x → (w.alloc (.cells c T)).cell? ⟨g, i, none⟩ = some (.int .i64 x) := fun i x hx => by
  rw [← hg]
  exact row_new w xs c T hc i x hx
theorem phis_take_len {x : BlockD} (h : BlockLim x) (k : Nat) : (phisN (x.phis.take k)).length ≤ 816 := by
  have h1 := phisN_len (x.phis.take k) (fun p hp => h.2.2 p (List.mem_of_mem_take hp))
  have h2 := h.1
  rw [List.length_take] at h1
  omega
theorem ins_take_len {x : BlockD} (h : BlockLim x) (k : Nat) : (insN (x.list.take k)).length ≤ 120 := by
  have h2 := h.2.1
  rw [insN_len, List.length_take]
  omega
theorem arms_take_len {x : BlockD} {p : PhiD} {j : Nat} (h : BlockLim x) (hp : x.phis[j]? = some p) (k : Nat) : (armsN (p.arms.take k)).length ≤ 32 := by
  have h2 := h.2.2 p (List.mem_of_getElem? hp)
  rw [armsN_len, List.length_take]
  omega
theorem BlkSt.congr {K : Nat → Prop} {lo Q : Nat} {w0 wr : World} {l : List UInt8} {ok : Bool} {ys zs : List Int} (h : BlkSt K lo Q w0 wr l ok ys) (e : ys = zs) : BlkSt K lo Q w0 wr l ok zs := by rw [← e]; exact h
def PhiR (K : Nat → Prop) (lo Q : Nat) (w0 : World) (l : List UInt8) (ok : Bool) (x : BlockD) (pn : Nat) (iv : Value) (wr : World) : Prop :=
  ∃ k : Nat, k ≤ pn ∧ iv = .int .i64 k ∧ BlkSt K lo Q w0 wr l ok ([(pn : Int)] ++ phisN (x.phis.take k))
def ArmR (K : Nat → Prop) (lo Q : Nat) (w0 : World) (l : List UInt8) (ok : Bool) (zs : List Int) (ar : List ArmD) (an : Nat) (iv : Value) (wr : World) : Prop :=
  ∃ k : Nat, k ≤ an ∧ iv = .int .i64 k ∧ BlkSt K lo Q w0 wr l ok (zs ++ armsN (ar.take k))
def InsR (K : Nat → Prop) (lo Q : Nat) (w0 : World) (l : List UInt8) (ok : Bool) (zs : List Int) (li : List InsD) (ln : Nat) (iv : Value) (wr : World) : Prop :=
  ∃ k : Nat, k ≤ ln ∧ iv = .int .i64 k ∧ BlkSt K lo Q w0 wr l ok (zs ++ insN (li.take k))
set_option maxRecDepth 100000 in
set_option maxHeartbeats 4000000 in
theorem block_any (K : Nat → Prop) (lo Q : Nat) (l : List UInt8) (ok : Bool) (pv lv : Value) (x : BlockD) (wS w : World) (h : PkAt K lo Q w l ok) (hS : Below lo wS w) (hlo : wS.heap.size = lo) (hlim : BlockLim x) (hl : l.length ≤ 500000)
    (hp : ListAt 0 2 (PhiAt 0) wS pv x.phis) (hv : ListAt 0 5 InsAt wS lv x.list) :
    Calls Try.prog 38 #[.pointer (some ⟨Q, 0, none⟩), .agg #[pv, lv, .int .i64 x.term.k, .int .i64 x.term.a, .int .i64 x.term.t, .int .i64 x.term.e]] w fun e w' => GivesPut K lo Q w (l ++ packB (blockN x)) (ok && allF (blockN x)) e w' := by
  obtain ⟨pa, pcap, rfl, _, hpc⟩ := hp
  obtain ⟨la, lcap, rfl, _, hvc⟩ := hv
  obtain ⟨pn, HPN⟩ : ∃ n, Hid (x.phis.length = n) := ⟨_, rfl⟩
  obtain ⟨ln, HLN⟩ : ∃ n, Hid (x.list.length = n) := ⟨_, rfl⟩
  obtain ⟨tk, HTK⟩ : ∃ n, Hid (x.term.k = n) := ⟨_, rfl⟩
  obtain ⟨ta, HTA⟩ : ∃ n, Hid (x.term.a = n) := ⟨_, rfl⟩
  obtain ⟨tt, HTT⟩ : ∃ n, Hid (x.term.t = n) := ⟨_, rfl⟩
  obtain ⟨te, HTE⟩ : ∃ n, Hid (x.term.e = n) := ⟨_, rfl⟩
  rw [HPN.out] at hpc ⊢
  rw [HLN.out] at hvc ⊢
  rw [HTK.out, HTA.out, HTT.out, HTE.out]
  have HPC : Hid (0 < pn → ∃ b off, pa = some ⟨b, off, none⟩ ∧ 0 ≤ b ∧ ∀ i y, x.phis[i]? = some y → PhiAt 0 wS b (off + i * 2) y) := hpc
  have HVC : Hid (0 < ln → ∃ b off, la = some ⟨b, off, none⟩ ∧ 0 ≤ b ∧ ∀ i y, x.list[i]? = some y → InsAt wS b (off + i * 5) y) := hvc
  have HLIM : Hid (BlockLim x) := hlim
  have HH : Hid (PkAt K lo Q w l ok) := h
  have hpn24 : (pn : Int) ≤ 24 := by have := HLIM.out.1; have := HPN.out; omega
  have hln24 : (ln : Int) ≤ 24 := by have := HLIM.out.2.1; have := HLN.out; omega
  have HS : Hid (Below lo wS w) := hS
  have HLO : Hid (wS.heap.size = lo) := hlo
  obtain ⟨wA, hwA⟩ : ∃ wA, w.alloc (.cells #[.slice pa pn pcap, .slice la ln lcap, .int .i64 tk, .int .i64 ta, .int .i64 tt, .int .i64 te] 65) = wA := ⟨_, rfl⟩
  have bA : Below w.heap.size w wA := by rw [← hwA]; exact Bel.alloc _ _
  have hsA : wA.heap.size = w.heap.size + 1 := by rw [← hwA]; simp
  obtain ⟨X, HX⟩ : ∃ z, Hid (w.heap.size = z) := ⟨_, rfl⟩
  have XA : Hid (wA.heap[X]? = some (.cells #[.slice pa pn pcap, .slice la ln lcap, .int .i64 tk, .int .i64 ta, .int .i64 tt, .int .i64 te] 65 (0, 0))) := by
    show _ = _
    rw [← hwA, ← HX.out]
    exact World.alloc_heap_new w _
  have S0 : Hid (BlkSt (KNew K w wA) lo Q wA wA l ok []) := by
    refine ⟨?_, Below.refl _ _, fun _ _ => rfl, Nat.le_refl _⟩
    rw [packB_nil, allF_nil, List.append_nil, Bool.and_true]
    exact HH.out.keep bA
  have HKX : Hid (KNew K w wA X) := .inr ⟨by rw [HX.out]; exact Nat.le_refl _, by rw [hsA, HX.out]; omega⟩
  have a0 : wA.cell? ⟨w.heap.size, 0, none⟩ = some (.slice pa pn pcap) := by rw [HX.out]; simp [World.cell?, XA.out]
  clear h hS hlo hlim hpc hvc
  go_enter Try.func38, Try.ntmps38
  go_wp2_with fail
  have bS := Bel.alloc wA (.cells #[.int .i64 (pn : Int)] 3)
  rw [← hsA]
  refine (S0.out.call _ bS wA.heap.size 1 [(pn : Int)] (Nat.le_refl _) (by simp) rfl (by omega) (row_new wA _ _ _ rfl) (by simp; omega)).mono ?_
  rintro e w1 ⟨rfl, s1, _⟩
  have S1 : Hid (BlkSt (KNew K w wA) lo Q wA w1 l ok ([(pn : Int)] ++ phisN (x.phis.take 0))) := by
    show BlkSt _ _ _ _ _ _ _ _
    simpa [phisN] using s1
  have HXB : Hid (∀ wr ys, BlkSt (KNew K w wA) lo Q wA wr l ok ys → wr.heap[X]? = some (.cells #[.slice pa pn pcap, .slice la ln lcap, .int .i64 tk, .int .i64 ta, .int .i64 tt, .int .i64 te] 65 (0, 0))) := fun wr ys h => (h.off X HKX.out).trans XA.out
  have HSW : Hid (∀ wr ys, BlkSt (KNew K w wA) lo Q wA wr l ok ys → Below wS.heap.size wS wr) := fun wr ys h => by
    rw [HLO.out]
    have h6 : lo ≤ w.heap.size := by
      obtain ⟨v, _, _, _, _, _, h6⟩ := HH.out
      exact h6
    exact (HS.out.trans (bA.mono h6)).trans h.bel
  have a0 : w1.cell? ⟨X, 0, none⟩ = some (.slice pa pn pcap) := by simp [World.cell?, HXB.out _ _ S1.out]
  generalize wA.heap.size = sA
  rw [HX.out]
  clear s1 bS S0 hwA hsA
  go_wp2_with fail
  go_loopw [20] (fun iv wr => PhiR (KNew K w wA) lo Q wA l ok x pn iv wr) (fun iv _ => pn - (intOf iv).toNat)
  case atStart => exact ⟨0, Nat.zero_le _, rfl, S1.out⟩
  case round =>
    obtain ⟨k, hk, rfl, hst⟩ := hrel
    have ST : Hid (BlkSt (KNew K w wA) lo Q wA wr l ok ([(pn : Int)] ++ phisN (x.phis.take k))) := hst
    clear hst a0
    by_cases hlt : (k : Int) < (pn : Int)
    · have hkn : k < pn := by omega
      obtain ⟨y, HY⟩ : ∃ y, Hid (x.phis[k]? = some y) := ⟨_, List.getElem?_eq_getElem (by rw [HPN.out]; exact hkn)⟩
      obtain ⟨b, off, rfl, _, hd⟩ := HPC.out (by omega)
      obtain ⟨p0, av, p1, hav⟩ := hd k y HY.out
      obtain ⟨aa, acap, rfl, _, hac⟩ := hav
      obtain ⟨an, HAN⟩ : ∃ n, Hid (y.arms.length = n) := ⟨_, rfl⟩
      rw [HAN.out] at p1 hac
      have han16 : (an : Int) ≤ 16 := by have := HLIM.out.2.2 y (List.mem_of_getElem? HY.out); have := HAN.out; omega
      have HAC : Hid (0 < an → ∃ b off, aa = some ⟨b, off, none⟩ ∧ 0 ≤ b ∧ ∀ i z, y.arms[i]? = some z → ArmAt wS b (off + i * 2) z) := hac
      obtain ⟨yd, HYD⟩ : ∃ z, Hid (y.d = z) := ⟨_, rfl⟩
      rw [HYD.out] at p0
      have q0 := Bel.keeps (HSW.out _ _ ST.out) p0
      have q1 := Bel.keeps (HSW.out _ _ ST.out) p1
      clear p0 p1 hd hac
      go_wp2_with fail
      have bP := Bel.after (Bel.alloc wr (.cells #[.int .i64 yd, .slice aa an acap] 68)) (Bel.alloc _ (.cells #[.int .i64 yd, .int .i64 (an : Int)] 3))
      have hsP : (wr.alloc (.cells #[.int .i64 yd, .slice aa an acap] 68)).heap.size = wr.heap.size + 1 := by simp
      refine (ST.out.call _ bP (wr.heap.size + 1) 2 [yd, (an : Int)] (by omega) (by simp) rfl (by omega) (row_at _ _ _ _ _ hsP rfl) (by have := phis_take_len HLIM.out k; simp only [List.length_append, List.length_cons, List.length_nil]; omega)).mono ?_
      rintro e w2 ⟨rfl, s2, k2⟩
      obtain ⟨Z, HZ⟩ : ∃ Z, Hid (([(pn : Int)] ++ phisN (x.phis.take k)) ++ [yd, (an : Int)] = Z) := ⟨_, rfl⟩
      have HZL : Hid (Z.length ≤ 820) := by
        have := phis_take_len HLIM.out k
        show _ ≤ _
        rw [← HZ.out]
        simp only [List.length_append, List.length_cons, List.length_nil]
        omega
      rw [HZ.out] at s2
      have S2 : Hid (BlkSt (KNew K w wA) lo Q wA w2 l ok (Z ++ armsN (y.arms.take 0))) := by
        show BlkSt _ _ _ _ _ _ _ _
        simpa [armsN] using s2
      obtain ⟨PB, HPB⟩ : ∃ z, Hid (wr.heap.size = z) := ⟨_, rfl⟩
      have c1 : w2.cell? ⟨PB, 1, none⟩ = some (.slice aa an acap) := by
        have h9 := k2 wr.heap.size (Nat.le_refl _) (by simp; omega)
        rw [HPB.out] at h9
        rw [cell_sameP h9, ← HPB.out, Bel.keeps (Bel.alloc (wr.alloc (.cells #[.int .i64 yd, .slice aa an acap] 68)) _) (by simp [go_sem] : (wr.alloc (.cells #[.int .i64 yd, .slice aa an acap] 68)).cell? ⟨wr.heap.size, 1, none⟩ = some (.slice aa an acap))]
      rw [HPB.out]
      clear s2 k2 bP hsP q0 q1
      go_wp2_with fail
      clear c1
      go_loopw [35] (fun iv wr => ArmR (KNew K w wA) lo Q wA l ok Z y.arms an iv wr) (fun iv _ => an - (intOf iv).toNat)
      case atStart => exact ⟨0, Nat.zero_le _, rfl, S2.out⟩
      case round =>
        obtain ⟨wi, hwi⟩ : ∃ z, z = wr := ⟨_, rfl⟩
        subst hwi
        obtain ⟨j, hj, rfl, hst⟩ := hrel
        have SI : Hid (BlkSt (KNew K w wA) lo Q wA wi l ok (Z ++ armsN (y.arms.take j))) := hst
        clear hst
        by_cases hlt2 : (j : Int) < (an : Int)
        · have hjn : j < an := by omega
          obtain ⟨z, HZZ⟩ : ∃ z, Hid (y.arms[j]? = some z) := ⟨_, List.getElem?_eq_getElem (by rw [HAN.out]; exact hjn)⟩
          obtain ⟨b2, off2, rfl, _, hd2⟩ := HAC.out (by omega)
          obtain ⟨p0, p1⟩ := hd2 j z HZZ.out
          have q0 := Bel.keeps (HSW.out _ _ SI.out) p0
          have q1 := Bel.keeps (HSW.out _ _ SI.out) p1
          obtain ⟨zf, zv⟩ := z
          dsimp only at q0 q1
          clear p0 p1 hd2
          go_wp2_with fail
          have bP := Bel.after (Bel.alloc wi (.cells #[.int .i64 zf, .int .i64 zv] 70)) (Bel.alloc _ (.cells #[.int .i64 zf, .int .i64 zv] 3))
          have hsP : (wi.alloc (.cells #[.int .i64 zf, .int .i64 zv] 70)).heap.size = wi.heap.size + 1 := by simp
          refine (SI.out.call _ bP (wi.heap.size + 1) 2 [zf, zv] (by omega) (by simp) rfl (by omega) (row_at _ _ _ _ _ hsP rfl) (by have := arms_take_len HLIM.out HY.out j; have := HZL.out; rw [List.length_append]; omega)).mono ?_
          rintro e w3 ⟨rfl, s3, _⟩
          have S3 : Hid (BlkSt (KNew K w wA) lo Q wA w3 l ok (Z ++ armsN (y.arms.take (j + 1)))) := s3.congr (by rw [armsN_next HZZ.out, List.append_assoc])
          clear s3 bP hsP q0 q1
          go_wp2_with fail
          go_roundw
          case rel => exact ⟨j + 1, by omega, by go_num, S3.out⟩
          case measure => simp [intOf]; omega
        · have ejn : j = an := by omega
          subst ejn
          have S3 : Hid (BlkSt (KNew K w wA) lo Q wA wi l ok ([(pn : Int)] ++ phisN (x.phis.take (k + 1)))) := SI.out.congr (by
            rw [List.take_of_length_le (by rw [HAN.out]; exact Nat.le_refl _), ← HZ.out, phisN_next HY.out, ← HAN.out, ← HYD.out]
            simp [phiN])
          go_wp2_with fail
          go_roundw
          case rel => exact ⟨k + 1, by omega, by go_num, S3.out⟩
          case measure => simp [intOf]; omega
    · have ekn : k = pn := by omega
      subst ekn
      obtain ⟨Z, HZ⟩ : ∃ Z, Hid ([(k : Int)] ++ phisN x.phis = Z) := ⟨_, rfl⟩
      have HZL : Hid (Z.length ≤ 820) := by
        have := phis_take_len HLIM.out x.phis.length
        rw [List.take_length] at this
        show _ ≤ _
        rw [← HZ.out]
        simp only [List.length_append, List.length_cons, List.length_nil]
        omega
      have SZ : Hid (BlkSt (KNew K w wA) lo Q wA wr l ok Z) := ST.out.congr (by rw [List.take_of_length_le (by rw [HPN.out]; exact Nat.le_refl _), HZ.out])
      have b1 : wr.cell? ⟨X, 1, none⟩ = some (.slice la ln lcap) := by simp [World.cell?, HXB.out _ _ SZ.out]
      clear ST
      go_wp2_with fail
      have bS := Bel.alloc wr (.cells #[.int .i64 (ln : Int)] 3)
      refine (SZ.out.call _ bS wr.heap.size 1 [(ln : Int)] (Nat.le_refl _) (by simp) rfl (by omega) (row_new wr _ _ _ rfl) (by have := HZL.out; omega)).mono ?_
      rintro e w4 ⟨rfl, s4, _⟩
      have S4 : Hid (BlkSt (KNew K w wA) lo Q wA w4 l ok ((Z ++ [(ln : Int)]) ++ insN (x.list.take 0))) := by
        show BlkSt _ _ _ _ _ _ _ _
        simpa [insN] using s4
      obtain ⟨Y, HYY⟩ : ∃ Y, Hid (Z ++ [(ln : Int)] = Y) := ⟨_, rfl⟩
      have HYL : Hid (Y.length ≤ 821) := by
        have := HZL.out
        show _ ≤ _
        rw [← HYY.out]
        simp only [List.length_append, List.length_cons, List.length_nil]
        omega
      rw [HYY.out] at S4
      have b1 : w4.cell? ⟨X, 1, none⟩ = some (.slice la ln lcap) := by simp [World.cell?, HXB.out _ _ S4.out]
      clear s4 bS SZ
      go_wp2_with fail
      clear b1
      go_loopw [57] (fun iv wr => InsR (KNew K w wA) lo Q wA l ok Y x.list ln iv wr) (fun iv _ => ln - (intOf iv).toNat)
      case atStart => exact ⟨0, Nat.zero_le _, rfl, S4.out⟩
      case round =>
        obtain ⟨wi, hwi⟩ : ∃ z, z = wr := ⟨_, rfl⟩
        subst hwi
        obtain ⟨j, hj, rfl, hst⟩ := hrel
        have SI : Hid (BlkSt (KNew K w wA) lo Q wA wi l ok (Y ++ insN (x.list.take j))) := hst
        clear hst
        by_cases hlt2 : (j : Int) < (ln : Int)
        · have hjn : j < ln := by omega
          obtain ⟨z, HZZ⟩ : ∃ z, Hid (x.list[j]? = some z) := ⟨_, List.getElem?_eq_getElem (by rw [HLN.out]; exact hjn)⟩
          obtain ⟨b2, off2, rfl, _, hd2⟩ := HVC.out (by omega)
          obtain ⟨p0, p1, p2, p3, p4⟩ := hd2 j z HZZ.out
          have q0 := Bel.keeps (HSW.out _ _ SI.out) p0
          have q1 := Bel.keeps (HSW.out _ _ SI.out) p1
          have q2 := Bel.keeps (HSW.out _ _ SI.out) p2
          have q3 := Bel.keeps (HSW.out _ _ SI.out) p3
          have q4 := Bel.keeps (HSW.out _ _ SI.out) p4
          obtain ⟨zo, zd, za, zb, zn⟩ := z
          dsimp only at q0 q1 q2 q3 q4
          clear p0 p1 p2 p3 p4 hd2
          go_wp2_with fail
          have bP := Bel.after (Bel.alloc wi (.cells #[.int .i64 zo, .int .i64 zd, .int .i64 za, .int .i64 zb, .int .i64 zn] 72)) (Bel.alloc _ (.cells #[.int .i64 zo, .int .i64 zd, .int .i64 za, .int .i64 zb, .int .i64 zn] 3))
          have hsP : (wi.alloc (.cells #[.int .i64 zo, .int .i64 zd, .int .i64 za, .int .i64 zb, .int .i64 zn] 72)).heap.size = wi.heap.size + 1 := by simp
          refine (SI.out.call _ bP (wi.heap.size + 1) 5 [zo, zd, za, zb, zn] (by omega) (by simp) rfl (by omega) (row_at _ _ _ _ _ hsP rfl) (by have := ins_take_len HLIM.out j; have := HYL.out; rw [List.length_append]; omega)).mono ?_
          rintro e w3 ⟨rfl, s3, _⟩
          have S3 : Hid (BlkSt (KNew K w wA) lo Q wA w3 l ok (Y ++ insN (x.list.take (j + 1)))) := s3.congr (by rw [insN_next HZZ.out, List.append_assoc])
          clear s3 bP hsP q0 q1 q2 q3 q4
          go_wp2_with fail
          go_roundw
          case rel => exact ⟨j + 1, by omega, by go_num, S3.out⟩
          case measure => simp [intOf]; omega
        · have ejn : j = ln := by omega
          subst ejn
          have b2 : wi.cell? ⟨X, 2, none⟩ = some (.int .i64 tk) := by simp [World.cell?, HXB.out _ _ SI.out]
          have b3 : wi.cell? ⟨X, 3, none⟩ = some (.int .i64 ta) := by simp [World.cell?, HXB.out _ _ SI.out]
          have b4 : wi.cell? ⟨X, 4, none⟩ = some (.int .i64 tt) := by simp [World.cell?, HXB.out _ _ SI.out]
          have b5 : wi.cell? ⟨X, 5, none⟩ = some (.int .i64 te) := by simp [World.cell?, HXB.out _ _ SI.out]
          go_wp2_with fail
          have bP := Bel.after (Bel.alloc wi (.cells #[.int .i64 tk, .int .i64 ta, .int .i64 tt, .int .i64 te] 63)) (Bel.alloc _ (.cells #[.int .i64 tk, .int .i64 ta, .int .i64 tt, .int .i64 te] 3))
          have hsP : (wi.alloc (.cells #[.int .i64 tk, .int .i64 ta, .int .i64 tt, .int .i64 te] 63)).heap.size = wi.heap.size + 1 := by simp
          refine (SI.out.call _ bP (wi.heap.size + 1) 4 [tk, ta, tt, te] (by omega) (by simp) rfl (by omega) (row_at _ _ _ _ _ hsP rfl) (by have := ins_take_len HLIM.out j; have := HYL.out; rw [List.length_append]; omega)).mono ?_
          rintro e w3 ⟨rfl, s3, _⟩
          have S3 : Hid (BlkSt (KNew K w wA) lo Q wA w3 l ok (blockN x)) := s3.congr (by
            rw [List.take_of_length_le (by rw [HLN.out]; exact Nat.le_refl _), ← HYY.out, ← HZ.out, ← HPN.out, ← HLN.out, ← HTK.out, ← HTA.out, ← HTT.out, ← HTE.out]
            rfl)
          clear s3 bP hsP b2 b3 b4 b5
          go_wp2_with fail
          refine ⟨rfl, _, results_none rfl _ _ _, rfl, ?_⟩
          have hK : ∀ g, K g → g < w.heap.size := fun g hg => by
            obtain ⟨v, _, _, _, h9, _, _⟩ := HH.out
            exact (h9 g hg).2
          have h6 : lo ≤ w.heap.size := by
            obtain ⟨v, _, _, _, _, _, h6⟩ := HH.out
            exact h6
          exact ⟨S3.out.at'.less (fun g hg => .inl hg), (bA.mono h6).trans S3.out.bel, fun g hg => (S3.out.off g (.inl hg)).trans (bA.block g (hK g hg)), Nat.le_trans bA.size S3.out.size⟩
end Go.Proofs.Ytgjojajodkagbaa
