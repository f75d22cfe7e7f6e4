/- A run of the model goes on till the end: l6Run. -/
import Derived.Test.YtkpddakmcnknjaaSpecPhis
import Derived.Test.YtkpddakmcnknjaaImplAll
namespace Go.Proofs.Ytkpddakmcnknjaa
open Go.ChangeShapes Go.WideShapes Go.ChangeAt Go.RowKit Go.Shelf
set_option linter.unusedVariables false

def fuelS (P : Nat) (w : World) : Nat := match w.cell? ⟨P, 5, none⟩ with | some v => (intOf v).toNat | none => 0
theorem fuelS_run {W0 w : World} {P vn : Nat} {s : RunS} (h : SIs W0 w P vn s) : fuelS P w = s.fuel := by
  obtain ⟨_, _, _, _, _, _, _, _, _, _, h⟩ := h
  simp [fuelS, h.cell.2.2.2.2.2, intOf]
theorem SIs.below {W0 w : World} {P vn : Nat} {s : RunS} (h : SIs W0 w P vn s) : Below W0.heap.size W0 w := by
  obtain ⟨_, _, _, _, _, _, _, _, _, _, h⟩ := h
  exact h.below
theorem SIs.lt {W0 w : World} {P vn : Nat} {s : RunS} (h : SIs W0 w P vn s) : P < w.heap.size := by
  obtain ⟨_, _, _, _, _, _, _, _, _, _, h⟩ := h
  exact h.lt
theorem SIs.setFuel {W0 w : World} {P vn : Nat} {s : RunS} (h : SIs W0 w P vn s) (k : Nat) : SIs W0 (w.setCell ⟨P, 5, none⟩ (.int .i64 (k : Int))) P vn { s with fuel := k } := by
  obtain ⟨_, _, _, _, _, _, _, _, _, _, h⟩ := h
  exact ⟨_, _, _, _, _, _, _, _, _, _, h.setFuel k⟩

section
variable {W0 : World} {P vn : Nat}

set_option maxRecDepth 100000 in
set_option maxHeartbeats 8000000 in
theorem sall_any (F : FnD) (ba : Option Addr) (n bcap : Nat) (vals : Int) (hF : FnAt W0 (.agg #[.slice ba n bcap, .int .i64 vals]) F) (hS : FnShape F) (hvs : F.values = vals) (hvn : (vn : Int) = vals) (K : Nat) (st : RunS) (w : World) (h : SIs W0 w P vn st) (hk : st.fuel < K) (hroom : Room st) (hp0 : st.path.length + st.fuel ≤ 5000) :
    Calls Try.prog 35 #[.pointer (some ⟨P, 0, none⟩), .agg #[.slice ba n bcap, .int .i64 vals]] w fun e w' => e = .returned (.tuple #[.int .i64 (tellN wordV F K 0 (-1) st).1, .int .i64 (tellN wordV F K 0 (-1) st).2.1]) ∧ SIs W0 w' P vn (tellN wordV F K 0 (-1) st).2.2 := by
  obtain ⟨⟨how, en, sE⟩, HRES⟩ : ∃ r, Hid (tellN wordV F K 0 (-1) st = r) := ⟨_, rfl⟩
  rw [HRES.out]
  dsimp only
  have HVN : Hid ((vn : Int) = vals) := hvn
  have hv80 : vn ≤ 80 := by have := hS.2.2.2.1; omega
  have HBO : Hid (∀ (j : Nat) b, F.blocks[j]? = some b → BlockOk (F.blocks.length : Int) vals b) := by
    show ∀ (j : Nat) b, F.blocks[j]? = some b → BlockOk (F.blocks.length : Int) vals b
    rw [← hvs]; exact hS.2.2.2.2
  have HN1 : Hid (1 ≤ F.blocks.length) := hS.1
  have HH0 : Hid (SIs W0 w P vn st) := h
  have HROOM : Hid (Room st) := hroom
  obtain ⟨bv', he, a0, cap0, hbv, hm, hc⟩ := hF
  have hn : n = F.blocks.length := by
    have e1 : (.slice ba n bcap : Value) = bv' := by simp at he; exact he.1
    rw [hbv] at e1
    simp at e1
    exact e1.2.1
  have ea : ba = a0 := by
    have e1 : (.slice ba n bcap : Value) = bv' := by simp at he; exact he.1
    rw [hbv] at e1
    simp at e1
    exact e1.1
  have HC : Hid (0 < n → ∃ b off, ba = some ⟨b, off, none⟩ ∧ 0 ≤ b ∧ ∀ i x, F.blocks[i]? = some x → BlockAt 0 W0 b (off + i * 6) x) := by
    show 0 < n → _
    rw [hn, ea]
    exact hc
  have HNN : Hid (F.blocks.length = n) := hn.symm
  obtain ⟨b, off, rfl, _, hel⟩ := HC.out (by have := HN1.out; omega)
  have HEL : Hid (∀ i x, F.blocks[i]? = some x → BlockAt 0 W0 b (off + i * 6) x) := hel
  obtain ⟨i0, hi, hz0, hz1, hz2⟩ := info_parts info_int
  have hmx : 100000 ≤ maxLen := by decide
  clear hS h hroom he hbv hc hn ea hvn HC hel hm
  have fb := World.alloc_heap_new w (.cells #[.slice (some ⟨b, off, none⟩) n bcap, .int .i64 vals] 26)
  have HR0 : Hid (SIs W0 (w.alloc (.cells #[.slice (some ⟨b, off, none⟩) n bcap, .int .i64 vals] 26)) P vn st) := HH0.out.later (Bel.alloc w _)
  have hPF : w.heap.size ≠ P := by have := HH0.out.lt; omega
  go_enter Try.func35, Try.ntmps35
  go_wp2_with fail
  generalize w.alloc (.cells #[.slice (some ⟨b, off, none⟩) n bcap, .int .i64 vals] 26) = w0 at fb HR0 ⊢
  generalize w.heap.size = FB at fb hPF ⊢
  have HFB : Hid (w0.heap[FB]? = some (.cells #[.slice (some ⟨b, off, none⟩) n bcap, .int .i64 vals] 26 (0, 0))) := fb
  clear fb
  go_loopw [6, 7] (fun nx frv wr => ∃ (a : Nat) (fr : Int) (s : RunS) (k : Nat), nx = .int .i64 (a : Int) ∧ frv = .int .i64 fr ∧ a < n ∧ s.fuel < k ∧ Room s ∧ s.path.length + s.fuel ≤ 5000 ∧ SIs W0 wr P vn s ∧ FrR P P w0 wr ∧ tellN wordV F k a fr s = (how, en, sE)) (fun _ _ wr => fuelS P wr)
  case atStart => exact ⟨0, -1, st, K, rfl, rfl, by have := HN1.out; have := HNN.out; omega, hk, HROOM.out, hp0, HR0.out, FrR.refl _ _ _, HRES.out⟩
  case round =>
    obtain ⟨a, fr, s, k, rfl, rfl, ha, hsk, hro, hpa, hr, hfr, hte⟩ := hrel
    obtain ⟨x, hx⟩ : ∃ x, F.blocks[a]? = some x := ⟨_, List.getElem?_eq_getElem (by have := HNN.out; omega)⟩
    have HX : Hid (F.blocks[a]? = some x) := hx
    have HRO : Hid (Room s) := hro
    have HPA : Hid (s.path.length + s.fuel ≤ 5000) := hpa
    have HBO2 : Hid (BlockOk (F.blocks.length : Int) vals x) := HBO.out a x hx
    obtain ⟨k', rfl⟩ : ∃ k', k = k' + 1 := ⟨k - 1, by omega⟩
    have HTE : Hid (tellN wordV F (k' + 1) a fr s = (how, en, sE)) := hte
    have HSK : Hid (s.fuel < k' + 1) := hsk
    have HFR : Hid (FrR P P w0 wr) := hfr
    have HFU0 : Hid (fuelS P wr = s.fuel) := fuelS_run hr
    have hfb := hfr.box HFB.out hPF hPF (by decide)
    have f0 : wr.cell? ⟨FB, 0, none⟩ = some (.slice (some ⟨b, off, none⟩) n bcap) := by simp [World.cell?, hfb]
    obtain ⟨pv, lv, b0, b1, b2, b3, b4, b5, hps, hls⟩ := HEL.out a x hx
    obtain ⟨pa, pcap, rfl, hpm, hpc⟩ := id hps
    obtain ⟨la, lcap, rfl, hlm, hlc⟩ := id hls
    have hbel := hr.below
    have d0 := Bel.keeps hbel b0
    have d1 := Bel.keeps hbel b1
    have d2 := Bel.keeps hbel b2
    have d3 := Bel.keeps hbel b3
    have d4 := Bel.keeps hbel b4
    have d5 := Bel.keeps hbel b5
    have hb2 : b < wr.heap.size := World.block_lt_of_cell? wr _ d0
    obtain ⟨np, HNP⟩ : ∃ n, Hid (x.phis.length = n) := ⟨_, rfl⟩
    obtain ⟨nl, HNL⟩ : ∃ n, Hid (x.list.length = n) := ⟨_, rfl⟩
    have HPS : Hid (ListAt 0 2 (PhiAt 0) W0 (.slice pa np pcap) x.phis) := by rw [← HNP.out]; exact hps
    have HLC : Hid (0 < nl → ∃ b off, la = some ⟨b, off, none⟩ ∧ 0 ≤ b ∧ ∀ i y, x.list[i]? = some y → InsAt W0 b (off + i * 5) y) := by rw [← HNL.out]; exact hlc
    rw [HNP.out] at d0
    rw [HNL.out] at d1 hlm
    have ha2 : (a : Int) < (n : Int) := by omega
    obtain ⟨vb, vc, cb, cc, rv, rb, tb, tc, pb, pc, h1⟩ := hr
    have HS1 : Hid (SAt W0 wr P vn s vb vc cb cc rv rb tb tc pb pc) := h1
    have p4 := h1.cell.2.2.2.2.1
    have hPl := h1.lt
    clear hx hro hpa hsk hte hfr hfb b0 b1 b2 b3 b4 b5 hps hls hpc hlc hbel h1
    have H1 : Hid (SAt W0 (wr.alloc (.cells #[.slice pa np pcap, .slice la nl lcap, .int .i64 x.term.k, .int .i64 x.term.a, .int .i64 x.term.t, .int .i64 x.term.e] 42)) P vn s vb vc cb cc rv rb tb tc pb pc) := HS1.out.later (Bel.alloc wr _)
    have HB1 : Hid ((wr.alloc (.cells #[.slice pa np pcap, .slice la nl lcap, .int .i64 x.term.k, .int .i64 x.term.a, .int .i64 x.term.t, .int .i64 x.term.e] 42)).heap[wr.heap.size]? = some (.cells #[.slice pa np pcap, .slice la nl lcap, .int .i64 x.term.k, .int .i64 x.term.a, .int .i64 x.term.t, .int .i64 x.term.e] 42 (0, 0))) := World.alloc_heap_new wr _
    have HF1 : Hid (FrR P P w0 (wr.alloc (.cells #[.slice pa np pcap, .slice la nl lcap, .int .i64 x.term.k, .int .i64 x.term.a, .int .i64 x.term.t, .int .i64 x.term.e] 42))) := HFR.out.trans (FrR.ofBelow (Bel.alloc wr _))
    have hPB : wr.heap.size ≠ P := by omega
    have hpl5 : s.path.length ≤ 5000 := by have := HPA.out; omega
    go_wp2_with (at_builtin; refine wpList_append_own_at _ rfl _ _ 27 rfl W0.heap.size 3 i0 (.int .i64 0) 1 8 Try.underlying27 hi hz0 hz1 hz2 rfl (by decide) _ _ _ rfl (World.ownsRow.alloc H1.out.path _) ⟨wr.heap.size + 1, 0, none⟩ 1 1 [.int .i64 (a : Int)] (by simp [Act.eval]) rfl (by have := cell_one_new (wr.alloc (.cells #[.slice pa np pcap, .slice la nl lcap, .int .i64 x.term.k, .int .i64 x.term.a, .int .i64 x.term.t, .int .i64 x.term.e] 42)) (.int .i64 (a : Int)) 3; simpa using this) (by simp [Value.oneCell']) (by omega) (by omega) (by have := H1.out.below.size; simp at this ⊢; omega) ?_; intro v' wa hown' hgrow _ hat; obtain ⟨g', cap', rfl⟩ := ownsRow_succ hown'; have hat2 : g' = pb ∨ g' = (wr.alloc (.cells #[.slice pa np pcap, .slice la nl lcap, .int .i64 x.term.k, .int .i64 x.term.a, .int .i64 x.term.t, .int .i64 x.term.e] 42)).heap.size + 1 := (by have hat1 : (some g' : Option Nat) = some pb ∨ (some g' : Option Nat) = some ((wr.alloc (.cells #[.slice pa np pcap, .slice la nl lcap, .int .i64 x.term.k, .int .i64 x.term.a, .int .i64 x.term.t, .int .i64 x.term.e] 42)).alloc (.cells #[.int .i64 (a : Int)] 3)).heap.size := hat; rcases hat1 with e | e; exact .inl (by simpa using e); exact .inr (by simpa using e)); obtain ⟨ea, va, fa, sa⟩ := H1.out.path_grown (OwnInts.next hown') hgrow hat2; have SA : Hid (SAt W0 (wa.setCell ⟨P, 4, none⟩ (.slice (some ⟨g', 0, none⟩) (s.path.length + 1) cap')) P vn { s with path := s.path ++ [(a : Int)] } vb vc cb cc rv rb tb tc g' cap') := sa; have FA : Hid (FrR P P w0 wa) := HF1.out.trans fa; have xb := fa.box HB1.out hPB hPB (by decide); have XB : Hid (wa.heap[wr.heap.size]? = some (.cells #[.slice pa np pcap, .slice la nl lcap, .int .i64 x.term.k, .int .i64 x.term.a, .int .i64 x.term.t, .int .i64 x.term.e] 42 (0, 0))) := xb; have k0 : wa.cell? ⟨wr.heap.size, 0, none⟩ = some (.slice pa np pcap) := (by simp [World.cell?, xb]); have k1 : wa.cell? ⟨wr.heap.size, 1, none⟩ = some (.slice la nl lcap) := (by simp [World.cell?, xb]); have k2 : wa.cell? ⟨wr.heap.size, 2, none⟩ = some (.int .i64 x.term.k) := (by simp [World.cell?, xb]); have k3 : wa.cell? ⟨wr.heap.size, 3, none⟩ = some (.int .i64 x.term.a) := (by simp [World.cell?, xb]); have k4 : wa.cell? ⟨wr.heap.size, 4, none⟩ = some (.int .i64 x.term.t) := (by simp [World.cell?, xb]); have k5 : wa.cell? ⟨wr.heap.size, 5, none⟩ = some (.int .i64 x.term.e) := (by simp [World.cell?, xb]); have q4 : wa.cell? ⟨P, 4, none⟩ = some (.slice (some ⟨pb, 0, none⟩) s.path.length pc) := (cell_of_heap ea 4).trans (H1.out.cell.2.2.2.2.1); have qf : wa.frozen? ⟨P, 4, none⟩ = false := frozen_of_cells ⟨_, ea.trans H1.out.box⟩ 4; clear hown' hgrow hat hat2 va fa sa xb ea p4)
    refine (sphis_any (W0 := W0) (s := { s with path := s.path ++ [(a : Int)] }) (F.blocks.length : Int) vals HVN.out hv80 pa np pcap (.slice la nl lcap) x.term.k x.term.a x.term.t x.term.e fr la nl lcap rfl x.phis HPS.out HBO2.out.2.2.1 _ ⟨_, _, _, _, _, _, _, _, _, _, SA.out⟩).mono ?_
    rintro e w2 ⟨⟨v2, rfl⟩, h2, f2⟩
    have HR2 : Hid (SIs W0 w2 P vn (enterDo x a fr s)) := h2
    have HF2 : Hid (FrR P P w0 w2) := FA.out.trans ((FrR.setR P P 4 _ wa).trans f2)
    have hbx2 := f2.box (B := wr.heap.size) ((heap_setCell_other _ _ _ _ hPB).trans XB.out) hPB hPB (by decide)
    have HBX : Hid (w2.heap[wr.heap.size]? = some (.cells #[.slice pa np pcap, .slice la nl lcap, .int .i64 x.term.k, .int .i64 x.term.a, .int .i64 x.term.t, .int .i64 x.term.e] 42 (0, 0))) := hbx2
    have HRO1 : Hid (Room (enterDo x a fr s)) := by
      have h1 := HRO.out
      have h2 := HPA.out
      show Room (enterDo x a fr s)
      refine ⟨h1.1, ?_⟩
      show (s.path ++ [(a : Int)]).length + s.fuel ≤ 5001
      rw [List.length_append, List.length_singleton]
      omega
    clear h2 f2 hbx2 SA FA XB k0 k1 k2 k3 k4 k5 q4 qf H1 HB1 HF1 HS1 d0 d1 d2 d3 d4 d5 f0 hb2 hPl
    generalize wr.heap.size = B at *
    go_wp2_with fail
    go_loopw [9] (fun i wr => ∃ (j : Nat) (s2 : RunS), i = .int .i64 (j : Int) ∧ j ≤ nl ∧ SIs W0 wr P vn s2 ∧ FrR P P w2 wr ∧ Room s2 ∧ s2.fuel ≤ s.fuel ∧ placesDo wordV (x.list.drop j) s2 = blockDo wordV x a fr s) (fun i _ => nl - (intOf i).toNat)
    case atStart => exact ⟨0, _, rfl, Nat.zero_le _, HR2.out, FrR.refl _ _ _, HRO1.out, Nat.le_refl _, rfl⟩
    case round =>
      obtain ⟨j, s2, rfl, hj, hr, hf, hro, hfu, hpd⟩ := hrel
      have HR3 : Hid (SIs W0 wr P vn s2) := hr
      have HF3 : Hid (FrR P P w2 wr) := hf
      have HRO3 : Hid (Room s2) := hro
      have HFU : Hid (s2.fuel ≤ s.fuel) := hfu
      have HPD : Hid (placesDo wordV (x.list.drop j) s2 = blockDo wordV x a fr s) := hpd
      have hbx := hf.box HBX.out hPB hPB (by decide)
      have HBX3 : Hid (wr.heap[B]? = some (.cells #[.slice pa np pcap, .slice la nl lcap, .int .i64 x.term.k, .int .i64 x.term.a, .int .i64 x.term.t, .int .i64 x.term.e] 42 (0, 0))) := hbx
      have k1 : wr.cell? ⟨B, 1, none⟩ = some (.slice la nl lcap) := by simp [World.cell?, hbx]
      have hbel : Hid (Below W0.heap.size W0 wr) := hr.below
      obtain ⟨vb3, vc3, cb3, cc3, rv3, rb3, tb3, tc3, pb3, pc3, h3⟩ := hr
      have p5 := h3.cell.2.2.2.2.2
      have g5 := h3.frozen 5
      obtain ⟨fl, HFL⟩ : ∃ q : Int, Hid (q = (s2.fuel : Int)) := ⟨_, rfl⟩
      rw [← HFL.out] at p5
      clear hf hro hfu hpd hbx h3
      by_cases hlt : (j : Int) < (nl : Int)
      · have HLT : Hid (j < nl) := by show j < nl; omega
        obtain ⟨lb, loff, rfl, _, hcc⟩ := HLC.out (by omega)
        obtain ⟨y, hy⟩ : ∃ y, x.list[j]? = some y := ⟨_, List.getElem?_eq_getElem (by have := HNL.out; omega)⟩
        obtain ⟨q0, q1, q2, q3, q4⟩ := hcc j y hy
        have r0 := Bel.keeps hbel.out q0
        have r1 := Bel.keeps hbel.out q1
        have r2 := Bel.keeps hbel.out q2
        have r3 := Bel.keeps hbel.out q3
        have r4 := Bel.keeps hbel.out q4
        have hlP : P ≠ lb := by have := World.block_lt_of_cell? W0 _ q0; have := HR3.out.lt; obtain ⟨_, _, _, _, _, _, _, _, _, _, h9⟩ := HR3.out; have := h9.hP; simp at *; omega
        have HY : Hid (x.list[j]? = some y) := hy
        have HYO : Hid (placeOkV vals y = true) := HBO2.out.2.2.2.1 j y hy
        have hpy : placesDo wordV (x.list.drop j) s2 = if (stepDo y s2).1 = 0 then placesDo wordV (x.list.drop (j + 1)) (stepDo y s2).2 else stepDo y s2 := by rw [drop_at HY.out]; exact placesDo_step
        have HPY : Hid (blockDo wordV x a fr s = if (stepDo y s2).1 = 0 then placesDo wordV (x.list.drop (j + 1)) (stepDo y s2).2 else stepDo y s2) := HPD.out.symm.trans hpy
        clear hpy q0 q1 q2 q3 q4 hy hcc
        by_cases hf0 : fl = 0
        · subst hf0
          go_wp2_with fail
          refine bodyPost_ret (v := .tuple #[.int .i64 1, .int .i64 0]) (by simp [results, Try.results35, go_sem]) rfl ?_
          have hz : s2.fuel = 0 := by have := HFL.out; omega
          have hst : stepDo y s2 = (1, s2) := if_pos hz
          have hb : blockDo wordV x a fr s = (1, s2) := by rw [HPY.out, hst]; rfl
          have ht := HTE.out
          rw [tellN_succ _ _ _ _ _ _ HX.out, hb] at ht
          simp at ht
          obtain ⟨t1, t2, t3⟩ := ht
          rw [← t1, ← t2, ← t3]
          exact ⟨rfl, HR3.out⟩
        · obtain ⟨kf, hkf⟩ : ∃ kf : Nat, s2.fuel = kf + 1 := ⟨s2.fuel - 1, by have := HFL.out; omega⟩
          have hfe : fl - 1 = (kf : Int) := by have := HFL.out; omega
          have HFE : Hid (fl - 1 = (kf : Int)) := hfe
          have HKF : Hid (s2.fuel = kf + 1) := hkf
          have hm0 : (fl == 0) = false := by simp [hf0]
          have hm1 : 1 ≤ fl := by have := HFL.out; omega
          have hm2 : fl ≤ 5001 := by have := HFL.out; have := HRO3.out.1; omega
          have HSE : Hid (stepDo y s2 = insDo wordV y { s2 with fuel := kf }) := by
            show stepDo y s2 = _
            unfold stepDo
            rw [if_neg (by omega)]
            have : s2.fuel - 1 = kf := by omega
            rw [this]
          have htl : s2.told.length ≤ 5000 := by have := HRO3.out.1; omega
          have hBP : P ≠ B := fun e => hPB e.symm
          have k1' := far_block (o := 5) (v := .int .i64 (fl - 1)) k1 hBP
          have r0' := far_block (o := 5) (v := .int .i64 (fl - 1)) r0 hlP
          have r1' := far_block (o := 5) (v := .int .i64 (fl - 1)) r1 hlP
          have r2' := far_block (o := 5) (v := .int .i64 (fl - 1)) r2 hlP
          have r3' := far_block (o := 5) (v := .int .i64 (fl - 1)) r3 hlP
          have r4' := far_block (o := 5) (v := .int .i64 (fl - 1)) r4 hlP
          clear hfe hkf hf0
          go_wp2_with fail
          have hs4 : SIs W0 (wr.setCell ⟨P, 5, none⟩ (.int .i64 (fl - 1))) P vn { s2 with fuel := kf } := by
            rw [HFE.out]
            exact HR3.out.setFuel kf
          refine (sIns_any (W0 := W0) (s := { s2 with fuel := kf }) vals y HVN.out HYO.out _ hs4 htl).mono ?_
          rintro e w4 ⟨rfl, h4, f4⟩
          rw [← HSE.out] at h4 ⊢
          have HR4 : Hid (SIs W0 w4 P vn (stepDo y s2).2) := h4
          have HF4 : Hid (FrR P P w2 w4) := HF3.out.trans ((FrR.setR P P 5 _ wr).trans f4)
          obtain ⟨hq, HHQ⟩ : ∃ q, Hid ((stepDo y s2).1 = q) := ⟨_, rfl⟩
          rw [HHQ.out]
          clear h4 f4 hs4 k1' r0' r1' r2' r3' r4' r0 r1 r2 r3 r4 k1 p5 g5
          by_cases hq0 : hq = 0
          · subst hq0
            obtain ⟨hro4, hfu4⟩ := stepDo_room HRO3.out HHQ.out
            have HRO4 : Hid (Room (stepDo y s2).2) := hro4
            have HFU4 : Hid ((stepDo y s2).2.fuel + 1 = s2.fuel) := hfu4
            clear hro4 hfu4
            go_wp2_with fail
            go_roundw
            case rel =>
              refine ⟨j + 1, (stepDo y s2).2, by go_num, by have := HLT.out; omega, HR4.out, HF4.out, HRO4.out, by have := HFU.out; have := HFU4.out; omega, ?_⟩
              rw [HPY.out, if_pos HHQ.out]
            case measure =>
              have := HLT.out
              simp [intOf]
              omega
          · have hq1 : (hq == 0) = false := by simp [hq0]
            go_wp2_with fail
            refine bodyPost_ret (v := .tuple #[.int .i64 hq, .int .i64 0]) (by simp [results, Try.results35, go_sem]) rfl ?_
            have hb : blockDo wordV x a fr s = stepDo y s2 := by rw [HPY.out, if_neg (by rw [HHQ.out]; exact hq0)]
            have ht := HTE.out
            rw [tellN_succ _ _ _ _ _ _ HX.out, hb, if_pos (by rw [HHQ.out]; exact hq0)] at ht
            simp only [Prod.mk.injEq] at ht
            obtain ⟨t1, t2, t3⟩ := ht
            rw [← t1, ← t2, ← t3, HHQ.out]
            exact ⟨rfl, HR4.out⟩
      · have HBD : Hid (blockDo wordV x a fr s = (0, s2)) := by
          have h9 := HPD.out
          rw [List.drop_eq_nil_of_le (by have := HNL.out; omega)] at h9
          exact h9.symm
        by_cases hf0 : fl = 0
        · subst hf0
          go_wp2_with fail
          refine bodyPost_ret (v := .tuple #[.int .i64 1, .int .i64 0]) (by simp [results, Try.results35, go_sem]) rfl ?_
          have hz : s2.fuel = 0 := by have := HFL.out; omega
          have ht := HTE.out
          rw [tellN_succ _ _ _ _ _ _ HX.out, HBD.out] at ht
          simp [hz] at ht
          obtain ⟨t1, t2, t3⟩ := ht
          rw [← t1, ← t2, ← t3]
          exact ⟨rfl, HR3.out⟩
        · obtain ⟨kf, hkf⟩ : ∃ kf : Nat, s2.fuel = kf + 1 := ⟨s2.fuel - 1, by have := HFL.out; omega⟩
          have hfe : fl - 1 = (kf : Int) := by have := HFL.out; omega
          have HFE : Hid (fl - 1 = (kf : Int)) := hfe
          have HKF : Hid (s2.fuel = kf + 1) := hkf
          have hs0 : ¬ s2.fuel = 0 := by omega
          have HTT : Hid (x.term.k ≠ 3 → tellN wordV F k' (nextDo x.term s2).toNat (a : Int) { s2 with fuel := kf } = (how, en, sE)) := fun h3 => by
            have ht := HTE.out
            rw [tellN_succ _ _ _ _ _ _ HX.out, HBD.out] at ht
            have e9 : s2.fuel - 1 = kf := by have := HKF.out; omega
            simp only [ne_eq, not_true, if_false, h3, if_neg hs0, e9] at ht
            exact ht
          have HT3 : Hid (x.term.k = 3 → (0, s2.val x.term.a, ({ s2 with fuel := kf } : RunS)) = (how, en, sE)) := fun h3 => by
            have ht := HTE.out
            rw [tellN_succ _ _ _ _ _ _ HX.out, HBD.out] at ht
            have e9 : s2.fuel - 1 = kf := by have := HKF.out; omega
            simp only [ne_eq, not_true, if_false, h3, if_true, if_neg hs0, e9] at ht
            exact ht
          have HNEW : Hid (Room { s2 with fuel := kf } ∧ s2.path.length + kf ≤ 5000 ∧ kf < k' ∧ kf < s.fuel) := by
            have h1 := HRO3.out
            have h2 := HKF.out
            have h3 := HFU.out
            have h4 := HSK.out
            unfold Room at h1
            refine ⟨⟨?_, ?_⟩, ?_, ?_, ?_⟩
            · show s2.told.length + kf ≤ 5000; omega
            · show s2.path.length + kf ≤ 5001; omega
            · omega
            · omega
            · omega
          have hm0 : (fl == 0) = false := by simp [hf0]
          have hm1 : 1 ≤ fl := by have := HFL.out; omega
          have hm2 : fl ≤ 5001 := by have := HFL.out; have := HRO3.out.1; omega
          have hbx := HBX3.out
          have k2 : wr.cell? ⟨B, 2, none⟩ = some (.int .i64 x.term.k) := by simp [World.cell?, hbx]
          have k3 : wr.cell? ⟨B, 3, none⟩ = some (.int .i64 x.term.a) := by simp [World.cell?, hbx]
          have k4 : wr.cell? ⟨B, 4, none⟩ = some (.int .i64 x.term.t) := by simp [World.cell?, hbx]
          have k5 : wr.cell? ⟨B, 5, none⟩ = some (.int .i64 x.term.e) := by simp [World.cell?, hbx]
          have hs5 : SIs W0 (wr.setCell ⟨P, 5, none⟩ (.int .i64 (fl - 1))) P vn { s2 with fuel := kf } := by
            rw [HFE.out]
            exact HR3.out.setFuel kf
          have HR5 : Hid (SIs W0 (wr.setCell ⟨P, 5, none⟩ (.int .i64 (fl - 1))) P vn { s2 with fuel := kf }) := hs5
          have HF5 : Hid (FrR P P w0 (wr.setCell ⟨P, 5, none⟩ (.int .i64 (fl - 1)))) := HF2.out.trans (HF3.out.trans (FrR.setR P P 5 _ wr))
          have hBP : P ≠ B := fun e => hPB e.symm
          clear hkf hf0 hs5 hbx hfe hs0
          rcases term_cases HBO2.out.2.2.2.2 with ⟨e1, e2, e3⟩ | ⟨e1, e2, e3, e4, e5, e6⟩ | ⟨e1, e2⟩
          · have HTJ := HTT.out (by rw [e1]; decide)
            have HTJ2 : Hid (tellN wordV F k' x.term.t.toNat (a : Int) { s2 with fuel := kf } = (how, en, sE)) := by
              have e9 : nextDo x.term s2 = x.term.t := by simp [nextDo, e1]
              rw [e9] at HTJ
              exact HTJ
            rw [e1] at k2
            have HE : Hid (0 ≤ x.term.t ∧ x.term.t < (F.blocks.length : Int)) := ⟨e2, e3⟩
            clear HTJ e1 e2 e3
            have k2' := far_block (o := 5) (v := .int .i64 (fl - 1)) k2 hBP
            have k3' := far_block (o := 5) (v := .int .i64 (fl - 1)) k3 hBP
            have k4' := far_block (o := 5) (v := .int .i64 (fl - 1)) k4 hBP
            have k5' := far_block (o := 5) (v := .int .i64 (fl - 1)) k5 hBP
            go_wp2_with fail
            have tx := World.alloc_heap_new (wr.setCell ⟨P, 5, none⟩ (.int .i64 (fl - 1))) (.cells #[.int .i64 1, .int .i64 x.term.a, .int .i64 x.term.t, .int .i64 x.term.e] 38)
            have HR6 : Hid (SIs W0 ((wr.setCell ⟨P, 5, none⟩ (.int .i64 (fl - 1))).alloc (.cells #[.int .i64 1, .int .i64 x.term.a, .int .i64 x.term.t, .int .i64 x.term.e] 38)) P vn { s2 with fuel := kf }) := HR5.out.later (Bel.alloc _ _)
            have HF6 : Hid (FrR P P w0 ((wr.setCell ⟨P, 5, none⟩ (.int .i64 (fl - 1))).alloc (.cells #[.int .i64 1, .int .i64 x.term.a, .int .i64 x.term.t, .int .i64 x.term.e] 38))) := HF5.out.trans (FrR.ofBelow (Bel.alloc _ _))
            have hsz : (wr.setCell ⟨P, 5, none⟩ (.int .i64 (fl - 1))).heap.size = wr.heap.size := by simp
            rw [hsz] at tx
            generalize (wr.setCell ⟨P, 5, none⟩ (.int .i64 (fl - 1))).alloc (.cells #[.int .i64 1, .int .i64 x.term.a, .int .i64 x.term.t, .int .i64 x.term.e] 38) = w6 at tx HR6 HF6 ⊢
            clear hsz
            generalize wr.heap.size = C at tx ⊢
            have y0 : w6.cell? ⟨C, 0, none⟩ = some (.int .i64 1) := by simp [World.cell?, tx]
            have y1 : w6.cell? ⟨C, 1, none⟩ = some (.int .i64 x.term.a) := by simp [World.cell?, tx]
            have y2 : w6.cell? ⟨C, 2, none⟩ = some (.int .i64 x.term.t) := by simp [World.cell?, tx]
            have y3 : w6.cell? ⟨C, 3, none⟩ = some (.int .i64 x.term.e) := by simp [World.cell?, tx]
            clear tx HR5 HF5 k2 k3 k4 k5 k2' k3' k4' k5' k1 p5 g5
            go_wp2_with fail
            refine wp_region_held_drew (S := (fun w' => w'.cell? ⟨C, 0, none⟩ = some (.int .i64 1))) (by kernel_rfl) y0 (fun hS => ?_)
            refine wpAnyH_take (i := 0) (oi := { dst := some 90, op := Op.fieldAddr 38 (Operand.tmp 11) 0, type := 0, pos := "l06_run.go:86", after := #[], guard := none }) (v := .pointer (some ⟨C, 0, none⟩)) rfl (by kernel_rfl) (by kernel_rfl) (by kernel_rfl) (fun _ _ _ h => h) (Or.inl ⟨by rfl, fun W hW => by go_simp⟩) hS ?_
            simp only [Act.put, List.setIfInBounds_toArray, List.set_cons_zero, List.set_cons_succ]
            refine wpAnyH_take (i := 1) (oi := { dst := some 91, op := Op.load 3 (Operand.tmp 90), type := 3, pos := "l06_run.go:86", after := #[{ on := 0, ground := Ground.data }], guard := none }) (v := .int .i64 1) rfl (by kernel_rfl) (by kernel_rfl) (by kernel_rfl) (fun _ _ _ h => h) (Or.inl ⟨by rfl, fun W hW => by go_simp⟩) hS ?_
            simp only [Act.put, List.setIfInBounds_toArray, List.set_cons_zero, List.set_cons_succ]
            refine wpAnyH_take (i := 2) (oi := { dst := some 92, op := Op.binOp BinOp.eql 3 (Operand.tmp 91) (Operand.const (Value.int IntKind.i64 2)) 3, type := 4, pos := "l06_run.go:86", after := #[{ on := 1, ground := Ground.data }], guard := none }) (v := .bool false) rfl (by kernel_rfl) (by kernel_rfl) (by kernel_rfl) (fun _ _ _ h => h) (Or.inl ⟨by rfl, fun W hW => by go_simp⟩) hS ?_
            simp only [Act.put, List.setIfInBounds_toArray, List.set_cons_zero, List.set_cons_succ]
            refine wpAnyH_take (i := 3) (oi := { dst := some 93, op := Op.move (Operand.tmp 92), type := 4, pos := "l06_run.go:86", after := #[{ on := 2, ground := Ground.data }], guard := none }) (v := .bool false) rfl (by kernel_rfl) (by kernel_rfl) (by kernel_rfl) (fun _ _ _ h => h) (Or.inl ⟨by rfl, fun W hW => by go_simp⟩) hS ?_
            simp only [Act.put, List.setIfInBounds_toArray, List.set_cons_zero, List.set_cons_succ]
            refine wpAnyH_take (i := 4) (oi := { dst := some 94, op := Op.move (Operand.tmp 0), type := 66, pos := "l06_run.go:86", after := #[{ on := 3, ground := Ground.guard }], guard := some (3, true) }) (v := undef) rfl (by kernel_rfl) (by kernel_rfl) (by kernel_rfl) (fun _ _ _ h => h) (Or.inr ⟨by rfl, rfl⟩) hS ?_
            simp only [Act.put, List.setIfInBounds_toArray, List.set_cons_zero, List.set_cons_succ]
            refine wpAnyH_take (i := 5) (oi := { dst := some 95, op := Op.nilCheck (Operand.tmp 94), type := 0, pos := "l06_run.go:86", after := #[{ on := 4, ground := Ground.data }, { on := 3, ground := Ground.guard }], guard := some (3, true) }) (v := undef) rfl (by kernel_rfl) (by kernel_rfl) (by kernel_rfl) (fun _ _ _ h => h) (Or.inr ⟨by rfl, rfl⟩) hS ?_
            simp only [Act.put, List.setIfInBounds_toArray, List.set_cons_zero, List.set_cons_succ]
            refine wpAnyH_take (i := 6) (oi := { dst := some 96, op := Op.fieldAddr 70 (Operand.tmp 95) 0, type := 0, pos := "l06_run.go:86", after := #[{ on := 5, ground := Ground.data }, { on := 3, ground := Ground.guard }], guard := some (3, true) }) (v := undef) rfl (by kernel_rfl) (by kernel_rfl) (by kernel_rfl) (fun _ _ _ h => h) (Or.inr ⟨by rfl, rfl⟩) hS ?_
            simp only [Act.put, List.setIfInBounds_toArray, List.set_cons_zero, List.set_cons_succ]
            refine wpAnyH_take (i := 7) (oi := { dst := some 97, op := Op.load 27 (Operand.tmp 96), type := 27, pos := "l06_run.go:86", after := #[{ on := 6, ground := Ground.data }, { on := 3, ground := Ground.guard }], guard := some (3, true) }) (v := undef) rfl (by kernel_rfl) (by kernel_rfl) (by kernel_rfl) (fun _ _ _ h => h) (Or.inr ⟨by rfl, rfl⟩) hS ?_
            simp only [Act.put, List.setIfInBounds_toArray, List.set_cons_zero, List.set_cons_succ]
            refine wpAnyH_take (i := 8) (oi := { dst := some 98, op := Op.fieldAddr 38 (Operand.tmp 11) 1, type := 0, pos := "l06_run.go:86", after := #[{ on := 3, ground := Ground.guard }], guard := some (3, true) }) (v := undef) rfl (by kernel_rfl) (by kernel_rfl) (by kernel_rfl) (fun _ _ _ h => h) (Or.inr ⟨by rfl, rfl⟩) hS ?_
            simp only [Act.put, List.setIfInBounds_toArray, List.set_cons_zero, List.set_cons_succ]
            refine wpAnyH_take (i := 9) (oi := { dst := some 99, op := Op.load 3 (Operand.tmp 98), type := 3, pos := "l06_run.go:86", after := #[{ on := 8, ground := Ground.data }, { on := 3, ground := Ground.guard }], guard := some (3, true) }) (v := undef) rfl (by kernel_rfl) (by kernel_rfl) (by kernel_rfl) (fun _ _ _ h => h) (Or.inr ⟨by rfl, rfl⟩) hS ?_
            simp only [Act.put, List.setIfInBounds_toArray, List.set_cons_zero, List.set_cons_succ]
            refine wpAnyH_take (i := 10) (oi := { dst := some 100, op := Op.indexAddr 27 (Operand.tmp 97) (Operand.tmp 99), type := 0, pos := "l06_run.go:86", after := #[{ on := 7, ground := Ground.data }, { on := 9, ground := Ground.data }, { on := 3, ground := Ground.guard }], guard := some (3, true) }) (v := undef) rfl (by kernel_rfl) (by kernel_rfl) (by kernel_rfl) (fun _ _ _ h => h) (Or.inr ⟨by rfl, rfl⟩) hS ?_
            simp only [Act.put, List.setIfInBounds_toArray, List.set_cons_zero, List.set_cons_succ]
            refine wpAnyH_take (i := 11) (oi := { dst := some 101, op := Op.load 3 (Operand.tmp 100), type := 3, pos := "l06_run.go:86", after := #[{ on := 10, ground := Ground.data }, { on := 3, ground := Ground.guard }], guard := some (3, true) }) (v := undef) rfl (by kernel_rfl) (by kernel_rfl) (by kernel_rfl) (fun _ _ _ h => h) (Or.inr ⟨by rfl, rfl⟩) hS ?_
            simp only [Act.put, List.setIfInBounds_toArray, List.set_cons_zero, List.set_cons_succ]
            refine wpAnyH_take (i := 12) (oi := { dst := some 102, op := Op.binOp BinOp.eql 3 (Operand.tmp 101) (Operand.const (Value.int IntKind.i64 0)) 3, type := 4, pos := "l06_run.go:86", after := #[{ on := 11, ground := Ground.data }, { on := 3, ground := Ground.guard }], guard := some (3, true) }) (v := undef) rfl (by kernel_rfl) (by kernel_rfl) (by kernel_rfl) (fun _ _ _ h => h) (Or.inr ⟨by rfl, rfl⟩) hS ?_
            simp only [Act.put, List.setIfInBounds_toArray, List.set_cons_zero, List.set_cons_succ]
            refine wpAnyH_take (i := 13) (oi := { dst := some 103, op := Op.pick (Operand.tmp 93) (Operand.tmp 102) (Operand.const (Value.bool false)), type := 4, pos := "l06_run.go:86", after := #[{ on := 3, ground := Ground.data }, { on := 12, ground := Ground.data }], guard := none }) (v := .bool false) rfl (by kernel_rfl) (by kernel_rfl) (by kernel_rfl) (fun _ _ _ h => h) (Or.inl ⟨by rfl, fun W hW => by go_simp⟩) hS ?_
            simp only [Act.put, List.setIfInBounds_toArray, List.set_cons_zero, List.set_cons_succ]
            refine wpAnyH_done (by kernel_rfl) ?_ _
            simp only [Exit.then]
            go_at_K
            go_wp2_with fail
            go_roundw
            case rel =>
              refine ⟨x.term.t.toNat, (a : Int), { s2 with fuel := kf }, k', ?_, rfl, by have := HE.out; have := HNN.out; omega, HNEW.out.2.2.1, HNEW.out.1, HNEW.out.2.1, HR6.out.later (Below.refl _ _).drew, HF6.out.trans (FrR.drew P P _), HTJ2.out⟩
              rw [Int.toNat_of_nonneg HE.out.1]
            case measure =>
              rw [fuelS_run (HR6.out.later (Below.refl _ _).drew), HFU0.out]
              exact HNEW.out.2.2.2
          · obtain ⟨an, han, han8⟩ := val_natV e6 HVN.out
            have HTJ := HTT.out (by rw [e1]; decide)
            have HTJ2 : Hid (tellN wordV F k' (if s2.vals an = 0 then x.term.e else x.term.t).toNat (a : Int) { s2 with fuel := kf } = (how, en, sE)) := by
              have e9 : nextDo x.term s2 = if s2.vals an = 0 then x.term.e else x.term.t := by
                simp only [nextDo, e1, RunS.val, han, Int.toNat_natCast, true_and]
              rw [e9] at HTJ
              exact HTJ
            rw [e1] at k2
            rw [han] at k3
            clear han
            have HET : Hid (0 ≤ x.term.t ∧ x.term.t < (F.blocks.length : Int)) := ⟨e2, e3⟩
            have HEE : Hid (0 ≤ x.term.e ∧ x.term.e < (F.blocks.length : Int)) := ⟨e4, e5⟩
            clear HTJ e1 e2 e3 e4 e5 e6
            have k2' := far_block (o := 5) (v := .int .i64 (fl - 1)) k2 hBP
            have k3' := far_block (o := 5) (v := .int .i64 (fl - 1)) k3 hBP
            have k4' := far_block (o := 5) (v := .int .i64 (fl - 1)) k4 hBP
            have k5' := far_block (o := 5) (v := .int .i64 (fl - 1)) k5 hBP
            go_wp2_with fail
            have tx := World.alloc_heap_new (wr.setCell ⟨P, 5, none⟩ (.int .i64 (fl - 1))) (.cells #[.int .i64 2, .int .i64 (an : Int), .int .i64 x.term.t, .int .i64 x.term.e] 38)
            have HR6 : Hid (SIs W0 ((wr.setCell ⟨P, 5, none⟩ (.int .i64 (fl - 1))).alloc (.cells #[.int .i64 2, .int .i64 (an : Int), .int .i64 x.term.t, .int .i64 x.term.e] 38)) P vn { s2 with fuel := kf }) := HR5.out.later (Bel.alloc _ _)
            have HF6 : Hid (FrR P P w0 ((wr.setCell ⟨P, 5, none⟩ (.int .i64 (fl - 1))).alloc (.cells #[.int .i64 2, .int .i64 (an : Int), .int .i64 x.term.t, .int .i64 x.term.e] 38))) := HF5.out.trans (FrR.ofBelow (Bel.alloc _ _))
            have hsz : (wr.setCell ⟨P, 5, none⟩ (.int .i64 (fl - 1))).heap.size = wr.heap.size := by simp
            rw [hsz] at tx
            generalize (wr.setCell ⟨P, 5, none⟩ (.int .i64 (fl - 1))).alloc (.cells #[.int .i64 2, .int .i64 (an : Int), .int .i64 x.term.t, .int .i64 x.term.e] 38) = w6 at tx HR6 HF6 ⊢
            clear hsz
            generalize wr.heap.size = C at tx ⊢
            have y0 : w6.cell? ⟨C, 0, none⟩ = some (.int .i64 2) := by simp [World.cell?, tx]
            have y1 : w6.cell? ⟨C, 1, none⟩ = some (.int .i64 (an : Int)) := by simp [World.cell?, tx]
            have y2 : w6.cell? ⟨C, 2, none⟩ = some (.int .i64 x.term.t) := by simp [World.cell?, tx]
            have y3 : w6.cell? ⟨C, 3, none⟩ = some (.int .i64 x.term.e) := by simp [World.cell?, tx]
            clear tx HR5 HF5 k2 k3 k4 k5 k2' k3' k4' k5' k1 p5 g5
            go_wp2_with fail
            obtain ⟨vb6, vc6, cb6, cc6, rv6, rb6, tb6, tc6, pb6, pc6, h6⟩ := HR6.out
            have c6 := h6.cell.1
            have cv := h6.valAt han8
            obtain ⟨yv, HYV⟩ : ∃ q, Hid (s2.vals an = q) := ⟨_, rfl⟩
            simp only [HYV.out] at cv
            rw [HYV.out] at HTJ2
            have han2 : (an : Int) < (vn : Int) := by omega
            clear h6
            by_cases hyv : yv = 0
            · subst hyv
              go_region_held3 (fun w' => w'.cell? ⟨C, 0, none⟩ = some (.int .i64 2) ∧ w'.cell? ⟨C, 1, none⟩ = some (.int .i64 (an : Int)) ∧ w'.cell? ⟨P, 0, none⟩ = some (.slice (some ⟨vb6, 0, none⟩) vn vc6) ∧ w'.cell? ⟨vb6, an, none⟩ = some (.int .i64 0)) (go_keep) (fail)
              simp only [Exit.then]
              go_at_K
              go_wp2_with fail
              go_roundw
              case rel =>
                have h9 := HTJ2.out
                rw [if_pos rfl] at h9
                refine ⟨x.term.e.toNat, (a : Int), { s2 with fuel := kf }, k', ?_, rfl, by have := HEE.out; have := HNN.out; omega, HNEW.out.2.2.1, HNEW.out.1, HNEW.out.2.1, HR6.out.later (Below.refl _ _).drew, HF6.out.trans (FrR.drew P P _), h9⟩
                rw [Int.toNat_of_nonneg HEE.out.1]
              case measure =>
                rw [fuelS_run (HR6.out.later (Below.refl _ _).drew), HFU0.out]
                exact HNEW.out.2.2.2
            · have hy1 : (yv == 0) = false := by simp [hyv]
              go_region_held3 (fun w' => w'.cell? ⟨C, 0, none⟩ = some (.int .i64 2) ∧ w'.cell? ⟨C, 1, none⟩ = some (.int .i64 (an : Int)) ∧ w'.cell? ⟨P, 0, none⟩ = some (.slice (some ⟨vb6, 0, none⟩) vn vc6) ∧ w'.cell? ⟨vb6, an, none⟩ = some (.int .i64 yv)) (go_keep) (fail)
              simp only [Exit.then]
              go_at_K
              go_wp2_with fail
              go_roundw
              case rel =>
                have h9 := HTJ2.out
                rw [if_neg hyv] at h9
                refine ⟨x.term.t.toNat, (a : Int), { s2 with fuel := kf }, k', ?_, rfl, by have := HET.out; have := HNN.out; omega, HNEW.out.2.2.1, HNEW.out.1, HNEW.out.2.1, HR6.out.later (Below.refl _ _).drew, HF6.out.trans (FrR.drew P P _), h9⟩
                rw [Int.toNat_of_nonneg HET.out.1]
              case measure =>
                rw [fuelS_run (HR6.out.later (Below.refl _ _).drew), HFU0.out]
                exact HNEW.out.2.2.2
          · obtain ⟨an, han, han8⟩ := val_natV e2 HVN.out
            have HTB : Hid ((0, s2.vals an, ({ s2 with fuel := kf } : RunS)) = (how, en, sE)) := by
              have h9 := HT3.out e1
              have e9 : s2.val x.term.a = s2.vals an := by simp [RunS.val, han]
              rw [e9] at h9
              exact h9
            rw [e1] at k2
            rw [han] at k3
            clear han e1 e2
            have k2' := far_block (o := 5) (v := .int .i64 (fl - 1)) k2 hBP
            have k3' := far_block (o := 5) (v := .int .i64 (fl - 1)) k3 hBP
            have k4' := far_block (o := 5) (v := .int .i64 (fl - 1)) k4 hBP
            have k5' := far_block (o := 5) (v := .int .i64 (fl - 1)) k5 hBP
            go_wp2_with fail
            have tx := World.alloc_heap_new (wr.setCell ⟨P, 5, none⟩ (.int .i64 (fl - 1))) (.cells #[.int .i64 3, .int .i64 (an : Int), .int .i64 x.term.t, .int .i64 x.term.e] 38)
            have HR6 : Hid (SIs W0 ((wr.setCell ⟨P, 5, none⟩ (.int .i64 (fl - 1))).alloc (.cells #[.int .i64 3, .int .i64 (an : Int), .int .i64 x.term.t, .int .i64 x.term.e] 38)) P vn { s2 with fuel := kf }) := HR5.out.later (Bel.alloc _ _)
            have HF6 : Hid (FrR P P w0 ((wr.setCell ⟨P, 5, none⟩ (.int .i64 (fl - 1))).alloc (.cells #[.int .i64 3, .int .i64 (an : Int), .int .i64 x.term.t, .int .i64 x.term.e] 38))) := HF5.out.trans (FrR.ofBelow (Bel.alloc _ _))
            have hsz : (wr.setCell ⟨P, 5, none⟩ (.int .i64 (fl - 1))).heap.size = wr.heap.size := by simp
            rw [hsz] at tx
            generalize (wr.setCell ⟨P, 5, none⟩ (.int .i64 (fl - 1))).alloc (.cells #[.int .i64 3, .int .i64 (an : Int), .int .i64 x.term.t, .int .i64 x.term.e] 38) = w6 at tx HR6 HF6 ⊢
            clear hsz
            generalize wr.heap.size = C at tx ⊢
            have y0 : w6.cell? ⟨C, 0, none⟩ = some (.int .i64 3) := by simp [World.cell?, tx]
            have y1 : w6.cell? ⟨C, 1, none⟩ = some (.int .i64 (an : Int)) := by simp [World.cell?, tx]
            have y2 : w6.cell? ⟨C, 2, none⟩ = some (.int .i64 x.term.t) := by simp [World.cell?, tx]
            have y3 : w6.cell? ⟨C, 3, none⟩ = some (.int .i64 x.term.e) := by simp [World.cell?, tx]
            clear tx HR5 HF5 k2 k3 k4 k5 k2' k3' k4' k5' k1 p5 g5
            go_wp2_with fail
            obtain ⟨vb6, vc6, cb6, cc6, rv6, rb6, tb6, tc6, pb6, pc6, h6⟩ := HR6.out
            have c6 := h6.cell.1
            have cv := h6.valAt han8
            obtain ⟨yv, HYV⟩ : ∃ q, Hid (s2.vals an = q) := ⟨_, rfl⟩
            simp only [HYV.out] at cv
            have han2 : (an : Int) < (vn : Int) := by omega
            clear h6
            go_region_held3 (fun w' => w'.cell? ⟨C, 1, none⟩ = some (.int .i64 (an : Int)) ∧ w'.cell? ⟨P, 0, none⟩ = some (.slice (some ⟨vb6, 0, none⟩) vn vc6) ∧ w'.cell? ⟨vb6, an, none⟩ = some (.int .i64 yv)) (go_keep) (fail)
            simp only [Exit.then]
            go_at_K
            go_wp2_with fail
            refine bodyPost_ret (v := .tuple #[.int .i64 0, .int .i64 yv]) (by simp [results, Try.results35, go_sem]) rfl ?_
            have ht := HTB.out
            rw [HYV.out] at ht
            simp only [Prod.mk.injEq] at ht
            obtain ⟨t1, t2, t3⟩ := ht
            rw [← t1, ← t2, ← t3]
            exact ⟨rfl, HR6.out.later (Below.refl _ _).drew⟩
end
end Go.Proofs.Ytkpddakmcnknjaa
