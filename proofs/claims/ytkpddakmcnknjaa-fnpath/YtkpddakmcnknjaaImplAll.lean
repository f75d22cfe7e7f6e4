/- A run goes on till the end: the program's all. -/
import Derived.Test.YtkpddakmcnknjaaImplPhis
import Derived.Test.YtkpddakmcnknjaaRunLaw
import Derived.WalkMore
namespace Go.Proofs.Ytkpddakmcnknjaa
open Go.ChangeShapes Go.WideShapes Go.ChangeAt Go.RowKit Go.Shelf
set_option linter.unusedVariables false

theorem insDo_len (W : Int → Int → Int → Int) (x : InsD) (s : RunS) : (insDo W x s).2.told.length ≤ s.told.length + 1 ∧ (insDo W x s).2.path = s.path := by
  unfold insDo
  repeat' split
  all_goals
    constructor
    · first | exact Nat.le_succ _ | (show (s.told ++ [_]).length ≤ _; simp)
    · rfl
/-- What is told and where one was takes fuel. -/
def Room (s : RunS) : Prop := s.told.length + s.fuel ≤ 5000 ∧ s.path.length + s.fuel ≤ 5001
theorem stepDo_room {x : InsD} {s : RunS} (h : Room s) (hh : (stepDo x s).1 = 0) : Room (stepDo x s).2 ∧ (stepDo x s).2.fuel + 1 = s.fuel := by
  unfold stepDo at *
  by_cases hf : s.fuel = 0
  · rw [if_pos hf] at hh
    cases hh
  · rw [if_neg hf]
    have h1 := insDo_len wordV x { s with fuel := s.fuel - 1 }
    have h2 := insDo_fuel wordV x { s with fuel := s.fuel - 1 }
    unfold Room at *
    rw [h1.2]
    dsimp only at h1 h2 ⊢
    omega
theorem term_cases {n vals : Int} {t : TermD} (h : termOkV n vals t.k t.a t.t t.e = true) : (t.k = 1 ∧ 0 ≤ t.t ∧ t.t < n) ∨ (t.k = 2 ∧ 0 ≤ t.t ∧ t.t < n ∧ 0 ≤ t.e ∧ t.e < n ∧ valIn vals t.a = true) ∨ (t.k = 3 ∧ valIn vals t.a = true) := by
  have hk : t.k = 1 ∨ t.k = 2 ∨ t.k = 3 := by
    apply Classical.byContradiction
    intro hn
    have h1 : ¬ t.k = 1 := fun h => hn (.inl h)
    have h2 : ¬ t.k = 2 := fun h => hn (.inr (.inl h))
    have h3 : ¬ t.k = 3 := fun h => hn (.inr (.inr h))
    simp [termOkV, h1, h2, h3] at h
  rcases hk with e | e | e
  · rw [e] at h
    simp [termOkV, valIn] at h
    exact .inl ⟨e, by omega, by omega⟩
  · rw [e] at h
    simp [termOkV, valIn] at h
    exact .inr (.inl ⟨e, by omega, by omega, by omega, by omega, by simp [valIn]; omega⟩)
  · rw [e] at h
    simp [termOkV, valIn] at h
    exact .inr (.inr ⟨e, by simp [valIn]; omega⟩)
theorem placesDo_step {x : InsD} {xs : List InsD} {s : RunS} : placesDo wordV (x :: xs) s = if (stepDo x s).1 = 0 then placesDo wordV xs (stepDo x s).2 else stepDo x s := by
  rw [placesDo_cons]
  unfold stepDo
  by_cases h : s.fuel = 0
  · simp [h]
  · simp only [h, if_false]
/-- How much fuel there is. -/
def fuelAt (R : Nat) (w : World) : Nat := match w.cell? ⟨R, 1, none⟩ with | some v => (intOf v).toNat | none => 0
def placeAt (S : Nat) (w : World) : Nat := match w.cell? ⟨S, 1, none⟩ with | some v => (intOf v).toNat | none => 0
theorem drop_at {α : Type} {l : List α} {j : Nat} {x : α} (h : l[j]? = some x) : l.drop j = x :: l.drop (j + 1) := by
  have hl := (List.getElem?_eq_some_iff.1 h).1
  rw [List.drop_eq_getElem_cons hl]
  have : l[j] = x := by rw [List.getElem?_eq_getElem hl] at h; simpa using h
  rw [this]

section
variable {W0 : World} {R S : Nat} {bv : Value} {vals : Int}

theorem fuelAt_run {w : World} {s : RunS} {fr pl : Int} (h : RunIs W0 w R S bv vals s fr pl) : fuelAt R w = s.fuel := by
  obtain ⟨_, _, _, h⟩ := h
  simp [fuelAt, h.cells.c1, intOf]
theorem placeAt_run {w : World} {s : RunS} {fr : Int} {pl : Nat} (h : RunIs W0 w R S bv vals s fr (pl : Int)) : placeAt S w = pl := by
  obtain ⟨_, _, _, h⟩ := h
  simp [placeAt, h.cells.s1, intOf]

set_option maxRecDepth 100000 in
set_option maxHeartbeats 8000000 in
theorem all_any (F : FnD) (hF : FnAt W0 (.agg #[bv, .int .i64 vals]) F) (hS : FnShape F) (hvs : F.values = vals) (K : Nat) (st : RunS) (pl : Int) (w : World) (h : RunIs W0 w R S bv vals st (-1) pl) (hk : st.fuel < K) (hroom : Room st) (hp0 : st.path.length + st.fuel ≤ 5000) :
    Calls Try.prog 32 #[.pointer (some ⟨R, 0, none⟩)] w fun e w' => e = .returned (.tuple #[.int .i64 (tellN wordV F K 0 (-1) st).1, .int .i64 (tellN wordV F K 0 (-1) st).2.1]) ∧ ∃ fr pl, RunIs W0 w' R S bv vals (tellN wordV F K 0 (-1) st).2.2 fr pl := by
  obtain ⟨⟨how, en, sE⟩, HRES⟩ : ∃ r, Hid (tellN wordV F K 0 (-1) st = r) := ⟨_, rfl⟩
  rw [HRES.out]
  dsimp only
  have HF : Hid (FnAt W0 (.agg #[bv, .int .i64 vals]) F) := hF
  have HSH : Hid (FnShape F) := hS
  have hv : vals ≤ 80 := by rw [← hvs]; exact hS.2.2.2.1
  have HBO : Hid (∀ (j : Nat) b, F.blocks[j]? = some b → BlockOk (F.blocks.length : Int) vals b) := by
    show ∀ (j : Nat) b, F.blocks[j]? = some b → BlockOk (F.blocks.length : Int) vals b
    rw [← hvs]; exact hS.2.2.2.2
  have HN1 : Hid (1 ≤ F.blocks.length) := hS.1
  have HH0 : Hid (RunIs W0 w R S bv vals st (-1) pl) := h
  have HROOM : Hid (Room st) := hroom
  clear hF hS h hroom
  go_enter Try.func32, Try.ntmps32
  go_wp2_with fail
  go_step3
  go_wp2_with fail
  go_step3
  go_wp2_with fail
  go_loopw [2, 3, 4] (fun hw ew nx wr => ∃ (a : Nat) (fr pl : Int) (s : RunS) (k : Nat), hw = .int .i64 0 ∧ ew = .int .i64 0 ∧ nx = .int .i64 (a : Int) ∧ a < F.blocks.length ∧ s.fuel < k ∧ Room s ∧ s.path.length + s.fuel ≤ 5000 ∧ RunIs W0 wr R S bv vals s fr pl ∧ tellN wordV F k a fr s = (how, en, sE)) (fun _ _ _ wr => fuelAt R wr)
  case atStart => exact ⟨0, -1, pl, st, K, rfl, rfl, rfl, by have := HN1.out; omega, hk, HROOM.out, hp0, HH0.out, HRES.out⟩
  case round =>
    obtain ⟨a, fr, pl2, s, k, rfl, rfl, rfl, ha, hsk, hro, hpa, hr, hte⟩ := hrel
    obtain ⟨x, hx⟩ : ∃ x, F.blocks[a]? = some x := ⟨_, List.getElem?_eq_getElem ha⟩
    have HX : Hid (F.blocks[a]? = some x) := hx
    have HR : Hid (RunIs W0 wr R S bv vals s fr pl2) := hr
    have HRO : Hid (Room s) := hro
    have HPA : Hid (s.path.length + s.fuel ≤ 5000) := hpa
    have hbo := HBO.out a x hx
    obtain ⟨k', rfl⟩ : ∃ k', k = k' + 1 := ⟨k - 1, by omega⟩
    have HTE : Hid (tellN wordV F (k' + 1) a fr s = (how, en, sE)) := hte
    have HSK : Hid (s.fuel < k' + 1) := hsk
    clear hr hx hte hro hpa hsk
    go_wp2_with fail
    refine (enter_any (W0 := W0) (S := S) (s := s) (fr := fr) (pl := pl2) F a x HF.out HX.out hbo hv (by have := HPA.out; omega) _ HR.out).mono ?_
    rintro e w1 ⟨⟨pa, np, pcap, lv, rfl, hls⟩, h1, f1⟩
    obtain ⟨la, lcap, rfl, hlm, hlc⟩ := hls
    have HF1 : Hid (fuelAt R wr = s.fuel) := fuelAt_run HR.out
    obtain ⟨nl, HNL⟩ : ∃ n, Hid (x.list.length = n) := ⟨_, rfl⟩
    rw [HNL.out] at hlc hlm ⊢
    have HLC : Hid (0 < nl → ∃ b off, la = some ⟨b, off, none⟩ ∧ 0 ≤ b ∧ ∀ i y, x.list[i]? = some y → InsAt W0 b (off + i * 5) y) := hlc
    have HR1 : Hid (RunIs W0 w1 R S bv vals (enterDo x a fr s) (a : Int) 0) := h1
    have HBO2 : Hid (BlockOk (F.blocks.length : Int) vals x) := hbo
    clear h1 f1 hlc hbo
    go_wp2_with fail
    have bx := World.alloc_heap_new w1 (.cells #[.slice pa np pcap, .slice la nl lcap, .int .i64 x.term.k, .int .i64 x.term.a, .int .i64 x.term.t, .int .i64 x.term.e] 42)
    have HR2 : Hid (RunIs W0 (w1.alloc (.cells #[.slice pa np pcap, .slice la nl lcap, .int .i64 x.term.k, .int .i64 x.term.a, .int .i64 x.term.t, .int .i64 x.term.e] 42)) R S bv vals (enterDo x a fr s) (a : Int) 0) := HR1.out.later (Bel.alloc _ _)
    have hRB : w1.heap.size ≠ R := by have := HR1.out.lt.1; omega
    have hSB : w1.heap.size ≠ S := by have := HR1.out.lt.2; omega
    generalize w1.alloc (.cells #[.slice pa np pcap, .slice la nl lcap, .int .i64 x.term.k, .int .i64 x.term.a, .int .i64 x.term.t, .int .i64 x.term.e] 42) = w2 at bx HR2 ⊢
    generalize w1.heap.size = B at bx hRB hSB ⊢
    have HBX : Hid (w2.heap[B]? = some (.cells #[.slice pa np pcap, .slice la nl lcap, .int .i64 x.term.k, .int .i64 x.term.a, .int .i64 x.term.t, .int .i64 x.term.e] 42 (0, 0))) := bx
    have HRO1 : Hid (Room (enterDo x a fr s)) := by
      have h1 := HRO.out
      have h2 := HPA.out
      show Room (enterDo x a fr s)
      refine ⟨h1.1, ?_⟩
      show (s.path ++ [(a : Int)]).length + s.fuel ≤ 5001
      rw [List.length_append, List.length_singleton]
      omega
    clear bx
    go_loopw [2] (fun hw wr => ∃ (j : Nat) (s2 : RunS), hw = .int .i64 0 ∧ j ≤ nl ∧ RunIs W0 wr R S bv vals s2 (a : Int) (j : Int) ∧ FrR R S w2 wr ∧ Room s2 ∧ s2.path.length + s2.fuel ≤ 5001 ∧ s2.fuel ≤ s.fuel ∧ placesDo wordV (x.list.drop j) s2 = blockDo wordV x a fr s) (fun _ wr => nl - placeAt S wr)
    case atStart => exact ⟨0, _, rfl, Nat.zero_le _, HR2.out, FrR.refl _ _ _, HRO1.out, HRO1.out.2, Nat.le_refl _, rfl⟩
    case round =>
      obtain ⟨j, s2, rfl, hj, hr, hf, hro, hpl, hfu, hpd⟩ := hrel
      have HR3 : Hid (RunIs W0 wr R S bv vals s2 (a : Int) (j : Int)) := hr
      have HF3 : Hid (FrR R S w2 wr) := hf
      have HRO3 : Hid (Room s2) := hro
      have HFU : Hid (s2.fuel ≤ s.fuel) := hfu
      have HPD : Hid (placesDo wordV (x.list.drop j) s2 = blockDo wordV x a fr s) := hpd
      have hbx := hf.box HBX.out hRB hSB (by decide)
      have HBX3 : Hid (wr.heap[B]? = some (.cells #[.slice pa np pcap, .slice la nl lcap, .int .i64 x.term.k, .int .i64 x.term.a, .int .i64 x.term.t, .int .i64 x.term.e] 42 (0, 0))) := hbx
      have k1 : wr.cell? ⟨B, 1, none⟩ = some (.slice la nl lcap) := by simp [World.cell?, hbx]
      obtain ⟨rv, tv, pv, h3⟩ := hr
      have c13 := h3.cells.c13
      have s1 := h3.cells.s1
      have g1 := h3.frozenS 1
      have hbel : Hid (Below W0.heap.size W0 wr) := h3.below
      have HH3 : Hid (RunAt W0 wr R S bv vals s2 (a : Int) (j : Int) rv tv pv) := h3
      clear hf hro hfu hpd hbx h3 hpl
      by_cases hlt : (j : Int) < (nl : Int)
      · obtain ⟨b, off, rfl, _, hcc⟩ := HLC.out (by omega)
        obtain ⟨y, hy⟩ : ∃ y, x.list[j]? = some y := ⟨_, List.getElem?_eq_getElem (by have := HNL.out; omega)⟩
        obtain ⟨q0, q1, q2, q3, q4⟩ := hcc j y hy
        have r0 := Bel.keeps hbel.out q0
        have r1 := Bel.keeps hbel.out q1
        have r2 := Bel.keeps hbel.out q2
        have r3 := Bel.keeps hbel.out q3
        have r4 := Bel.keeps hbel.out q4
        have HY : Hid (x.list[j]? = some y) := hy
        have HYO : Hid (placeOkV vals y = true) := HBO2.out.2.2.2.1 j y hy
        have HQ : Hid (InsAt W0 b (off + j * 5) y) := ⟨q0, q1, q2, q3, q4⟩
        clear q0 q1 q2 q3 q4 hy hcc
        have hst : (stepDo y s2).1 = 0 → Room (stepDo y s2).2 ∧ (stepDo y s2).2.fuel + 1 = s2.fuel := stepDo_room HRO3.out
        have HST : Hid ((stepDo y s2).1 = 0 → Room (stepDo y s2).2 ∧ (stepDo y s2).2.fuel + 1 = s2.fuel) := hst
        have hpy : placesDo wordV (x.list.drop j) s2 = if (stepDo y s2).1 = 0 then placesDo wordV (x.list.drop (j + 1)) (stepDo y s2).2 else stepDo y s2 := by rw [drop_at HY.out]; exact placesDo_step
        have HPY : Hid (blockDo wordV x a fr s = if (stepDo y s2).1 = 0 then placesDo wordV (x.list.drop (j + 1)) (stepDo y s2).2 else stepDo y s2) := HPD.out.symm.trans hpy
        clear hst hpy
        have hfl : s2.fuel ≤ 5000 := by have := HRO3.out.1; omega
        have htl : s2.told.length ≤ 5000 := by have := HRO3.out.1; omega
        go_wp2_with fail
        go_region_held3 (fun w' => w'.cell? ⟨R, 13, none⟩ = some (.pointer (some ⟨S, 0, none⟩)) ∧ w'.cell? ⟨S, 1, none⟩ = some (.int .i64 (j : Int)) ∧ w'.cell? ⟨B, 1, none⟩ = some (.slice (some ⟨b, off, none⟩) nl lcap)) (go_keep) (fail)
        simp only [Exit.then]
        go_at_K
        go_wp2_with fail
        go_region_held3 (fun w' => w'.cell? ⟨R, 13, none⟩ = some (.pointer (some ⟨S, 0, none⟩)) ∧ w'.cell? ⟨S, 1, none⟩ = some (.int .i64 (j : Int)) ∧ w'.cell? ⟨B, 1, none⟩ = some (.slice (some ⟨b, off, none⟩) nl lcap) ∧ w'.cell? ⟨b, off + j * 5, none⟩ = some (.int .i64 y.op) ∧ w'.cell? ⟨b, off + j * 5 + 1, none⟩ = some (.int .i64 y.d) ∧ w'.cell? ⟨b, off + j * 5 + 2, none⟩ = some (.int .i64 y.a) ∧ w'.cell? ⟨b, off + j * 5 + 3, none⟩ = some (.int .i64 y.b) ∧ w'.cell? ⟨b, off + j * 5 + 4, none⟩ = some (.int .i64 y.n)) (first | exact ⟨z13, zs1, zk1, z0, z1, z2, z3, z4⟩ | go_keep)
          (first | (go_at_call 49; refine (step_any (W0 := W0) (S := S) (bv := bv) (vals := vals) (s := s2) (fr := (a : Int)) (pl := (j : Int)) y hv HYO.out _ ⟨rv, tv, pv, by first | exact HH3.out.drew.drew | exact HH3.out.drew⟩ hfl htl).mono ?_; rintro e w4 ⟨rfl, h4, f4⟩; have HF4 : Hid (FrR R S w2 w4) := (HF3.out.trans (by first | exact (FrR.drew R S wr).trans f4 | exact (FrR.drew R S wr).trans ((FrR.drew R S _).trans f4))); have hbx4 := HF4.out.box HBX.out hRB hSB (by decide); have HR4 : Hid (RunIs W0 w4 R S bv vals (stepDo y s2).2 (a : Int) (j : Int)) := h4; obtain ⟨rv4, tv4, pv4, h5⟩ := h4; have z13 := h5.cells.c13; have zs1 := h5.cells.s1; have zf1 := h5.frozenS 1; have zk1 : w4.cell? ⟨B, 1, none⟩ = some (.slice (some ⟨b, off, none⟩) nl lcap) := (by simp [World.cell?, hbx4]); have z0 := Bel.keeps h5.below HQ.out.1; have z1 := Bel.keeps h5.below HQ.out.2.1; have z2 := Bel.keeps h5.below HQ.out.2.2.1; have z3 := Bel.keeps h5.below HQ.out.2.2.2.1; have z4 := Bel.keeps h5.below HQ.out.2.2.2.2; have HH4 : Hid (RunAt W0 w4 R S bv vals (stepDo y s2).2 (a : Int) (j : Int) rv4 tv4 pv4) := h5; clear h5 f4 hbx4))
        simp only [Exit.then]
        go_at_K
        obtain ⟨hq, HHQ⟩ : ∃ q, Hid ((stepDo y s2).1 = q) := ⟨_, rfl⟩
        rw [HHQ.out]
        by_cases hq0 : hq = 0
        · subst hq0
          obtain ⟨hro4, hfu4⟩ := HST.out HHQ.out
          have HRO4 : Hid (Room (stepDo y s2).2) := hro4
          have HFU4 : Hid ((stepDo y s2).2.fuel + 1 = s2.fuel) := hfu4
          clear hro4 hfu4
          go_wp2_with fail
          go_roundw
          case rel =>
            refine ⟨j + 1, (stepDo y s2).2, rfl, by omega, ⟨rv4, tv4, pv4, ?_⟩, HF4.out.trans (FrR.setS R S 1 _ w4), HRO4.out, HRO4.out.2, by have := HFU.out; have := HFU4.out; omega, ?_⟩
            · have e : ((j + 1 : Nat) : Int) = (j : Int) + 1 := by omega
              rw [e]
              exact HH4.out.setPlace _
            · rw [HPY.out, if_pos HHQ.out]
          case measure =>
            have e1 : placeAt S (w4.setCell ⟨S, 1, none⟩ (.int .i64 ((j : Int) + 1))) = j + 1 := by
              have e : ((j + 1 : Nat) : Int) = (j : Int) + 1 := by omega
              have h9 := HH4.out.setPlace ((j + 1 : Nat) : Int)
              rw [e] at h9
              have h8 : RunIs W0 (w4.setCell ⟨S, 1, none⟩ (.int .i64 ((j : Int) + 1))) R S bv vals (stepDo y s2).2 (a : Int) ((j + 1 : Nat) : Int) := by rw [e]; exact ⟨_, _, _, h9⟩
              exact placeAt_run h8
            have e2 := placeAt_run HR3.out
            rw [e1, e2]
            omega
        · have hq1 : (hq == 0) = false := by simp [hq0]
          go_wp2_with fail
          simp only [Exit.noGoto_ret]
          refine bodyPost_ret (v := .tuple #[.int .i64 hq, .int .i64 0]) (by simp [results, Try.results32, go_sem]) rfl ?_
          have hb : blockDo wordV x a fr s = stepDo y s2 := by rw [HPY.out, if_neg (by rw [HHQ.out]; exact hq0)]
          have ht := HTE.out
          rw [tellN_succ _ _ _ _ _ _ HX.out, hb, if_pos (by rw [HHQ.out]; exact hq0)] at ht
          simp only [Prod.mk.injEq] at ht
          obtain ⟨t1, t2, t3⟩ := ht
          rw [← t1, ← t2, ← t3, HHQ.out]
          exact ⟨rfl, _, _, HR4.out⟩
      · have HBD : Hid (blockDo wordV x a fr s = (0, s2)) := by
          have h9 := HPD.out
          rw [List.drop_eq_nil_of_le (by have := HNL.out; omega)] at h9
          exact h9.symm
        go_wp2_with fail
        go_region_held3 (fun w' => w'.cell? ⟨R, 13, none⟩ = some (.pointer (some ⟨S, 0, none⟩)) ∧ w'.cell? ⟨S, 1, none⟩ = some (.int .i64 (j : Int)) ∧ w'.cell? ⟨B, 1, none⟩ = some (.slice la nl lcap)) (go_keep) (fail)
        simp only [Exit.then]
        go_at_K
        go_wp2_with fail
        by_cases hf0 : s2.fuel = 0
        · refine (burn_none (W0 := W0) (S := S) (bv := bv) (vals := vals) (s := s2) (fr := (a : Int)) (pl := (j : Int)) _ ⟨rv, tv, pv, HH3.out.drew⟩ hf0).mono ?_
          rintro e w5 ⟨rfl, hw5⟩
          subst hw5
          go_wp2_with fail
          simp only [Exit.noGoto_ret]
          refine bodyPost_ret (v := .tuple #[.int .i64 1, .int .i64 0]) (by simp [results, Try.results32, go_sem]) rfl ?_
          have ht := HTE.out
          rw [tellN_succ _ _ _ _ _ _ HX.out, HBD.out] at ht
          simp [hf0] at ht
          obtain ⟨t1, t2, t3⟩ := ht
          rw [← t1, ← t2, ← t3]
          exact ⟨rfl, _, _, ⟨rv, tv, pv, HH3.out.drew⟩⟩
        · obtain ⟨kf, hkf⟩ : ∃ kf, s2.fuel = kf + 1 := ⟨s2.fuel - 1, by omega⟩
          refine (burn_one (W0 := W0) (S := S) (bv := bv) (vals := vals) (s := s2) (fr := (a : Int)) (pl := (j : Int)) _ ⟨rv, tv, pv, HH3.out.drew⟩ hkf (by have := HRO3.out.1; omega)).mono ?_
          rintro e w5 ⟨rfl, h5, f5⟩
          have hb5 := f5.box (B := B) HBX3.out hRB hSB (by decide)
          have HR5 : Hid (RunIs W0 w5 R S bv vals { s2 with fuel := kf } (a : Int) (j : Int)) := h5
          have k2 : w5.cell? ⟨B, 2, none⟩ = some (.int .i64 x.term.k) := by simp [World.cell?, hb5]
          have k3 : w5.cell? ⟨B, 3, none⟩ = some (.int .i64 x.term.a) := by simp [World.cell?, hb5]
          have k4 : w5.cell? ⟨B, 4, none⟩ = some (.int .i64 x.term.t) := by simp [World.cell?, hb5]
          have k5 : w5.cell? ⟨B, 5, none⟩ = some (.int .i64 x.term.e) := by simp [World.cell?, hb5]
          have HKF : Hid (s2.fuel = kf + 1) := hkf
          have HTT : Hid (x.term.k ≠ 3 → tellN wordV F k' (nextDo x.term s2).toNat (a : Int) { s2 with fuel := kf } = (how, en, sE)) := fun h3 => by
            have ht := HTE.out
            rw [tellN_succ _ _ _ _ _ _ HX.out, HBD.out] at ht
            have e9 : s2.fuel - 1 = kf := by have := HKF.out; omega
            simp only [ne_eq, not_true, if_false, h3, if_neg hf0, e9] at ht
            exact ht
          have HT3 : Hid (x.term.k = 3 → (0, s2.val x.term.a, ({ s2 with fuel := kf } : RunS)) = (how, en, sE)) := fun h3 => by
            have ht := HTE.out
            rw [tellN_succ _ _ _ _ _ _ HX.out, HBD.out] at ht
            have e9 : s2.fuel - 1 = kf := by have := HKF.out; omega
            simp only [ne_eq, not_true, if_false, h3, if_true, if_neg hf0, e9] at ht
            exact ht
          have HNEW : Hid (Room { s2 with fuel := kf } ∧ s2.path.length + kf ≤ 5000 ∧ kf < k' ∧ kf < s.fuel) := by
            have h1 := HRO3.out
            have h2 := HKF.out
            have h3 := HFU.out
            have h4 := HSK.out
            unfold Room at h1
            refine ⟨⟨?_, ?_⟩, ?_, ?_, ?_⟩
            · show s2.told.length + kf ≤ 5000; omega
            · show s2.path.length + kf ≤ 5001; omega
            · omega
            · omega
            · omega
          clear h5 f5 hb5 hkf k1 c13 s1 g1
          rcases term_cases HBO2.out.2.2.2.2 with ⟨e1, e2, e3⟩ | ⟨e1, e2, e3, e4, e5, e6⟩ | ⟨e1, e2⟩
          · have HTJ := HTT.out (by rw [e1]; decide)
            have HTJ2 : Hid (tellN wordV F k' x.term.t.toNat (a : Int) { s2 with fuel := kf } = (how, en, sE)) := by
              have e9 : nextDo x.term s2 = x.term.t := by simp [nextDo, e1]
              rw [e9] at HTJ
              exact HTJ
            rw [e1] at k2
            have HE : Hid (0 ≤ x.term.t ∧ x.term.t < (F.blocks.length : Int)) := ⟨e2, e3⟩
            clear HTJ e1 e2 e3
            go_wp2_with fail
            have tx := World.alloc_heap_new w5 (.cells #[.int .i64 1, .int .i64 x.term.a, .int .i64 x.term.t, .int .i64 x.term.e] 38)
            have HR6 : Hid (RunIs W0 (w5.alloc (.cells #[.int .i64 1, .int .i64 x.term.a, .int .i64 x.term.t, .int .i64 x.term.e] 38)) R S bv vals { s2 with fuel := kf } (a : Int) (j : Int)) := HR5.out.later (Bel.alloc _ _)
            generalize w5.alloc (.cells #[.int .i64 1, .int .i64 x.term.a, .int .i64 x.term.t, .int .i64 x.term.e] 38) = w6 at tx HR6 ⊢
            generalize w5.heap.size = C at tx ⊢
            have y0 : w6.cell? ⟨C, 0, none⟩ = some (.int .i64 1) := by simp [World.cell?, tx]
            have y1 : w6.cell? ⟨C, 1, none⟩ = some (.int .i64 x.term.a) := by simp [World.cell?, tx]
            have y2 : w6.cell? ⟨C, 2, none⟩ = some (.int .i64 x.term.t) := by simp [World.cell?, tx]
            have y3 : w6.cell? ⟨C, 3, none⟩ = some (.int .i64 x.term.e) := by simp [World.cell?, tx]
            clear tx
            go_wp2_with fail
            go_roundw
            case rel =>
              refine ⟨x.term.t.toNat, (a : Int), (j : Int), { s2 with fuel := kf }, k', rfl, rfl, ?_, by have := HE.out; omega, HNEW.out.2.2.1, HNEW.out.1, HNEW.out.2.1, HR6.out, HTJ2.out⟩
              rw [Int.toNat_of_nonneg HE.out.1]
            case measure =>
              rw [fuelAt_run HR6.out, HF1.out]
              exact HNEW.out.2.2.2
          · obtain ⟨an, han, han8⟩ := val_nat e6 hv
            have HTJ := HTT.out (by rw [e1]; decide)
            have HTJ2 : Hid (tellN wordV F k' (if s2.vals an = 0 then x.term.e else x.term.t).toNat (a : Int) { s2 with fuel := kf } = (how, en, sE)) := by
              have e9 : nextDo x.term s2 = if s2.vals an = 0 then x.term.e else x.term.t := by
                simp only [nextDo, e1, RunS.val, han, Int.toNat_natCast, true_and]
              rw [e9] at HTJ
              exact HTJ
            rw [e1] at k2
            rw [han] at k3
            clear han
            have HE : Hid (0 ≤ (if s2.vals an = 0 then x.term.e else x.term.t) ∧ (if s2.vals an = 0 then x.term.e else x.term.t) < (F.blocks.length : Int)) := by
              show _ ∧ _
              split
              · exact ⟨e4, e5⟩
              · exact ⟨e2, e3⟩
            clear HTJ e1 e2 e3 e4 e5 e6
            go_wp2_with fail
            have tx := World.alloc_heap_new w5 (.cells #[.int .i64 2, .int .i64 (an : Int), .int .i64 x.term.t, .int .i64 x.term.e] 38)
            have HR6 : Hid (RunIs W0 (w5.alloc (.cells #[.int .i64 2, .int .i64 (an : Int), .int .i64 x.term.t, .int .i64 x.term.e] 38)) R S bv vals { s2 with fuel := kf } (a : Int) (j : Int)) := HR5.out.later (Bel.alloc _ _)
            generalize w5.alloc (.cells #[.int .i64 2, .int .i64 (an : Int), .int .i64 x.term.t, .int .i64 x.term.e] 38) = w6 at tx HR6 ⊢
            generalize w5.heap.size = C at tx ⊢
            have y0 : w6.cell? ⟨C, 0, none⟩ = some (.int .i64 2) := by simp [World.cell?, tx]
            have y1 : w6.cell? ⟨C, 1, none⟩ = some (.int .i64 (an : Int)) := by simp [World.cell?, tx]
            have y2 : w6.cell? ⟨C, 2, none⟩ = some (.int .i64 x.term.t) := by simp [World.cell?, tx]
            have y3 : w6.cell? ⟨C, 3, none⟩ = some (.int .i64 x.term.e) := by simp [World.cell?, tx]
            clear tx
            go_wp2_with fail
            refine (choose_any (W0 := W0) (S := S) (bv := bv) (vals := vals) (s := { s2 with fuel := kf }) (fr := (a : Int)) (pl := (j : Int)) 2 (an : Int) x.term.t x.term.e an rfl han8 _ HR6.out).mono ?_
            rintro e w7 ⟨rfl, b7⟩
            have HR7 : Hid (RunIs W0 w7 R S bv vals { s2 with fuel := kf } (a : Int) (j : Int)) := HR6.out.later b7
            obtain ⟨nx, HNX⟩ : ∃ q, Hid ((if s2.vals an = 0 then x.term.e else x.term.t) = q) := ⟨_, rfl⟩
            have HNX2 : Hid ((if ({ s2 with fuel := kf } : RunS).vals an = 0 then x.term.e else x.term.t) = nx) := HNX.out
            rw [HNX2.out]
            rw [HNX.out] at HE HTJ2
            clear b7 HNX2
            go_wp2_with fail
            go_roundw
            case rel =>
              refine ⟨nx.toNat, (a : Int), (j : Int), { s2 with fuel := kf }, k', rfl, rfl, ?_, by have := HE.out; omega, HNEW.out.2.2.1, HNEW.out.1, HNEW.out.2.1, HR7.out, HTJ2.out⟩
              rw [Int.toNat_of_nonneg HE.out.1]
            case measure =>
              rw [fuelAt_run HR7.out, HF1.out]
              exact HNEW.out.2.2.2
          · obtain ⟨an, han, han8⟩ := val_nat e2 hv
            have HTB : Hid ((0, s2.vals an, ({ s2 with fuel := kf } : RunS)) = (how, en, sE)) := by
              have h9 := HT3.out e1
              have e9 : s2.val x.term.a = s2.vals an := by simp [RunS.val, han]
              rw [e9] at h9
              exact h9
            rw [e1] at k2
            rw [han] at k3
            clear han
            clear e1 e2
            go_wp2_with fail
            have tx := World.alloc_heap_new w5 (.cells #[.int .i64 3, .int .i64 (an : Int), .int .i64 x.term.t, .int .i64 x.term.e] 38)
            have HR6 : Hid (RunIs W0 (w5.alloc (.cells #[.int .i64 3, .int .i64 (an : Int), .int .i64 x.term.t, .int .i64 x.term.e] 38)) R S bv vals { s2 with fuel := kf } (a : Int) (j : Int)) := HR5.out.later (Bel.alloc _ _)
            generalize w5.alloc (.cells #[.int .i64 3, .int .i64 (an : Int), .int .i64 x.term.t, .int .i64 x.term.e] 38) = w6 at tx HR6 ⊢
            generalize w5.heap.size = C at tx ⊢
            have y0 : w6.cell? ⟨C, 0, none⟩ = some (.int .i64 3) := by simp [World.cell?, tx]
            have y1 : w6.cell? ⟨C, 1, none⟩ = some (.int .i64 (an : Int)) := by simp [World.cell?, tx]
            have y2 : w6.cell? ⟨C, 2, none⟩ = some (.int .i64 x.term.t) := by simp [World.cell?, tx]
            have y3 : w6.cell? ⟨C, 3, none⟩ = some (.int .i64 x.term.e) := by simp [World.cell?, tx]
            clear tx
            obtain ⟨rv6, tv6, pv6, h6⟩ := HR6.out
            have cv := h6.cells.cv an han8
            obtain ⟨yv, HYV⟩ : ∃ q, Hid (s2.vals an = q) := ⟨_, rfl⟩
            simp only [HYV.out] at cv
            have han2 : (an : Int) < 80 := by omega
            clear h6
            go_wp2_with fail
            go_region_held3 (fun w' => w'.cell? ⟨C, 1, none⟩ = some (.int .i64 (an : Int)) ∧ w'.cell? ⟨R, 14 + an, none⟩ = some (.int .i64 yv)) (go_keep) (fail)
            simp only [Exit.then]
            go_at_K
            go_wp2_with fail
            simp only [Exit.noGoto_ret]
            refine bodyPost_ret (v := .tuple #[.int .i64 0, .int .i64 yv]) (by simp [results, Try.results32, go_sem]) rfl ?_
            have ht := HTB.out
            rw [HYV.out] at ht
            simp only [Prod.mk.injEq] at ht
            obtain ⟨t1, t2, t3⟩ := ht
            rw [← t1, ← t2, ← t3]
            exact ⟨rfl, _, _, HR6.out.later (Below.refl _ _).drew⟩
end
end Go.Proofs.Ytkpddakmcnknjaa
