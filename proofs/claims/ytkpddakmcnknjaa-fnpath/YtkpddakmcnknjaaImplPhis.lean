/- The phis of a block are done at once: the program's phis and enter. -/
import Derived.Test.YtkpddakmcnknjaaImplStep
namespace Go.Proofs.Ytkpddakmcnknjaa
open Go.ChangeShapes Go.WideShapes Go.ChangeAt Go.RowKit Go.Shelf
set_option linter.unusedVariables false

/-- The cells of the values. -/
def valsC (f : Nat → Int) : List Value := (List.range 80).map (fun i => Value.int .i64 (f i))
theorem valsC_len (f : Nat → Int) : (valsC f).length = 80 := by simp [valsC]
theorem valsC_at (f : Nat → Int) {i : Nat} (h : i < 80) : (valsC f)[i]? = some (.int .i64 (f i)) := by simp [valsC, h]
theorem valsC_one (f : Nat → Int) : ∀ v ∈ valsC f, v.oneCell' = true := by
  intro v hv
  obtain ⟨a, _, rfl⟩ := List.mem_map.1 hv
  rfl
theorem RunCells.range {w : World} {R S : Nat} {bv : Value} {vals : Int} {vs cs : Nat → Int} {fuel fr pl : Int} {rv tv pv : Value} (h : RunCells w R S bv vals vs cs fuel fr pl rv tv pv) : w.rangeAt R 14 (valsC vs) := fun j v hv => by
  have hj : j < 80 := by have := (List.getElem?_eq_some_iff.1 hv).1; rw [valsC_len] at this; exact this
  rw [valsC_at _ hj] at hv
  cases hv
  exact h.cv j hj
theorem info_vals : (Try.prog.info? 63).map (·.size) = some 80 := by kernel_rfl
theorem zeroCells_vals : Try.zeroCells63 = (valsC (fun _ => 0)).toArray := by kernel_rfl

theorem armsDo_snoc (fr : Int) (before : Nat → Int) (d : Int) (l : List ArmD) (a : ArmD) (v : Nat → Int) : armsDo fr before d (l ++ [a]) v = if a.fr = fr then updN (armsDo fr before d l v) d.toNat (before a.v.toNat) else armsDo fr before d l v := by simp [armsDo]
theorem phisDo_snoc (fr : Int) (before : Nat → Int) (l : List PhiD) (p : PhiD) (v : Nat → Int) : phisDo fr before (l ++ [p]) v = armsDo fr before p.d p.arms (phisDo fr before l v) := by simp [phisDo]
theorem take_snoc {α : Type} {l : List α} {k : Nat} {x : α} (h : l[k]? = some x) : l.take (k + 1) = l.take k ++ [x] := by rw [List.take_add_one, h]; rfl

section
variable {W0 : World} {R S : Nat} {bv : Value} {vals : Int} {s : RunS} {fr pl : Int}

set_option maxRecDepth 100000 in
set_option maxHeartbeats 4000000 in
theorem phis_any (nb : Int) (lv : Value) (ps : List PhiD) (hv : vals ≤ 80) (hps : ListAt 0 2 (PhiAt 0) W0 lv ps) (hok : ∀ (j : Nat) p, ps[j]? = some p → PhiOk nb vals p) (w : World) (h : RunIs W0 w R S bv vals s fr pl) :
    Calls Try.prog 73 #[.pointer (some ⟨R, 0, none⟩), lv] w fun e w' => (∃ v, e = .returned v) ∧ RunTo W0 R S bv vals fr pl w { s with vals := phisDo fr s.vals ps s.vals } w' := by
  obtain ⟨a0, cap, rfl, hm, hc⟩ := hps
  obtain ⟨n, HN⟩ : ∃ n, Hid (ps.length = n) := ⟨_, rfl⟩
  rw [HN.out] at hm hc ⊢
  have HC : Hid (0 < n → ∃ b off, a0 = some ⟨b, off, none⟩ ∧ 0 ≤ b ∧ ∀ i x, ps[i]? = some x → PhiAt 0 W0 b (off + i * 2) x) := hc
  have HOK : Hid (∀ (j : Nat) p, ps[j]? = some p → PhiOk nb vals p) := hok
  have HH0 : Hid (RunIs W0 w R S bv vals s fr pl) := h
  obtain ⟨rv, tv, pv, h0⟩ := h
  have hrange := h0.cells.range
  have hRl := h0.cells.lt.1
  have hSl := h0.cells.lt.2
  obtain ⟨c', hc'⟩ : ∃ c', (valsC s.vals).toArray = c' := ⟨_, rfl⟩
  have hcs' : c'.size = 80 := by rw [← hc']; simp [valsC_len]
  have H1 : Hid (c'.all (·.oneCell') = true) := by
    show c'.all (·.oneCell') = true
    rw [← hc']; exact all_oneCell_toArray (valsC_one _)
  have HC' : Hid ((valsC s.vals).toArray = c') := hc'
  clear hc hok h0 hc'
  go_enter Try.func73, Try.ntmps73
  go_wp2_with (first
    | (refine wpList_load_mid rfl 63 _ rfl R 14 rfl (valsC s.vals) _ hrange Try.underlying63 rfl (by rw [valsC_len]; exact info_vals) ?_; rw [HC'.out])
    | refine wpList_store_row rfl 63 _ _ rfl w.heap.size _ c' _ rfl rfl (heap_last rfl) (by rw [hcs']; exact info_vals) (by rw [hcs']; rfl) H1.out ?_)
  have hw1 : Below w.heap.size w ((w.alloc (.cells Try.zeroCells63 63)).setRow w.heap.size c') := below_setRow (Bel.alloc w _) (Nat.le_refl _) _
  have hx1 : ((w.alloc (.cells Try.zeroCells63 63)).setRow w.heap.size c').heap[w.heap.size]? = some (.cells c' 63 (0, 0)) := setRow_heap _ _ _ _ _ _ (heap_last rfl)
  generalize (w.alloc (.cells Try.zeroCells63 63)).setRow w.heap.size c' = w1 at hw1 hx1 ⊢
  have hRB : R ≠ w.heap.size := by omega
  have hSB : S ≠ w.heap.size := by omega
  have HF1 : Hid (FrR R S w w1) := FrR.ofBelow hw1
  have HH1 : Hid (RunIs W0 w1 R S bv vals s fr pl) := HH0.out.later hw1
  have HX1 : Hid (w1.heap[w.heap.size]? = some (.cells c' 63 (0, 0))) := hx1
  have HBC : Hid (∀ W, FrR R S w1 W → ∀ i, i < 80 → W.cell? ⟨w.heap.size, i, none⟩ = some (.int .i64 (s.vals i))) := fun W hW i hi => by
    have hb := hW.box HX1.out (fun e => hRB e.symm) (fun e => hSB e.symm) (by decide)
    have : c'[i]? = some (.int .i64 (s.vals i)) := by rw [← HC'.out]; simpa using valsC_at s.vals hi
    simp [World.cell?, hb, this]
  generalize w.heap.size = B at *
  clear hw1 hx1 hrange hRl hSl
  go_loopw [15] (fun i wr => ∃ k : Nat, k ≤ n ∧ i = .int .i64 k ∧ RunIs W0 wr R S bv vals { s with vals := phisDo fr s.vals (ps.take k) s.vals } fr pl ∧ FrR R S w1 wr) (fun i _ => n - (intOf i).toNat)
  case atStart => exact ⟨0, Nat.zero_le _, rfl, HH1.out, FrR.refl _ _ _⟩
  case round =>
    obtain ⟨k, hk, rfl, hr, hfr⟩ := hrel
    have HR : Hid (RunIs W0 wr R S bv vals { s with vals := phisDo fr s.vals (ps.take k) s.vals } fr pl) := hr
    have HFR : Hid (FrR R S w1 wr) := hfr
    clear hr hfr
    by_cases hlt2 : (k : Int) < (n : Int)
    · obtain ⟨b, off, rfl, _, hcc⟩ := HC.out (by omega)
      obtain ⟨p, hpk⟩ : ∃ p, ps[k]? = some p := ⟨_, List.getElem?_eq_getElem (by have := HN.out; omega)⟩
      obtain ⟨q1, av, q2, hav⟩ := hcc k p hpk
      have hpo := HOK.out k p hpk
      obtain ⟨aa, acap, rfl, ham, hac⟩ := hav
      obtain ⟨pd, arms⟩ := p
      dsimp only at q1 q2 ham hac hpo
      obtain ⟨m, HM⟩ : ∃ m, Hid (arms.length = m) := ⟨_, rfl⟩
      rw [HM.out] at ham hac q2
      obtain ⟨dn, rfl, hdn⟩ := val_nat hpo.1 hv
      have HA : Hid (0 < m → ∃ b off, aa = some ⟨b, off, none⟩ ∧ 0 ≤ b ∧ ∀ i x, arms[i]? = some x → ArmAt W0 b (off + i * 2) x) := hac
      have HAO : Hid (ArmsOk nb vals arms arms.length) := hpo.2.2
      have HPK : Hid (ps[k]? = some ⟨(dn : Int), arms⟩) := hpk
      have hbel : Below W0.heap.size W0 wr := by obtain ⟨_, _, _, h⟩ := HR.out; exact h.below
      have r1 := Bel.keeps hbel q1
      have r2 := Bel.keeps hbel q2
      have hdn2 : (dn : Int) < 80 := by omega
      clear q1 q2 hac hpo hpk hcc hbel
      go_wp2_with fail
      have bx := World.alloc_heap_new wr (.cells #[.int .i64 (dn : Int), .slice aa m acap] 99)
      have HR2 : Hid (RunIs W0 (wr.alloc (.cells #[.int .i64 (dn : Int), .slice aa m acap] 99)) R S bv vals { s with vals := phisDo fr s.vals (ps.take k) s.vals } fr pl) := HR.out.later (Bel.alloc _ _)
      have HF2 : Hid (FrR R S w1 (wr.alloc (.cells #[.int .i64 (dn : Int), .slice aa m acap] 99))) := HFR.out.trans (FrR.ofBelow (Bel.alloc _ _))
      have hRC : wr.heap.size ≠ R := by have := HR.out.lt.1; omega
      have hSC : wr.heap.size ≠ S := by have := HR.out.lt.2; omega
      generalize wr.alloc (.cells #[.int .i64 (dn : Int), .slice aa m acap] 99) = w2 at bx HR2 HF2 ⊢
      generalize wr.heap.size = C at bx hRC hSC ⊢
      have HBX : Hid (w2.heap[C]? = some (.cells #[.int .i64 (dn : Int), .slice aa m acap] 99 (0, 0))) := bx
      clear bx r1 r2 HR HFR
      go_loopw [22] (fun i wr => ∃ j : Nat, j ≤ m ∧ i = .int .i64 j ∧ RunIs W0 wr R S bv vals { s with vals := armsDo fr s.vals (dn : Int) (arms.take j) (phisDo fr s.vals (ps.take k) s.vals) } fr pl ∧ FrR R S w2 wr) (fun i _ => m - (intOf i).toNat)
      case atStart => exact ⟨0, Nat.zero_le _, rfl, HR2.out, FrR.refl _ _ _⟩
      case round =>
        obtain ⟨j, hj, rfl, hr, hfr⟩ := hrel
        have HR : Hid (RunIs W0 wr R S bv vals { s with vals := armsDo fr s.vals (dn : Int) (arms.take j) (phisDo fr s.vals (ps.take k) s.vals) } fr pl) := hr
        have HFR : Hid (FrR R S w2 wr) := hfr
        clear hr hfr
        by_cases hlt3 : (j : Int) < (m : Int)
        · obtain ⟨ab, aoff, rfl, _, hcc⟩ := HA.out (by omega)
          obtain ⟨x, hxk⟩ : ∃ x, arms[j]? = some x := ⟨_, List.getElem?_eq_getElem (by have := HM.out; omega)⟩
          obtain ⟨q1, q2⟩ := hcc j x hxk
          have hao := HAO.out j x (by have := HM.out; omega) hxk
          obtain ⟨af, xv⟩ := x
          dsimp only at q1 q2 hao
          obtain ⟨vn, rfl, hvn⟩ := val_nat hao.2.1 hv
          have HXK : Hid (arms[j]? = some ⟨af, (vn : Int)⟩) := hxk
          have hbel : Below W0.heap.size W0 wr := by obtain ⟨_, _, _, h⟩ := HR.out; exact h.below
          have r1 := Bel.keeps hbel q1
          have r2 := Bel.keeps hbel q2
          have hvn2 : (vn : Int) < 80 := by omega
          clear q1 q2 hao hxk hcc hbel
          go_wp2_with fail
          have bx := World.alloc_heap_new wr (.cells #[.int .i64 af, .int .i64 (vn : Int)] 148)
          obtain ⟨x0, x1⟩ := box2 wr (.int .i64 af) (.int .i64 (vn : Int)) 148
          have hr3 := HR.out.later (Bel.alloc wr (.cells #[.int .i64 af, .int .i64 (vn : Int)] 148))
          have hf3 := HFR.out.trans (FrR.ofBelow (R := R) (S := S) (Bel.alloc wr (.cells #[.int .i64 af, .int .i64 (vn : Int)] 148)))
          have hRD : R ≠ wr.heap.size := by have := HR.out.lt.1; omega
          generalize wr.alloc (.cells #[.int .i64 af, .int .i64 (vn : Int)] 148) = w3 at bx x0 x1 hr3 hf3 ⊢
          generalize wr.heap.size = D at bx x0 x1 hRD ⊢
          have hbx := hf3.box HBX.out hRC hSC (by decide)
          have y0 : w3.cell? ⟨C, 0, none⟩ = some (.int .i64 (dn : Int)) := by simp [World.cell?, hbx]
          have z0 := HBC.out w3 (HF2.out.trans hf3) vn hvn
          obtain ⟨zv, HZV⟩ : ∃ z, Hid (s.vals vn = z) := ⟨_, rfl⟩
          rw [HZV.out] at z0
          have HF3 : Hid (FrR R S w2 w3) := hf3
          obtain ⟨rv2, tv2, pv2, h3⟩ := hr3
          have g13 := h3.cells.c13
          have gs0 := h3.cells.s0
          have gv := h3.cells.cv dn hdn
          have fz := h3.frozen (14 + dn)
          obtain ⟨gz, HGZ⟩ : ∃ z, Hid (({ s with vals := armsDo fr s.vals (dn : Int) (arms.take j) (phisDo fr s.vals (ps.take k) s.vals) } : RunS).vals dn = z) := ⟨_, rfl⟩
          rw [HGZ.out] at gv
          have HH3 : Hid (RunAt W0 w3 R S bv vals { s with vals := armsDo fr s.vals (dn : Int) (arms.take j) (phisDo fr s.vals (ps.take k) s.vals) } fr pl rv2 tv2 pv2) := h3
          clear bx hf3 h3 hbx
          by_cases hfe : af = fr
          · subst hfe
            go_region_held3 (fun w' => w'.cell? ⟨D, 0, none⟩ = some (.int .i64 af) ∧ w'.cell? ⟨R, 13, none⟩ = some (.pointer (some ⟨S, 0, none⟩)) ∧ w'.cell? ⟨S, 0, none⟩ = some (.int .i64 af)) (go_keep) (fail)
            simp only [Exit.then]
            go_at_K
            go_wp2_with fail
            go_region_held3 (fun w' => w'.cell? ⟨C, 0, none⟩ = some (.int .i64 (dn : Int)) ∧ w'.cell? ⟨D, 1, none⟩ = some (.int .i64 (vn : Int)) ∧ w'.cell? ⟨B, vn, none⟩ = some (.int .i64 zv)) (first | exact ⟨far_block y0 (fun e => hRC e.symm), far_block x1 hRD, far_block z0 hRB⟩ | go_keep) (fail)
            simp only [Exit.inBlock, Exit.then]
            go_at_K
            go_wp2_with fail
            go_roundw
            case rel =>
              refine ⟨j + 1, by omega, by go_num, ⟨rv2, tv2, pv2, ?_⟩, ?_⟩
              · have e : armsDo af s.vals (dn : Int) (arms.take (j + 1)) (phisDo af s.vals (ps.take k) s.vals) = updN (armsDo af s.vals (dn : Int) (arms.take j) (phisDo af s.vals (ps.take k) s.vals)) dn zv := by
                  rw [take_snoc HXK.out, armsDo_snoc, if_pos rfl]
                  have e2 : s.vals ((vn : Int)).toNat = zv := by simpa using HZV.out
                  have e3 : ((dn : Int)).toNat = dn := by simp
                  rw [e2, e3]
                rw [e]
                first | exact (HH3.out.setVal hdn zv).drew.drew | exact (HH3.out.setVal hdn zv).drew | exact HH3.out.setVal hdn zv
              · refine HF3.out.trans ((FrR.setR R S (14 + dn) (.int .i64 zv) w3).trans ?_)
                first | exact FrR.refl _ _ _ | exact FrR.drew _ _ _ | exact (FrR.drew _ _ _).trans (FrR.drew _ _ _)
            case measure => simp [intOf]; omega
          · have hfe2 : (af == fr) = false := by simp [hfe]
            go_region_held3 (fun w' => w'.cell? ⟨D, 0, none⟩ = some (.int .i64 af) ∧ w'.cell? ⟨R, 13, none⟩ = some (.pointer (some ⟨S, 0, none⟩)) ∧ w'.cell? ⟨S, 0, none⟩ = some (.int .i64 fr)) (go_keep) (fail)
            simp only [Exit.then]
            go_at_K
            go_wp2_with fail
            go_roundw
            case rel =>
              refine ⟨j + 1, by omega, by go_num, ⟨rv2, tv2, pv2, ?_⟩, ?_⟩
              · have e : armsDo fr s.vals (dn : Int) (arms.take (j + 1)) (phisDo fr s.vals (ps.take k) s.vals) = armsDo fr s.vals (dn : Int) (arms.take j) (phisDo fr s.vals (ps.take k) s.vals) := by
                  rw [take_snoc HXK.out, armsDo_snoc, if_neg hfe]
                rw [e]
                first | exact HH3.out.drew | exact HH3.out
              · refine HF3.out.trans ?_
                first | exact FrR.refl _ _ _ | exact FrR.drew _ _ _
            case measure => simp [intOf]; omega
        · have hjm : j = m := by omega
          subst hjm
          go_wp2_with fail
          go_roundw
          case rel =>
            refine ⟨k + 1, by omega, by go_num, ?_, HF2.out.trans HFR.out⟩
            have e : arms.take j = arms := List.take_of_length_le (by have := HM.out; omega)
            have h4 := HR.out
            rw [e] at h4
            rw [take_snoc HPK.out, phisDo_snoc]
            exact h4
          case measure => simp [intOf]; omega
    · have hkn : k = n := by omega
      subst hkn
      go_wp2_with fail
      go_end0
      refine ⟨⟨_, rfl⟩, ?_, HF1.out.trans HFR.out⟩
      have e : ps.take k = ps := List.take_of_length_le (by have := HN.out; omega)
      have := HR.out
      rw [e] at this
      exact this

theorem RunAt.far {w : World} {rv tv pv : Value} (h : RunAt W0 w R S bv vals s fr pl rv tv pv) {A o : Nat} {t : TypeId} {v : Value} (hA : ∃ c, w.heap[A]? = some (.cells c t (0, 0))) (ht : t ≠ 3) (hR : R ≠ A) (hS : S ≠ A) (hlo : W0.heap.size ≤ A) : RunAt W0 (w.setCell ⟨A, o, none⟩ v) R S bv vals s fr pl rv tv pv :=
  ⟨h.cells.moved (heap_setCell_other _ _ _ _ hR) (heap_setCell_other _ _ _ _ hS), h.reads, own_far h.told hA ht, own_far h.path hA ht, h.apart, h.below.setCell (p := ⟨A, o, none⟩) hlo _, h.hR, h.hS⟩
theorem FrR.new {w x : World} (h : FrR R S w x) {A o : Nat} {v : Value} (hA : w.heap.size ≤ A) : FrR R S w (x.setCell ⟨A, o, none⟩ v) :=
  ⟨by simpa using h.size, fun k ob hk h1 h2 h3 => by
    have := (Array.getElem?_eq_some_iff.1 hk).1
    rw [heap_setCell_other _ _ _ _ (by show k ≠ A; omega)]
    exact h.block k ob hk h1 h2 h3⟩

set_option maxRecDepth 100000 in
set_option maxHeartbeats 4000000 in
theorem enter_any (F : FnD) (bn : Nat) (x : BlockD) (hF : FnAt W0 (.agg #[bv, .int .i64 vals]) F) (hx : F.blocks[bn]? = some x) (hok : BlockOk (F.blocks.length : Int) vals x) (hv : vals ≤ 80) (hl : s.path.length ≤ 5000) (w : World) (h : RunIs W0 w R S bv vals s fr pl) :
    Calls Try.prog 48 #[.pointer (some ⟨R, 0, none⟩), .int .i64 (bn : Int)] w fun e w' => (∃ pa np pcap lv, e = .returned (.agg #[.slice pa np pcap, lv, .int .i64 x.term.k, .int .i64 x.term.a, .int .i64 x.term.t, .int .i64 x.term.e]) ∧ ListAt 0 5 InsAt W0 lv x.list) ∧ RunTo W0 R S bv vals (bn : Int) 0 w (enterDo x bn fr s) w' := by
  obtain ⟨bv', he, ba, bcap, hbv, hm, hc⟩ := hF
  have ebv : bv = .slice ba F.blocks.length bcap := by
    have : bv = bv' := by simp at he; exact he.1
    rw [this]; exact hbv
  clear he hbv
  subst ebv
  have hbl : bn < F.blocks.length := (List.getElem?_eq_some_iff.1 hx).1
  obtain ⟨b, off, rfl, _, hel⟩ := hc (by omega)
  obtain ⟨pv, lv, b0, b1, b2, b3, b4, b5, hps, hls⟩ := hel bn x hx
  obtain ⟨pa, pcap, rfl, hpm, hpc⟩ := id hps
  obtain ⟨la, lcap, rfl, hlm, hlc⟩ := id hls
  obtain ⟨ps, ls, tk, ta, tt, te⟩ := x
  dsimp only at b0 b1 b2 b3 b4 b5 hps hls hok ⊢
  have HPS : Hid (ListAt 0 2 (PhiAt 0) W0 (.slice pa ps.length pcap) ps) := hps
  have HLS : Hid (ListAt 0 5 InsAt W0 (.slice la ls.length lcap) ls) := hls
  have HOK : Hid (∀ (j : Nat) p, ps[j]? = some p → PhiOk (F.blocks.length : Int) vals p) := hok.2.2.1
  have HH0 : Hid (RunIs W0 w R S (.slice (some ⟨b, off, none⟩) F.blocks.length bcap) vals s fr pl) := h
  obtain ⟨rv, tv, qv, h0⟩ := h
  have c11 := h0.cells.c11
  have hRl := h0.cells.lt.1
  have hSl := h0.cells.lt.2
  have hW0 := h0.below.size
  have d0 := Bel.keeps h0.below b0
  have d1 := Bel.keeps h0.below b1
  have d2 := Bel.keeps h0.below b2
  have d3 := Bel.keeps h0.below b3
  have d4 := Bel.keeps h0.below b4
  have d5 := Bel.keeps h0.below b5
  obtain ⟨n, HN⟩ : ∃ n, Hid (F.blocks.length = n) := ⟨_, rfl⟩
  obtain ⟨np, HNP⟩ : ∃ n, Hid (ps.length = n) := ⟨_, rfl⟩
  obtain ⟨nl, HNL⟩ : ∃ n, Hid (ls.length = n) := ⟨_, rfl⟩
  rw [HN.out] at HH0 c11 hbl
  rw [HNP.out] at HPS d0
  rw [HNL.out] at HLS d1
  have hbl2 : (bn : Int) < (n : Int) := by omega
  have hb2 : b < w.heap.size := World.block_lt_of_cell? w _ d0
  obtain ⟨i0, hi, hz0, hz1, hz2⟩ := info_parts info_int
  have hmx : 100000 ≤ maxLen := by decide
  clear h0 hc hel hps hls hpc hlc b0 b1 b2 b3 b4 b5 hok hx
  rw [HN.out]
  go_enter Try.func48, Try.ntmps48
  go_wp2_with fail
  have hb12 : Below w.heap.size w ((w.alloc (.cells #[.slice none 0 0, .slice none 0 0, .int .i64 0, .int .i64 0, .int .i64 0, .int .i64 0] 42)).alloc (.cells #[.slice pa np pcap, .slice la nl lcap, .int .i64 tk, .int .i64 ta, .int .i64 tt, .int .i64 te] 42)) := by repeat (first | exact Below.refl _ _ | apply Below.drew | refine Below.alloc ?_ (by simp <;> omega) _ | refine Below.setCell ?_ (by simp <;> omega) _)
  refine (phis_any (W0 := W0) (S := S) (s := s) (fr := fr) (pl := pl) (F.blocks.length : Int) _ ps hv HPS.out HOK.out _ (HH0.out.later hb12)).mono ?_
  rintro e w3 ⟨⟨v3, rfl⟩, h3, f3⟩
  have bxA := f3.box (B := w.heap.size) ((Below.heap_alloc _ _ _ (by simp)).trans (World.alloc_heap_new w _)) (by omega) (by omega) (by decide)
  have bxB := f3.box (B := w.heap.size + 1) (heap_last (by simp)) (by omega) (by omega) (by decide)
  have HF3 : Hid (FrR R S w w3) := (FrR.ofBelow hb12).trans f3
  have hAR : R ≠ w.heap.size := by omega
  have hBR : R ≠ w.heap.size + 1 := by omega
  have hAS : S ≠ w.heap.size := by omega
  have hBS : S ≠ w.heap.size + 1 := by omega
  have hAB : w.heap.size ≠ w.heap.size + 1 := by omega
  clear f3 hb12 hRl hSl d0 d1 d2 d3 d4 d5 hb2 c11
  generalize w.heap.size + 1 = B at *
  generalize hAw : w.heap.size = A at *
  have HAw : Hid (w.heap.size ≤ A) := Nat.le_of_eq hAw
  clear hAw
  obtain ⟨rv3, tv3, qv3, h3⟩ := h3
  have c13 := h3.cells.c13
  have c94 := h3.cells.c94
  have s0 := h3.cells.s0
  have s1 := h3.cells.s1
  have g0 := h3.frozenS 0
  have g1 := h3.frozenS 1
  have hne := h3.cells.ne
  have h4 := (h3.setFrom (bn : Int)).setPlace 0
  have HH4 : Hid (RunAt W0 ((w3.setCell ⟨S, 0, none⟩ (.int .i64 (bn : Int))).setCell ⟨S, 1, none⟩ (.int .i64 0)) R S (.slice (some ⟨b, off, none⟩) n bcap) vals { s with vals := phisDo fr s.vals ps s.vals } (bn : Int) 0 rv3 tv3 qv3) := h4
  have HF4 : Hid (FrR R S w ((w3.setCell ⟨S, 0, none⟩ (.int .i64 (bn : Int))).setCell ⟨S, 1, none⟩ (.int .i64 0))) := HF3.out.trans ((FrR.setS R S 0 _ w3).trans (FrR.setS R S 1 _ _))
  have HXA : Hid (((w3.setCell ⟨S, 0, none⟩ (.int .i64 (bn : Int))).setCell ⟨S, 1, none⟩ (.int .i64 0)).heap[A]? = some (.cells #[.slice none 0 0, .slice none 0 0, .int .i64 0, .int .i64 0, .int .i64 0, .int .i64 0] 42 (0, 0))) := by
    show _ = _
    rw [heap_setCell_other _ _ _ _ (fun e => hAS e.symm), heap_setCell_other _ _ _ _ (fun e => hAS e.symm)]; exact bxA
  have HXB : Hid (((w3.setCell ⟨S, 0, none⟩ (.int .i64 (bn : Int))).setCell ⟨S, 1, none⟩ (.int .i64 0)).heap[B]? = some (.cells #[.slice pa np pcap, .slice la nl lcap, .int .i64 tk, .int .i64 ta, .int .i64 tt, .int .i64 te] 42 (0, 0))) := by
    show _ = _
    rw [heap_setCell_other _ _ _ _ (fun e => hBS e.symm), heap_setCell_other _ _ _ _ (fun e => hBS e.symm)]; exact bxB
  clear h3 h4 bxA bxB
  go_wp2_with (at_builtin; refine wpList_append_own_at _ rfl _ _ 27 rfl W0.heap.size 3 i0 (.int .i64 0) 1 8 Try.underlying27 hi hz0 hz1 hz2 rfl (by decide) _ _ _ rfl (World.ownsRow.alloc HH4.out.path _) ⟨((w3.setCell ⟨S, 0, none⟩ (.int .i64 (bn : Int))).setCell ⟨S, 1, none⟩ (.int .i64 0)).heap.size, 0, none⟩ 1 1 [.int .i64 (bn : Int)] (by simp [Act.eval]) rfl (cell_one_new _ _ _) (by simp [Value.oneCell']) (by simp only; omega) (by simp only; omega) (by have := HH4.out.below.size; simp at this ⊢; omega) ?_; intro v' wa hown' hgrow _ hat; have HAT : Hid (v'.ownBlock = qv3.ownBlock ∨ v'.ownBlock = some (((w3.setCell ⟨S, 0, none⟩ (.int .i64 (bn : Int))).setCell ⟨S, 1, none⟩ (.int .i64 0)).alloc (.cells #[.int .i64 (bn : Int)] 3)).heap.size) := hat; obtain ⟨g', cap', rfl⟩ := ownsRow_succ hown'; have HO' : Hid (OwnInts wa W0.heap.size (.slice (some ⟨g', 0, none⟩) (s.path.length + 1) cap') (s.path ++ [(bn : Int)])) := OwnInts.next hown'; have HG : Hid ((((w3.setCell ⟨S, 0, none⟩ (.int .i64 (bn : Int))).setCell ⟨S, 1, none⟩ (.int .i64 0)).alloc (.cells #[.int .i64 (bn : Int)] 3)).grownBy wa qv3.ownBlock) := hgrow; have ka := (grown_cells HH4.out HH4.out.path HG.out).1; have fa := FrR.grown (R := R) (S := S) HH4.out.path HG.out; have xa := fa.box HXA.out (fun e => hAR e.symm) (fun e => hAS e.symm) (by decide); have xb := fa.box HXB.out (fun e => hBR e.symm) (fun e => hBS e.symm) (by decide); have KA : Hid (RunCells wa R S (.slice (some ⟨b, off, none⟩) n bcap) vals (phisDo fr s.vals ps s.vals) s.cells (s.fuel : Int) (bn : Int) 0 rv3 tv3 qv3) := ka; have HFA : Hid (FrR R S w wa) := HF4.out.trans fa; have c94' := ka.c94; have f94' := frozen_of_cells ka.row 94; have HXa : Hid (wa.heap[A]? = some (.cells #[.slice none 0 0, .slice none 0 0, .int .i64 0, .int .i64 0, .int .i64 0, .int .i64 0] 42 (0, 0))) := xa; have k0 : wa.cell? ⟨B, 0, none⟩ = some (.slice pa np pcap) := (by simp [World.cell?, xb]); have k1 : wa.cell? ⟨B, 1, none⟩ = some (.slice la nl lcap) := (by simp [World.cell?, xb]); have k2 : wa.cell? ⟨B, 2, none⟩ = some (.int .i64 tk) := (by simp [World.cell?, xb]); have k3 : wa.cell? ⟨B, 3, none⟩ = some (.int .i64 ta) := (by simp [World.cell?, xb]); have k4 : wa.cell? ⟨B, 4, none⟩ = some (.int .i64 tt) := (by simp [World.cell?, xb]); have k5 : wa.cell? ⟨B, 5, none⟩ = some (.int .i64 te) := (by simp [World.cell?, xb]); have j0 : wa.cell? ⟨A, 0, none⟩ = some (.slice none 0 0) := (by simp [World.cell?, xa]); have j1 : wa.cell? ⟨A, 1, none⟩ = some (.slice none 0 0) := (by simp [World.cell?, xa]); have j2 : wa.cell? ⟨A, 2, none⟩ = some (.int .i64 0) := (by simp [World.cell?, xa]); have j3 : wa.cell? ⟨A, 3, none⟩ = some (.int .i64 0) := (by simp [World.cell?, xa]); have j4 : wa.cell? ⟨A, 4, none⟩ = some (.int .i64 0) := (by simp [World.cell?, xa]); have j5 : wa.cell? ⟨A, 5, none⟩ = some (.int .i64 0) := (by simp [World.cell?, xa]); have ja : ∀ o, wa.frozen? ⟨A, o, none⟩ = false := (fun o => frozen_of_cells ⟨_, xa⟩ o); have ja0 := ja 0; have ja1 := ja 1; have ja2 := ja 2; have ja3 := ja 3; have ja4 := ja 4; have ja5 := ja 5; clear hown' hgrow ka c94 hat fa xb xa c13 s0 s1 g0 g1 ja)
  have e0 := HXa.out
  have e1 := (heap_setCell_other wa ⟨R, 94, none⟩ A (.slice (some ⟨g', 0, none⟩) (s.path.length + 1) cap') (fun e => hAR e.symm)).trans e0
  have e2 := heap_setCell_same _ A 0 _ _ (.slice pa np pcap) e1
  have e3 := heap_setCell_same _ A 1 _ _ (.slice la nl lcap) e2
  have e4 := heap_setCell_same _ A 2 _ _ (.int .i64 tk) e3
  have e5 := heap_setCell_same _ A 3 _ _ (.int .i64 ta) e4
  have e6 := heap_setCell_same _ A 4 _ _ (.int .i64 tt) e5
  have e7 := heap_setCell_same _ A 5 _ _ (.int .i64 te) e6
  refine bodyPost_ret (v := .agg #[.slice pa np pcap, .slice la nl lcap, .int .i64 tk, .int .i64 ta, .int .i64 tt, .int .i64 te]) (row_results rfl rfl e7 Try.underlying42 rfl (by kernel_rfl)) rfl ?_
  refine ⟨⟨_, _, _, _, rfl, HLS.out⟩, ⟨rv3, tv3, .slice (some ⟨g', 0, none⟩) (s.path.length + 1) cap', ?_⟩, ?_⟩
  · have hA : RunAt W0 (wa.setCell ⟨R, 94, none⟩ (.slice (some ⟨g', 0, none⟩) (s.path.length + 1) cap')) R S (.slice (some ⟨b, off, none⟩) n bcap) vals (enterDo ⟨ps, ls, tk, ta, tt, te⟩ bn fr s) (bn : Int) 0 rv3 tv3 (.slice (some ⟨g', 0, none⟩) (s.path.length + 1) cap') :=
      ⟨KA.out.setPath _, HH4.out.reads, own_far (grown_other HH4.out.told HG.out (fun g a b => HH4.out.apart g b a)) KA.out.row (by decide), own_far HO'.out KA.out.row (by decide), fun g a b => apart_new HH4.out.told (fun g a b => HH4.out.apart g b a) HAT.out g b a, (grown_cells HH4.out HH4.out.path HG.out).2.setCell (p := ⟨R, 94, none⟩) HH4.out.hR _, HH4.out.hR, HH4.out.hS⟩
    exact (((((hA.far ⟨_, e1⟩ (by decide) hAR hAS hW0).far ⟨_, e2⟩ (by decide) hAR hAS hW0).far ⟨_, e3⟩ (by decide) hAR hAS hW0).far ⟨_, e4⟩ (by decide) hAR hAS hW0).far ⟨_, e5⟩ (by decide) hAR hAS hW0).far ⟨_, e6⟩ (by decide) hAR hAS hW0
  · exact ((((((HFA.out.trans (FrR.setR R S 94 _ wa)).new HAw.out).new HAw.out).new HAw.out).new HAw.out).new HAw.out).new HAw.out
end
end Go.Proofs.Ytkpddakmcnknjaa
