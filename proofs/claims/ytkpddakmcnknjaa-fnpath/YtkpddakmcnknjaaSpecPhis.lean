/- The phis of a block are done at once: the model's l6Phis. -/
import Derived.Test.YtkpddakmcnknjaaSpecIns
import Derived.Test.YtkpddakmcnknjaaImplPhis
namespace Go.Proofs.Ytkpddakmcnknjaa
open Go.ChangeShapes Go.WideShapes Go.ChangeAt Go.RowKit Go.Shelf
set_option linter.unusedVariables false

section
variable {W0 : World} {P vn : Nat} {s : RunS}

/-- The values while the phis are done: the run as it was, and a new row. -/
structure NowAt (W0 w : World) (P vn : Nat) (s : RunS) (vb vc cb cc : Nat) (rv : Value) (rb tb tc pb pc : Nat) (nb nc : Nat) (f : Nat → Int) : Prop where
  run : SAt W0 w P vn s vb vc cb cc rv rb tb tc pb pc
  now : OwnInts w W0.heap.size (.slice (some ⟨nb, 0, none⟩) vn nc) (listN vn f)
  n1 : nb ≠ vb
  n2 : nb ≠ cb
  n3 : nb ≠ rb
  n4 : nb ≠ tb
  n5 : nb ≠ pb
variable {w w' : World} {vb vc cb cc : Nat} {rv : Value} {rb tb tc pb pc nb nc : Nat} {f : Nat → Int}
theorem NowAt.later (h : NowAt W0 w P vn s vb vc cb cc rv rb tb tc pb pc nb nc f) (hb : Below w.heap.size w w') : NowAt W0 w' P vn s vb vc cb cc rv rb tb tc pb pc nb nc f := ⟨h.run.later hb, h.now.keep hb, h.n1, h.n2, h.n3, h.n4, h.n5⟩
theorem NowAt.set (h : NowAt W0 w P vn s vb vc cb cc rv rb tb tc pb pc nb nc f) {d : Nat} (hd : d < vn) (x : Int) : NowAt W0 (w.setCell ⟨nb, d, none⟩ (.int .i64 x)) P vn s vb vc cb cc rv rb tb tc pb pc nb nc (updN f d x) := by
  have hPn := not_row h.run.box (by decide) h.now.heapOf
  have hn := h.now.set hd x
  rw [listN_set] at hn
  exact ⟨⟨(heap_setCell_other _ _ _ _ hPn).trans h.run.box, h.run.vals.apartSet (ob_ne h.n1.symm) _, h.run.cells.apartSet (ob_ne h.n2.symm) _, h.run.reads.moved (heap_setCell_other _ _ _ _ h.n3.symm), h.run.told.apartSet (ob_ne h.n4.symm) _, h.run.path.apartSet (ob_ne h.n5.symm) _, h.run.d1, h.run.d2, h.run.d3, h.run.d4, h.run.d5, h.run.d6, h.run.d7, h.run.d8, h.run.d9, h.run.d10, h.run.below.setCell (p := ⟨nb, d, none⟩) (own_lo h.now) _, h.run.hP⟩, hn, h.n1, h.n2, h.n3, h.n4, h.n5⟩
/-- The new row takes the place of the old one. -/
theorem NowAt.swap (h : NowAt W0 w P vn s vb vc cb cc rv rb tb tc pb pc nb nc f) : SAt W0 (w.setCell ⟨P, 0, none⟩ (.slice (some ⟨nb, 0, none⟩) vn nc)) P vn { s with vals := f } nb nc cb cc rv rb tb tc pb pc := by
  obtain ⟨a1, a2, a3, a4, a5, a6⟩ := h.run.setBox 0 (.slice (some ⟨nb, 0, none⟩) vn nc)
  exact ⟨heap_setCell_same _ _ _ _ _ _ h.run.box, own_far h.now ⟨_, h.run.box⟩ (by decide), a2, a3, a4, a5, h.n2, h.n3, h.n4, h.n5, h.run.d5, h.run.d6, h.run.d7, h.run.d8, h.run.d9, h.run.d10, a6, h.run.hP⟩

theorem SAt.kept (h : SAt W0 w P vn s vb vc cb cc rv rb tb tc pb pc) {X : Nat} (hg : w.grownBy w' (some X)) (hX : W0.heap.size ≤ X) (h1 : vb ≠ X) (h2 : cb ≠ X) (h3 : rb ≠ X) (h4 : tb ≠ X) (h5 : pb ≠ X) (h6 : P ≠ X) : SAt W0 w' P vn s vb vc cb cc rv rb tb tc pb pc := by
  have hr := h.reads
  obtain ⟨_, _, _, _, _, _, ⟨c9, hc9⟩, _⟩ := hr
  have k : ∀ {g n c : Nat} {l : List Int}, g ≠ X → OwnInts w W0.heap.size (.slice (some ⟨g, 0, none⟩) n c) l → OwnInts w' W0.heap.size (.slice (some ⟨g, 0, none⟩) n c) l := fun hne ho => World.ownsRow.kept ho hg (.inr (by simpa [Value.ownBlock] using hne))
  exact ⟨(hg.block P h.lt (by simpa using h6)).trans h.box, k h1 h.vals, k h2 h.cells, h.reads.moved (hg.block rb (Array.getElem?_eq_some_iff.1 hc9).1 (by simpa using h3)), k h4 h.told, k h5 h.path, h.d1, h.d2, h.d3, h.d4, h.d5, h.d6, h.d7, h.d8, h.d9, h.d10, h.below.grown hg h.below.size (fun j ej => by cases ej; exact hX), h.hP⟩
theorem row_some {w : World} {lo : Nat} {e : TypeId} {v : Value} {n : Nat} {xs : List Value} (h : w.ownsRow lo e 1 v n xs) (hn : v ≠ .slice none 0 0) : ∃ g cap, v = .slice (some ⟨g, 0, none⟩) n cap := by
  rcases h.2 with ⟨rfl, _⟩ | ⟨g, cap, cur, rfl, _⟩
  · exact absurd rfl hn
  · exact ⟨g, cap, rfl⟩

set_option maxRecDepth 100000 in
set_option maxHeartbeats 8000000 in
theorem sphis_any (nbl : Int) (vals : Int) (hvn : (vn : Int) = vals) (hv80 : vn ≤ 80) (pa : Option Addr) (np pcap : Nat) (lv : Value) (tk ta tt te fr : Int) (la : Option Addr) (ln lcap : Nat) (hlv : lv = .slice la ln lcap) (ps : List PhiD) (hps : ListAt 0 2 (PhiAt 0) W0 (.slice pa np pcap) ps) (hok : ∀ (j : Nat) p, ps[j]? = some p → PhiOk nbl vals p) (w : World) (h : SIs W0 w P vn s) :
    Calls Try.prog 57 #[.pointer (some ⟨P, 0, none⟩), .agg #[.slice pa np pcap, lv, .int .i64 tk, .int .i64 ta, .int .i64 tt, .int .i64 te], .int .i64 fr] w fun e w' => (∃ v, e = .returned v) ∧ STo W0 P vn w { s with vals := phisDo fr s.vals ps s.vals } w' := by
  subst hlv
  have HVN : Hid ((vn : Int) = vals) := hvn
  clear hvn
  obtain ⟨a0, cap0, he, hm, hc⟩ := hps
  have hnp : np = ps.length := by simp at he; exact he.2.1
  have ha0 : pa = a0 := by simp at he; exact he.1
  subst ha0
  clear he
  have HN : Hid (ps.length = np) := hnp.symm
  rw [HN.out] at hm hc
  have HC : Hid (0 < np → ∃ b off, pa = some ⟨b, off, none⟩ ∧ 0 ≤ b ∧ ∀ i x, ps[i]? = some x → PhiAt 0 W0 b (off + i * 2) x) := hc
  have HOK : Hid (∀ (j : Nat) p, ps[j]? = some p → PhiOk nbl vals p) := hok
  obtain ⟨vb, vc, cb, cc, rv, rb, tb, tc, pb, pc, h⟩ := h
  have HH0 : Hid (SAt W0 w P vn s vb vc cb cc rv rb tb tc pb pc) := h
  clear hc hok h hnp
  obtain ⟨i0, hi, hz0, hz1, hz2⟩ := info_parts info_int
  have hmx : 100000 ≤ maxLen := by decide
  have bx := World.alloc_heap_new w (.cells #[.slice pa np pcap, .slice la ln lcap, .int .i64 tk, .int .i64 ta, .int .i64 tt, .int .i64 te] 42)
  have h1 := HH0.out.later (Bel.alloc w (.cells #[.slice pa np pcap, .slice la ln lcap, .int .i64 tk, .int .i64 ta, .int .i64 tt, .int .i64 te] 42))
  have hPB : P ≠ w.heap.size := by have := HH0.out.lt; omega
  have HF1 : Hid (FrR P P w (w.alloc (.cells #[.slice pa np pcap, .slice la ln lcap, .int .i64 tk, .int .i64 ta, .int .i64 tt, .int .i64 te] 42))) := FrR.ofBelow (Bel.alloc w _)
  obtain ⟨p0, _⟩ := HH0.out.cell
  have hPl := HH0.out.lt
  have hlo := HH0.out.below.size
  have bB : Hid (Below w.heap.size w ((w.alloc (.cells #[.slice pa np pcap, .slice la ln lcap, .int .i64 tk, .int .i64 ta, .int .i64 tt, .int .i64 te] 42)).alloc (.cells #[] 3))) := by
    show Below w.heap.size w ((w.alloc (.cells #[.slice pa np pcap, .slice la ln lcap, .int .i64 tk, .int .i64 ta, .int .i64 tt, .int .i64 te] 42)).alloc (.cells #[] 3))
    repeat (first | exact Below.refl _ _ | apply Below.drew | refine Below.alloc ?_ (by simp <;> omega) _ | refine Below.setCell ?_ (by simp <;> omega) _)
  have hown0 : ((w.alloc (.cells #[.slice pa np pcap, .slice la ln lcap, .int .i64 tk, .int .i64 ta, .int .i64 tt, .int .i64 te] 42)).alloc (.cells #[] 3)).ownsRow W0.heap.size 3 1 (.slice (some ⟨w.heap.size + 1, 0, none⟩) 0 0) 0 [] := ownInts_nil (by simp) (by omega)
  have hnews : ∀ j u, ((listN vn s.vals).map (fun x => Value.int .i64 x))[j]? = some u → ((w.alloc (.cells #[.slice pa np pcap, .slice la ln lcap, .int .i64 tk, .int .i64 ta, .int .i64 tt, .int .i64 te] 42)).alloc (.cells #[] 3)).cell? ((⟨vb, 0, none⟩ : Addr).add j) = some u := fun j u hj => by
    have hjl : j < vn := by
      have := (List.getElem?_eq_some_iff.1 hj).1
      simpa [listN_len] using this
    have e : (⟨vb, 0, none⟩ : Addr).add j = ⟨vb, j, none⟩ := by unfold Addr.add; split <;> simp_all
    have hu : u = .int .i64 (s.vals j) := by
      rw [List.getElem?_map] at hj
      simp [listN, hjl] at hj
      exact hj.symm
    rw [e, hu]
    exact Bel.keeps bB.out (HH0.out.valAt hjl)
  have HBX : Hid (((w.alloc (.cells #[.slice pa np pcap, .slice la ln lcap, .int .i64 tk, .int .i64 ta, .int .i64 tt, .int .i64 te] 42)).alloc (.cells #[] 3)).heap[w.heap.size]? = some (.cells #[.slice pa np pcap, .slice la ln lcap, .int .i64 tk, .int .i64 ta, .int .i64 tt, .int .i64 te] 42 (0, 0))) := (Below.heap_alloc _ _ _ (by simp)).trans bx
  have H2 : Hid (SAt W0 ((w.alloc (.cells #[.slice pa np pcap, .slice la ln lcap, .int .i64 tk, .int .i64 ta, .int .i64 tt, .int .i64 te] 42)).alloc (.cells #[] 3)) P vn s vb vc cb cc rv rb tb tc pb pc) := HH0.out.later bB.out
  clear h1 bx
  go_enter Try.func57, Try.ntmps57
  go_wp2_with (at_builtin; refine wpList_append_own_at _ rfl _ _ 27 rfl W0.heap.size 3 i0 (.int .i64 0) 1 8 Try.underlying27 hi hz0 hz1 hz2 rfl (by decide) (.slice (some ⟨w.heap.size + 1, 0, none⟩) 0 0) 0 [] rfl hown0 ⟨vb, 0, none⟩ vn vc ((listN vn s.vals).map (fun x => Value.int .i64 x)) rfl (by simp [listN_len]) hnews (by intro u hu; obtain ⟨q, _, rfl⟩ := List.mem_map.1 hu; rfl) (by omega) (by omega) (by simp; omega) ?_; intro v' wa hown' hgrow hnil hat; have HOWN : Hid (wa.ownsRow W0.heap.size 3 1 v' (0 + vn) ([] ++ (listN vn s.vals).map (fun x => Value.int .i64 x))) := hown'; have HGR : Hid (((w.alloc (.cells #[.slice pa np pcap, .slice la ln lcap, .int .i64 tk, .int .i64 ta, .int .i64 tt, .int .i64 te] 42)).alloc (.cells #[] 3)).grownBy wa (some (w.heap.size + 1))) := hgrow; have HAT : Hid (v'.ownBlock = some (w.heap.size + 1) ∨ v'.ownBlock = some ((w.alloc (.cells #[.slice pa np pcap, .slice la ln lcap, .int .i64 tk, .int .i64 ta, .int .i64 tt, .int .i64 te] 42)).alloc (.cells #[] 3)).heap.size) := hat; obtain ⟨nb, nc, hv'⟩ := row_some hown' (fun e => by have := hnil.1 e; simp at this); subst hv'; clear hown' hgrow hnil hat)
  have lts : vb < w.heap.size ∧ cb < w.heap.size ∧ rb < w.heap.size ∧ tb < w.heap.size ∧ pb < w.heap.size := by
    have hr := HH0.out.reads
    obtain ⟨_, _, _, _, _, _, ⟨c9, hc9⟩, _⟩ := hr
    exact ⟨(World.ownsRow.lt HH0.out.vals _ rfl).2, (World.ownsRow.lt HH0.out.cells _ rfl).2, (Array.getElem?_eq_some_iff.1 hc9).1, (World.ownsRow.lt HH0.out.told _ rfl).2, (World.ownsRow.lt HH0.out.path _ rfl).2⟩
  obtain ⟨lv, lc, lr, lt, lp⟩ := lts
  have hnb : nb = w.heap.size + 1 ∨ nb = w.heap.size + 2 := by
    rcases HAT.out with e | e
    · exact .inl (by simpa [Value.ownBlock] using e)
    · exact .inr (by simpa [Value.ownBlock] using e)
  have hnow : NowAt W0 wa P vn s vb vc cb cc rv rb tb tc pb pc nb nc s.vals := by
    refine ⟨H2.out.kept HGR.out (by omega) (by omega) (by omega) (by omega) (by omega) (by omega) (by omega), ?_, by omega, by omega, by omega, by omega, by omega⟩
    have := HOWN.out
    rw [Nat.zero_add, List.nil_append] at this
    unfold OwnInts
    rw [listN_len]
    exact this
  have hbxa : wa.heap[w.heap.size]? = some (.cells #[.slice pa np pcap, .slice la ln lcap, .int .i64 tk, .int .i64 ta, .int .i64 tt, .int .i64 te] 42 (0, 0)) := (HGR.out.block _ (by first | (simp; done) | (simp; omega)) (by first | (simp; done) | (simp; omega))).trans HBX.out
  have hnbB : nb ≠ w.heap.size := by omega
  have HFA : Hid (FrR P P w wa) := by
    refine ⟨Nat.le_trans bB.out.size HGR.out.size, fun i o hi _ _ _ => ?_⟩
    have hlt := (Array.getElem?_eq_some_iff.1 hi).1
    exact (HGR.out.block i (Nat.lt_of_lt_of_le hlt bB.out.size) (by first | (simp; done) | (simp; omega))).trans ((bB.out.block i hlt).trans hi)
  have hW0n : W0.heap.size ≤ nb := by omega
  have HNB : Hid (w.heap.size ≤ nb) := by show w.heap.size ≤ nb; omega
  generalize w.heap.size = B at *
  have HNOW : Hid (NowAt W0 wa P vn s vb vc cb cc rv rb tb tc pb pc nb nc s.vals) := hnow
  have HBXA : Hid (wa.heap[B]? = some (.cells #[.slice pa np pcap, .slice la ln lcap, .int .i64 tk, .int .i64 ta, .int .i64 tt, .int .i64 te] 42 (0, 0))) := hbxa
  clear hnow hbxa hnews hown0 lv lc lr lt lp hnb HBX H2 HOWN HGR HAT HF1 bB p0
  go_loopw [7] (fun i wr => ∃ k : Nat, k ≤ np ∧ i = .int .i64 k ∧ NowAt W0 wr P vn s vb vc cb cc rv rb tb tc pb pc nb nc (phisDo fr s.vals (ps.take k) s.vals) ∧ FrR P P wa wr) (fun i _ => np - (intOf i).toNat)
  case atStart => exact ⟨0, Nat.zero_le _, rfl, HNOW.out, FrR.refl _ _ _⟩
  case round =>
    obtain ⟨k, hk, rfl, hr, hfr⟩ := hrel
    have HR : Hid (NowAt W0 wr P vn s vb vc cb cc rv rb tb tc pb pc nb nc (phisDo fr s.vals (ps.take k) s.vals)) := hr
    have HFR : Hid (FrR P P wa wr) := hfr
    have hb1 := hfr.box HBXA.out (fun e => hPB e.symm) (fun e => hPB e.symm) (by decide)
    have x0 : wr.cell? ⟨B, 0, none⟩ = some (.slice pa np pcap) := by simp [World.cell?, hb1]
    obtain ⟨p0, _⟩ := hr.run.cell
    have hbel : Hid (Below W0.heap.size W0 wr) := hr.run.below
    clear hr hfr hb1
    by_cases hlt2 : (k : Int) < (np : Int)
    · obtain ⟨b, off, rfl, _, hcc⟩ := HC.out (by omega)
      obtain ⟨p, hpk⟩ : ∃ p, ps[k]? = some p := ⟨_, List.getElem?_eq_getElem (by have := HN.out; omega)⟩
      obtain ⟨q1, av, q2, hav⟩ := hcc k p hpk
      have hpo := HOK.out k p hpk
      obtain ⟨aa, acap, rfl, ham, hac⟩ := hav
      obtain ⟨pd, arms⟩ := p
      dsimp only at q1 q2 ham hac hpo
      obtain ⟨m, HM⟩ : ∃ m, Hid (arms.length = m) := ⟨_, rfl⟩
      rw [HM.out] at ham hac q2
      obtain ⟨dn, rfl, hdn⟩ := val_natV hpo.1 HVN.out
      have HA : Hid (0 < m → ∃ b off, aa = some ⟨b, off, none⟩ ∧ 0 ≤ b ∧ ∀ i x, arms[i]? = some x → ArmAt W0 b (off + i * 2) x) := hac
      have HAO : Hid (ArmsOk nbl vals arms arms.length) := hpo.2.2
      have HPK : Hid (ps[k]? = some ⟨(dn : Int), arms⟩) := hpk
      have Q1 : Hid (W0.cell? ⟨b, off + k * 2, none⟩ = some (.int .i64 (dn : Int))) := q1
      have Q2 : Hid (W0.cell? ⟨b, off + k * 2 + 1, none⟩ = some (.slice aa m acap)) := q2
      have hbn : nb ≠ b := by have := World.block_lt_of_cell? W0 _ q1; simp at this; omega
      have hdn2 : (dn : Int) < (vn : Int) := by omega
      clear q1 q2 hac hpo hpk hcc
      go_wp2_with fail
      go_loopw [8] (fun i wr => ∃ j : Nat, j ≤ m ∧ i = .int .i64 j ∧ NowAt W0 wr P vn s vb vc cb cc rv rb tb tc pb pc nb nc (armsDo fr s.vals (dn : Int) (arms.take j) (phisDo fr s.vals (ps.take k) s.vals)) ∧ FrR P P wa wr) (fun i _ => m - (intOf i).toNat)
      case atStart => exact ⟨0, Nat.zero_le _, rfl, HR.out, HFR.out⟩
      case round =>
        clear x0 p0 hbel
        obtain ⟨j, hj, rfl, hr, hfr⟩ := hrel
        have HR2 : Hid (NowAt W0 wr P vn s vb vc cb cc rv rb tb tc pb pc nb nc (armsDo fr s.vals (dn : Int) (arms.take j) (phisDo fr s.vals (ps.take k) s.vals))) := hr
        have HFR2 : Hid (FrR P P wa wr) := hfr
        have hb1 := hfr.box HBXA.out (fun e => hPB e.symm) (fun e => hPB e.symm) (by decide)
        have x0 : wr.cell? ⟨B, 0, none⟩ = some (.slice (some ⟨b, off, none⟩) np pcap) := by simp [World.cell?, hb1]
        obtain ⟨p0, _⟩ := hr.run.cell
        have r1 := Bel.keeps hr.run.below Q1.out
        have r2 := Bel.keeps hr.run.below Q2.out
        have hPn : P ≠ nb := not_row hr.run.box (by decide) hr.now.heapOf
        have hnv := hr.n1
        by_cases hlt3 : (j : Int) < (m : Int)
        · obtain ⟨ab, aoff, rfl, _, hcc⟩ := HA.out (by omega)
          obtain ⟨x, hxk⟩ : ∃ x, arms[j]? = some x := ⟨_, List.getElem?_eq_getElem (by have := HM.out; omega)⟩
          obtain ⟨q1, q2⟩ := hcc j x hxk
          have hao := HAO.out j x (by have := HM.out; omega) hxk
          obtain ⟨af, xv⟩ := x
          dsimp only at q1 q2 hao
          obtain ⟨vnn, rfl, hvnn⟩ := val_natV hao.2.1 HVN.out
          have HXK : Hid (arms[j]? = some ⟨af, (vnn : Int)⟩) := hxk
          have a1 := Bel.keeps hr.run.below q1
          have a2 := Bel.keeps hr.run.below q2
          have han : nb ≠ ab := by have := World.block_lt_of_cell? W0 _ q1; simp at this; omega
          have hvn2 : (vnn : Int) < (vn : Int) := by omega
          have cv := hr.run.valAt hvnn
          obtain ⟨zv, HZV⟩ : ∃ z, Hid (s.vals vnn = z) := ⟨_, rfl⟩
          rw [HZV.out] at cv
          have cn := hr.now.cellAt hdn
          have fn := frozen_of_cells hr.now.heapOf dn
          clear q1 q2 hao hxk hcc hr hfr hb1
          by_cases hfe : af = fr
          · subst hfe
            go_wp2_with fail
            go_region_held3 (fun w' => w'.cell? ⟨B, 0, none⟩ = some (.slice (some ⟨b, off, none⟩) np pcap) ∧ w'.cell? ⟨b, off + k * 2, none⟩ = some (.int .i64 (dn : Int)) ∧ w'.cell? ⟨b, off + k * 2 + 1, none⟩ = some (.slice (some ⟨ab, aoff, none⟩) m acap) ∧ w'.cell? ⟨ab, aoff + j * 2 + 1, none⟩ = some (.int .i64 (vnn : Int)) ∧ w'.cell? ⟨P, 0, none⟩ = some (.slice (some ⟨vb, 0, none⟩) vn vc) ∧ w'.cell? ⟨vb, vnn, none⟩ = some (.int .i64 zv)) (first | exact ⟨far_block x0 hnbB, far_block r1 hbn, far_block r2 hbn, far_block a2 han, far_block p0 (fun e => hPn e.symm), far_block cv hnv⟩ | go_keep) (fail)
            simp only [Exit.inBlock, Exit.then]
            go_at_K
            go_wp2_with fail
            go_roundw
            case rel =>
              refine ⟨j + 1, by omega, by go_num, ?_, ?_⟩
              · have e : armsDo af s.vals (dn : Int) (arms.take (j + 1)) (phisDo af s.vals (ps.take k) s.vals) = updN (armsDo af s.vals (dn : Int) (arms.take j) (phisDo af s.vals (ps.take k) s.vals)) dn zv := by
                  rw [take_snoc HXK.out, armsDo_snoc, if_pos rfl]
                  have e2 : s.vals ((vnn : Int)).toNat = zv := by simpa using HZV.out
                  have e3 : ((dn : Int)).toNat = dn := by simp
                  rw [e2, e3]
                rw [e]
                first | exact (HR2.out.set hdn zv).later (Below.refl _ _).drew | exact HR2.out.set hdn zv
              · refine HFR2.out.trans ((FrR.setRow (P := P) (o := dn) HR2.out.now (.int .i64 zv)).trans ?_)
                first | exact FrR.refl _ _ _ | exact FrR.drew _ _ _
            case measure => simp [intOf]; omega
          · have hfe2 : (af == fr) = false := by simp [hfe]
            go_wp2_with fail
            go_roundw
            case rel =>
              refine ⟨j + 1, by omega, by go_num, ?_, HFR2.out⟩
              rw [take_snoc HXK.out, armsDo_snoc, if_neg hfe]
              exact HR2.out
            case measure => simp [intOf]; omega
        · have hjm : j = m := by omega
          clear hr hfr hb1
          go_wp2_with fail
          go_roundw
          case rel =>
            refine ⟨k + 1, by omega, by go_num, ?_, HFR2.out⟩
            have e : arms.take j = arms := List.take_of_length_le (by have := HM.out; omega)
            have h4 := HR2.out
            rw [e] at h4
            rw [take_snoc HPK.out, phisDo_snoc]
            exact h4
          case measure => simp [intOf]; omega
    · have hkn : k = np := by omega
      have hfz := HR.out.run.frozen 0
      go_wp2_with fail
      go_end0
      have e : ps.take k = ps := List.take_of_length_le (by have := HN.out; omega)
      have h4 := HR.out
      rw [e] at h4
      exact ⟨⟨_, rfl⟩, ⟨_, _, _, _, _, _, _, _, _, _, h4.swap⟩, HFA.out.trans (HFR.out.trans (FrR.setR P P 0 _ wr))⟩
end
end Go.Proofs.Ytkpddakmcnknjaa
