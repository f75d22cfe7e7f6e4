/- RunMachine, of the model. -/
import Derived.Test.YtebcocehdjoafaaDoorMsStp
import Derived.Test.YtebcocehdjoafaaDoorSpecNew
import Derived.Test.YtebcocehdjoafaaDoorMaI6
namespace Go.Proofs.YtebcocehdjoafaaDoor
open Go.ChangeShapes Go.WideShapes Go.ChangeAt Go.RowKit Go.Shelf
set_option linter.unusedVariables false

/-- Only an end that is normal, with P. -/
def onlyEndM (Post : Act → World → Prop) : Exit → Act → World → Prop
  | .normal, a, w => Post a w
  | _, _, _ => False
theorem SAt.low {W0 W1 w : World} {P vn : Nat} {s : RunS} {vb vc cb cc : Nat} {rv : Value} {rb tb tc pb pc : Nat} (h : SAt W1 w P vn s vb vc cb cc rv rb tb tc pb pc) (hb : Below W0.heap.size W0 W1) : SAt W0 w P vn s vb vc cb cc rv rb tb tc pb pc := by
  have hs := hb.size
  have hr := h.reads
  obtain ⟨off, cap, h1, h2, h3, h4, h5, h6⟩ := hr
  exact ⟨h.box, h.vals.low hs, h.cells.low hs, ⟨off, cap, h1, h2, h3, by omega, h5, h6⟩, h.told.low hs, h.path.low hs, h.d1, h.d2, h.d3, h.d4, h.d5, h.d6, h.d7, h.d8, h.d9, h.d10, Bel.after hb h.below, by have := h.hP; omega⟩
/-- Where its rows lie. -/
theorem SAt.range {W1 w : World} {P vn : Nat} {s : RunS} {vb vc cb cc : Nat} {rv : Value} {rb tb tc pb pc : Nat} (h : SAt W1 w P vn s vb vc cb cc rv rb tb tc pb pc) : (W1.heap.size ≤ vb ∧ vb < w.heap.size) ∧ (W1.heap.size ≤ cb ∧ cb < w.heap.size) ∧ (W1.heap.size ≤ rb ∧ rb < w.heap.size) ∧ (W1.heap.size ≤ tb ∧ tb < w.heap.size) ∧ (W1.heap.size ≤ pb ∧ pb < w.heap.size) := by
  have hr := h.reads
  obtain ⟨off, cap, h1, h2, h3, h4, ⟨c, h5⟩, h6⟩ := hr
  exact ⟨World.ownsRow.lt h.vals _ rfl, World.ownsRow.lt h.cells _ rfl, ⟨h4, (Array.getElem?_eq_some_iff.1 h5).1⟩, World.ownsRow.lt h.told _ rfl, World.ownsRow.lt h.path _ rfl⟩
/-- The parts of a machine that begins. -/
def TParts (W0 w : World) (reads : List Int) (rg sg P : Nat) : Prop :=
  OwnInts w W0.heap.size (.slice (some ⟨rg, 0, none⟩) 8 8) (listN 8 (fun _ => 0)) ∧ OwnInts w W0.heap.size (.slice (some ⟨sg, 0, none⟩) 40 40) (listN 40 (fun _ => 0)) ∧ rg ≠ sg ∧ ∃ vb vc cb cc rv rb tb tc pb pc, SAt W0 w P 0 (msR (macStart reads)) vb vc cb cc rv rb tb tc pb pc ∧ (rg ≠ vb ∧ rg ≠ cb ∧ rg ≠ rb ∧ rg ≠ tb ∧ rg ≠ pb) ∧ (sg ≠ vb ∧ sg ≠ cb ∧ sg ≠ rb ∧ sg ≠ tb ∧ sg ≠ pb)
theorem TParts.begins {W0 w : World} {reads : List Int} {rg sg P : Nat} (h : TParts W0 w reads rg sg P) : TIs W0 (w.alloc (.cells #[.slice (some ⟨rg, 0, none⟩) 8 8, .slice (some ⟨sg, 0, none⟩) 40 40, .pointer (some ⟨P, 0, none⟩), .int .i64 0] 66)) w.heap.size (macStart reads) := by
  obtain ⟨h1, h2, h3, vb, vc, cb, cc, rv, rb, tb, tc, pb, pc, h4, ⟨r1, r2, r3, r4, r5⟩, ⟨s1, s2, s3, s4, s5⟩⟩ := h
  have hb := Bel.alloc w (.cells #[.slice (some ⟨rg, 0, none⟩) 8 8, .slice (some ⟨sg, 0, none⟩) 40 40, .pointer (some ⟨P, 0, none⟩), .int .i64 0] 66)
  exact ⟨P, rg, sg, vb, vc, cb, cc, rv, rb, tb, tc, pb, pc, World.alloc_heap_new w _, h1.keep hb, h2.keep hb, h4.later hb, h3, r1, r2, r3, r4, r5, s1, s2, s3, s4, s5, h4.below.size⟩

theorem min_40k (fuel : Int) (w : World) : Calls Tryd.prog 38 #[.int .i64 fuel, .int .i64 40000] w fun e w' => e = .returned (.int .i64 (min fuel 40000)) ∧ w' = w := by
  by_cases h : fuel < 40000
  · have e : min fuel 40000 = fuel := by omega
    rw [e]
    go_enter Tryd.func38, Tryd.ntmps38
    go_wp2
    go_ret
    exact ⟨rfl, rfl⟩
  · have e : min fuel 40000 = 40000 := by omega
    rw [e]
    go_enter Tryd.func38, Tryd.ntmps38
    go_wp2
    go_ret
    exact ⟨rfl, rfl⟩
theorem TIs.later {W0 w w' : World} {T : Nat} {m : MacS} (h : TIs W0 w T m) (hb : Below w.heap.size w w') : TIs W0 w' T m := by
  obtain ⟨P, rg, sg, vb, vc, cb, cc, rv, rb, tb, tc, pb, pc, h⟩ := h
  exact ⟨P, rg, sg, vb, vc, cb, cc, rv, rb, tb, tc, pb, pc, h.later hb⟩
/-- How it stands ahead of step k. -/
def TSt (W0 wr : World) (T fq k : Nat) (l : List InsD) (res : List Int × Int × Int) : Prop := ∃ m, TIs W0 wr T m ∧ macN wordV l (fq - k) m = res ∧ m.pc < l.length ∧ m.told.length ≤ k
theorem told_step {i : InsD} {m : MacS} (h : i.op ≠ 11) : (macDo wordV i m).2.told.length ≤ m.told.length + 1 := by
  have := told_more i m
  unfold doneM at this
  rw [if_neg h] at this
  exact this

set_option maxRecDepth 100000 in
set_option maxHeartbeats 8000000 in
theorem spec_runMachine (v rv : Value) (l : List InsD) (reads : List Int) (fuel : Int) (hrl : reads.length ≤ 2000000) (w : World) (hv : StepsAt w v l) (ho : OpsIn l) (hr : ReadsAt w rv reads) :
    Calls Tryd.prog 18 #[v, rv, .int .i64 fuel] w fun e w' => GivesTld w (macOf wordV l reads fuel) e w' := by
  have HL : Hid (StepsAt w v l) := hv
  obtain ⟨a, cap, rfl, _, hc0⟩ := hv
  obtain ⟨n, HN⟩ : ∃ n, Hid (l.length = n) := ⟨_, rfl⟩
  have HRD : Hid (ReadsAt w rv reads) := hr
  obtain ⟨ra, rcap, rfl, _, _, _⟩ := hr
  obtain ⟨rn, HRN⟩ : ∃ n, Hid (reads.length = n) := ⟨_, rfl⟩
  have HRL : Hid (reads.length ≤ 2000000) := hrl
  rw [HRN.out] at HRD ⊢
  rw [HN.out] at HL hc0 ⊢
  have HC0 : Hid (0 < n → ∃ b off, a = some ⟨b, off, none⟩ ∧ 0 ≤ b ∧ ∀ i x, l[i]? = some x → InsAt w b (off + i * 5) x) := hc0
  have HO : Hid (OpsIn l) := ho
  clear ho hc0 hrl
  obtain ⟨R, HR⟩ : ∃ R, Hid (machineOkB l = R) := ⟨_, rfl⟩
  go_enter Tryd.func18, Tryd.ntmps18
  go_wp2_with fail
  refine (spec_machineOk _ l _ HL.out HO.out).mono ?_
  rintro e w1 ⟨rfl, b1⟩
  rw [HR.out]
  have B1 : Hid (Below w.heap.size w w1) := b1
  clear b1
  cases R with
  | false =>
    have HE : Hid (macOf wordV l reads fuel = ([], 3, 0)) := if_neg (fun h => by rw [HR.out] at h; exact absurd h.1 (by decide))
    go_wp2_with fail
    refine bodyPost_ret (v := .tuple #[.slice (some ⟨w1.heap.size, 0, none⟩) 0 0, .int .i64 3, .int .i64 0]) (by simp [results, Tryd.results18, go_sem]) rfl ?_
    rw [HE.out]
    exact ⟨_, rfl, ownInts_nil rfl B1.out.size, Bel.after B1.out (Bel.alloc _ _)⟩
  | true =>
    by_cases hf : fuel < 0
    · have HE : Hid (macOf wordV l reads fuel = ([], 3, 0)) := if_neg (fun h => by omega)
      go_wp2_with fail
      refine bodyPost_ret (v := .tuple #[.slice (some ⟨w1.heap.size, 0, none⟩) 0 0, .int .i64 3, .int .i64 0]) (by simp [results, Tryd.results18, go_sem]) rfl ?_
      rw [HE.out]
      exact ⟨_, rfl, ownInts_nil rfl B1.out.size, Bel.after B1.out (Bel.alloc _ _)⟩
    · obtain ⟨fq, HFQ⟩ : ∃ fq : Nat, Hid ((min fuel 40000).toNat = fq) := ⟨_, rfl⟩
      have HE : Hid (macOf wordV l reads fuel = macN wordV l fq (macStart reads)) := by
        show _ = _
        rw [← HFQ.out]
        exact if_pos ⟨HR.out, by omega⟩
      have hfq : fq ≤ 40000 := by have := HFQ.out; omega
      have HFE : Hid (min fuel 40000 = (fq : Int)) := by have := HFQ.out; show min fuel 40000 = (fq : Int); omega
      have hlen := (machineOkB_parts HR.out).1
      have hlen2 := (machineOkB_parts HR.out).2.1
      rw [HN.out] at hlen hlen2
      obtain ⟨b, off, rfl, _, hc1⟩ := HC0.out (by omega)
      have HC : Hid (∀ i x, l[i]? = some x → InsAt w b (off + i * 5) x) := hc1
      clear hc1 HC0
      go_wp2_with fail
      refine Code.wp_mono (Q := onlyEndM fun a w' => ∃ (T : Nat) (y21 y22 y24 y25 : Value), a = ⟨#[.slice (some ⟨b, off, none⟩) n cap, .slice ra rn rcap, .int .i64 fuel, undef, undef, undef, .slice none 0 0, .int .i64 0, .int .i64 0, .pointer (some ⟨T, 0, none⟩), undef, undef, undef, .slice (some ⟨b, off, none⟩) n cap, .bool true, .bool false, .bool false, .int .i64 fuel, .bool (decide (fuel < 0)), .bool (decide (fuel < 0)), undef, y21, y22, .slice ra rn rcap, y24, y25, .pointer (some ⟨T, 0, none⟩), undef, undef, undef, undef, undef, undef, undef, undef, undef, undef, undef, undef, undef, undef, undef, undef, undef, undef, undef, undef, undef, undef, undef, undef, undef, undef, undef, undef, undef, undef, undef, undef, undef, undef, undef, undef, undef, undef, undef, undef, undef, undef, undef, undef, undef, undef, undef, undef, undef, undef, undef], []⟩ ∧ TIs w1 w' T (macStart reads)) ?_ ?_
      · rintro e a w2 h
        cases e with
        | normal =>
          obtain ⟨T, y21, y22, y24, y25, rfl, hT⟩ := h
          have HT : Hid (TIs w1 w2 T (macStart reads)) := hT
          clear hT
          simp only [Exit.then]
          go_at_K
          go_wp2_with fail
          obtain ⟨res, HRS⟩ : ∃ r, Hid (macN wordV l fq (macStart reads) = r) := ⟨_, rfl⟩
          have HST : Hid (TSt w1 w2 T fq 0 l res) := ⟨_, HT.out, HRS.out, by have := (machineOkB_parts HR.out).1; exact this, Nat.le_refl _⟩
          clear HT
          go_loopw [10] (fun i wr => ∃ k : Nat, k ≤ fq ∧ i = .int .i64 k ∧ TSt w1 wr T fq k l res) (fun i _ => fq - (intOf i).toNat)
          case atStart => exact ⟨0, Nat.zero_le _, rfl, HST.out⟩
          case round =>
            obtain ⟨wq, hwq⟩ : ∃ q, q = wr := ⟨_, rfl⟩
            subst hwq
            obtain ⟨k, hk, rfl, m, hm, hres, hpc, htl⟩ := hrel
            have HM : Hid (TIs w1 wq T m) := hm
            have HRES : Hid (macN wordV l (fq - k) m = res) := hres
            have HPC : Hid (m.pc < l.length) := hpc
            have HTL : Hid (m.told.length ≤ k) := htl
            obtain ⟨P, rg, sg, vb, vc, cb, cc, rv9, rb, tb, tc, pb, pc, h⟩ := hm
            obtain ⟨t0, t1, t2, t3⟩ := h.cell
            obtain ⟨_, u1, u2, u3, _, _⟩ := h.s.cell
            rw [show (msR m).told.length = m.told.length from rfl] at u3
            obtain ⟨tn, HTN⟩ : ∃ n, Hid (m.told.length = n) := ⟨_, rfl⟩
            rw [HTN.out] at u3
            have HTO : Hid (OwnInts wq w1.heap.size (.slice (some ⟨tb, 0, none⟩) tn tc) m.told) := by
              have := h.s.told
              rw [show (msR m).told.length = tn from HTN.out] at this
              exact this
            have HBW : Hid (Below w1.heap.size w1 wq) := h.below
            have HH : Hid (TAt w1 wq T P m rg sg vb vc cb cc rv9 rb tb tc pb pc) := h
            have hTl := h.lt
            have hPl := h.s.lt
            have hrl := (World.ownsRow.lt h.regs rg rfl).2
            clear hres hpc htl
            by_cases hlt : (k : Int) < (fq : Int)
            · obtain ⟨i, HI⟩ : ∃ i, Hid (l[m.pc]? = some i) := ⟨l[m.pc]'HPC.out, List.getElem?_eq_getElem HPC.out⟩
              obtain ⟨d0, d1, d2, d3, d4⟩ := (HC.out m.pc i HI.out).keep (Keeps.of_below (Bel.after B1.out HBW.out) 0) (Nat.zero_le _)
              obtain ⟨pn, HPN⟩ : ∃ p, Hid (m.pc = p) := ⟨_, rfl⟩
              have hpn : pn < n := by have := HPC.out; rw [HPN.out, HN.out] at this; exact this
              rw [HPN.out] at t3 d0 d1 d2 d3 d4
              have HOKX : Hid (stepOkB i l.length = true) := (machineOkB_parts HR.out).2.2.1 _ (List.mem_of_getElem? HI.out)
              obtain ⟨j, hj⟩ : ∃ j, fq - k = j + 1 := ⟨fq - k - 1, by omega⟩
              have HSTP : Hid (res = if i.op = 11 then (m.told, 0, m.regs i.a.toNat) else if (macDo wordV i m).1 = 0 then macN wordV l j (macDo wordV i m).2 else ((macDo wordV i m).2.told, (macDo wordV i m).1, 0)) := by
                have h9 := macN_step (W := wordV) (k := j) HI.out
                rw [← hj, HRES.out] at h9
                exact h9
              have hregs := stepOkB_regs HOKX.out
              obtain ⟨an, HAN, han⟩ : ∃ an : Nat, Hid (i.a = (an : Int)) ∧ an < 8 := ⟨i.a.toNat, by show i.a = _; omega, by omega⟩
              have cr := h.regAt (i := an) han
              obtain ⟨i0, i1, i2, i3, i4⟩ := i
              dsimp only at d0 d1 d2 d3 d4 hregs HAN
              clear h hregs
              by_cases h11 : i0 = 11
              · subst h11
                have HR1 : Hid (res = (m.told, 0, m.regs an)) := by
                  show _ = _
                  rw [HSTP.out]
                  dsimp only
                  rw [if_pos rfl, HAN.out]
                  rfl
                obtain ⟨y, HYY⟩ : ∃ y, Hid (m.regs an = y) := ⟨_, rfl⟩
                rw [HYY.out] at cr HR1
                rw [HAN.out] at d2
                have han2 : (an : Int) < 8 := by omega
                clear HSTP
                go_wp2_with fail
                refine (min_40k fuel _).mono ?_
                rintro e w3 ⟨rfl, hw3⟩
                replace hw3 := hw3.symm
                subst hw3
                rw [HFE.out]
                go_wp2_with fail
                have K4 : Below wq.heap.size wq (wq.alloc (.cells #[.int .i64 11, .int .i64 i1, .int .i64 (an : Int), .int .i64 i3, .int .i64 i4] 25)) := Bel.alloc _ _
                have x2 : (wq.alloc (.cells #[.int .i64 11, .int .i64 i1, .int .i64 (an : Int), .int .i64 i3, .int .i64 i4] 25)).cell? ⟨wq.heap.size, 2, none⟩ = some (.int .i64 (an : Int)) := ((insBox_new wq 25 11 i1 (an : Int) i3 i4).2.2.1)
                generalize wq.alloc (.cells #[.int .i64 11, .int .i64 i1, .int .i64 (an : Int), .int .i64 i3, .int .i64 i4] 25) = w4 at K4 x2 ⊢
                have HK4 : Hid (Below wq.heap.size wq w4) := K4
                have g0 := Bel.keeps K4 t0
                have g2 := Bel.keeps K4 t2
                have g3 := Bel.keeps K4 u3
                have gr := Bel.keeps K4 cr
                generalize wq.heap.size = BB at x2 ⊢
                clear K4 t0 t1 t2 t3 u1 u2 u3 cr d0 d1 d2 d3 d4
                go_region_held3 (fun w' => w'.cell? ⟨T, 0, none⟩ = some (.slice (some ⟨rg, 0, none⟩) 8 8) ∧ w'.cell? ⟨T, 2, none⟩ = some (.pointer (some ⟨P, 0, none⟩)) ∧ w'.cell? ⟨P, 3, none⟩ = some (.slice (some ⟨tb, 0, none⟩) tn tc) ∧ w'.cell? ⟨BB, 2, none⟩ = some (.int .i64 (an : Int)) ∧ w'.cell? ⟨rg, an, none⟩ = some (.int .i64 y)) (go_keep) (fail)
                simp only [Exit.then]
                go_at_K
                go_wp2_with fail
                refine bodyPost_ret (v := .tuple #[.slice (some ⟨tb, 0, none⟩) tn tc, .int .i64 0, .int .i64 y]) (by simp [results, Tryd.results18, go_sem]) rfl ?_
                rw [HE.out, HRS.out, HR1.out]
                first
                  | exact ⟨_, rfl, ((HTO.out.low B1.out.size).keep HK4.out).keep ((Below.refl _ _).drew), (Bel.after (Bel.after B1.out HBW.out) HK4.out).drew⟩
                  | exact ⟨_, rfl, (HTO.out.low B1.out.size).keep HK4.out, Bel.after (Bel.after B1.out HBW.out) HK4.out⟩
              · have e11 : (i0 == 11) = false := by simpa using h11
                have H11 : Hid (¬ i0 = 11) := h11
                clear h11
                go_wp2_with fail
                refine (min_40k fuel _).mono ?_
                rintro e w3 ⟨rfl, hw3⟩
                replace hw3 := hw3.symm
                subst hw3
                rw [HFE.out]
                go_wp2_with fail
                refine (tstep_any ⟨i0, i1, i2, i3, i4⟩ l.length HOKX.out H11.out m (by have := HTL.out; omega) (by rw [HPN.out]; omega) _ (HM.out.later (Bel.alloc _ _))).mono ?_
                rintro e w4 ⟨he, hm4⟩
                have HM4 : Hid (TIs w1 w4 T (macDo wordV ⟨i0, i1, i2, i3, i4⟩ m).2) := hm4
                have HTD : Hid ((macDo wordV ⟨i0, i1, i2, i3, i4⟩ m).2.told.length ≤ m.told.length + 1) := told_step H11.out
                have HST2 : Hid ((macDo wordV ⟨i0, i1, i2, i3, i4⟩ m).2.pc < l.length) := macDo_stays HR.out HI.out H11.out
                have HS2 : Hid (res = if (macDo wordV ⟨i0, i1, i2, i3, i4⟩ m).1 = 0 then macN wordV l j (macDo wordV ⟨i0, i1, i2, i3, i4⟩ m).2 else ((macDo wordV ⟨i0, i1, i2, i3, i4⟩ m).2.told, (macDo wordV ⟨i0, i1, i2, i3, i4⟩ m).1, 0)) := by
                  have h9 := HSTP.out
                  rw [if_neg (show ¬ (⟨i0, i1, i2, i3, i4⟩ : InsD).op = 11 from H11.out)] at h9
                  exact h9
                obtain ⟨⟨hw, m4⟩, HMD⟩ : ∃ r, Hid (macDo wordV ⟨i0, i1, i2, i3, i4⟩ m = r) := ⟨_, rfl⟩
                rw [HMD.out] at HM4 HTD HST2 HS2 he
                dsimp only at HM4 HTD HST2 HS2 he
                subst he
                clear hm4 HSTP t0 t1 t2 t3 u1 u2 u3 cr d0 d1 d2 d3 d4 hTl hPl hrl
                by_cases hw0 : hw = 0
                · subst hw0
                  go_wp2_with fail
                  go_roundw
                  case rel =>
                    refine ⟨k + 1, by omega, by go_num, m4, HM4.out, ?_, HST2.out, by have := HTD.out; have := HTL.out; omega⟩
                    have h9 := HS2.out
                    rw [if_pos (by trivial)] at h9
                    rw [show fq - (k + 1) = j by omega]
                    exact h9.symm
                  case measure => simp [intOf]; omega
                · have hwn : (hw != 0) = true := by simpa using hw0
                  have HR1 : Hid (res = (m4.told, hw, 0)) := by
                    have h9 := HS2.out
                    rw [if_neg hw0] at h9
                    exact h9
                  obtain ⟨P4, rg4, sg4, vb4, vc4, cb4, cc4, rv4, rb4, tb4, tc4, pb4, pc4, h4⟩ := HM4.out
                  obtain ⟨_, _, s2, _⟩ := h4.cell
                  obtain ⟨_, _, _, q3, _, _⟩ := h4.s.cell
                  rw [show (msR m4).told.length = m4.told.length from rfl] at q3
                  obtain ⟨tn4, HTN4⟩ : ∃ n, Hid (m4.told.length = n) := ⟨_, rfl⟩
                  rw [HTN4.out] at q3
                  have HTO4 : Hid (OwnInts w4 w1.heap.size (.slice (some ⟨tb4, 0, none⟩) tn4 tc4) m4.told) := by
                    have := h4.s.told
                    rw [show (msR m4).told.length = tn4 from HTN4.out] at this
                    exact this
                  have HB4 : Hid (Below w1.heap.size w1 w4) := h4.below
                  clear h4 hw0
                  go_wp2_with fail
                  refine bodyPost_ret (v := .tuple #[.slice (some ⟨tb4, 0, none⟩) tn4 tc4, .int .i64 hw, .int .i64 0]) (by simp [results, Tryd.results18, go_sem]) rfl ?_
                  rw [HE.out, HRS.out, HR1.out]
                  exact ⟨_, rfl, HTO4.out.low B1.out.size, Bel.after B1.out HB4.out⟩
            · have hkn : k = fq := by omega
              subst hkn
              clear h
              have HR1 : Hid (res = (m.told, 1, 0)) := by
                show _ = _
                rw [← HRES.out, Nat.sub_self]
                rfl
              go_wp2_with fail
              refine (min_40k fuel _).mono ?_
              rintro e w3 ⟨rfl, hw3⟩
              replace hw3 := hw3.symm
              subst hw3
              rw [HFE.out]
              go_wp2_with fail
              refine bodyPost_ret (v := .tuple #[.slice (some ⟨tb, 0, none⟩) tn tc, .int .i64 1, .int .i64 0]) (by simp [results, Tryd.results18, go_sem]) rfl ?_
              rw [HE.out, HRS.out, HR1.out]
              exact ⟨_, rfl, HTO.out.low B1.out.size, Bel.after B1.out HBW.out⟩
        | _ => exact h.elim
      · refine wp_noThrow (wp_region_held_drew (S := fun _ => True) (by kernel_rfl) trivial (fun hHeld => ?_))
        have BD : Below w1.heap.size w1 w1.drew := (Below.refl _ _).drew
        generalize w1.drew = D at BD ⊢
        refine wpAnyH_take (i := 2) (oi := { dst := some 23, op := Go.Op.move (Go.Operand.tmp 1), type := 39, pos := "l14_machine.go:104", after := #[], guard := none }) (v := ?_) rfl (by kernel_rfl) (by kernel_rfl) (by kernel_rfl) (fun _ _ _ h => h) (Or.inl ⟨by rfl, ?_⟩) (by assumption) ?_
        rotate_left
        · intro w hSw
          (try dsimp only at hSw)
          go_simp
          (try with_reducible rfl)
        try simp only [Act.put, List.setIfInBounds_toArray, List.set_cons_zero, List.set_cons_succ]
        refine ckAnyH_threeK (i := 0) (i2 := 1) (i3 := 3) (o := { dst := some 21, op := Go.Op.makeSlice 39 (Go.Operand.const (Go.Value.int Go.IntKind.i64 8)) (Go.Operand.const (Go.Value.int Go.IntKind.i64 8)), type := 39, pos := "l14_machine.go:104", after := #[], guard := none }) (o2 := { dst := some 22, op := Go.Op.makeSlice 39 (Go.Operand.const (Go.Value.int Go.IntKind.i64 40)) (Go.Operand.const (Go.Value.int Go.IntKind.i64 40)), type := 39, pos := "l14_machine.go:104", after := #[], guard := none }) (o3 := { dst := some 24, op := Go.Op.call { callee := Go.Callee.value (Go.Operand.func 37), args := #[Go.Operand.const (Go.Value.int Go.IntKind.i64 0), Go.Operand.tmp 23, Go.Operand.const (Go.Value.int Go.IntKind.i64 0)], argTypes := #[3, 39, 3] }, type := 63, pos := "l14_machine.go:104", after := #[{ on := 2, ground := Go.Ground.data }], guard := none }) rfl rfl rfl rfl rfl rfl (by kernel_rfl) (fun K9 hK9 => ?_) (fun K9 hK9 => ?_) (fun K9 hK9 => ?_)
        · refine wp_value (run_makeL rfl rfl rfl (make_ints 8 (by omega) D)) (hK9 _ _ ⟨trivial, ?_⟩)
          (try simp only [Act.put, List.setIfInBounds_toArray, List.set_cons_zero, List.set_cons_succ])
          clear hK9
          have hr9 : OwnInts (D.alloc (.cells (madeCells #[.int .i64 0] 8) 3)) w1.heap.size (.slice (some ⟨D.heap.size, 0, none⟩) 8 8) (listN 8 (fun _ => 0)) := own_made 8 (by omega) BD.size
          have Lrg : ∃ rg, rg = D.heap.size := ⟨_, rfl⟩
          obtain ⟨rg, erg⟩ := Lrg
          have Srg : rg + 1 = (D.alloc (.cells (madeCells #[.int .i64 0] 8) 3)).heap.size := by simp [erg]
          have KA : Below D.heap.size D (D.alloc (.cells (madeCells #[.int .i64 0] 8) 3)) := Bel.alloc _ _
          rw [← erg] at hr9
          try rw [← erg]
          generalize D.alloc (.cells (madeCells #[.int .i64 0] 8) 3) = A at hr9 Srg KA ⊢
          have BA : Below w1.heap.size w1 A := Bel.after BD KA
          refine ckAnyH_twoK (i := 1) (i2 := 3) (o := { dst := some 22, op := Go.Op.makeSlice 39 (Go.Operand.const (Go.Value.int Go.IntKind.i64 40)) (Go.Operand.const (Go.Value.int Go.IntKind.i64 40)), type := 39, pos := "l14_machine.go:104", after := #[], guard := none }) (o2 := { dst := some 24, op := Go.Op.call { callee := Go.Callee.value (Go.Operand.func 37), args := #[Go.Operand.const (Go.Value.int Go.IntKind.i64 0), Go.Operand.tmp 23, Go.Operand.const (Go.Value.int Go.IntKind.i64 0)], argTypes := #[3, 39, 3] }, type := 63, pos := "l14_machine.go:104", after := #[{ on := 2, ground := Go.Ground.data }], guard := none }) rfl rfl rfl rfl (by kernel_rfl) (fun K9 hK9 => ?_) (fun K9 hK9 => ?_)
          · refine wp_value (run_makeL rfl rfl rfl (make_ints 40 (by omega) A)) (hK9 _ _ ⟨trivial, ?_⟩)
            (try simp only [Act.put, List.setIfInBounds_toArray, List.set_cons_zero, List.set_cons_succ])
            clear hK9
            have hs9 : OwnInts (A.alloc (.cells (madeCells #[.int .i64 0] 40) 3)) w1.heap.size (.slice (some ⟨A.heap.size, 0, none⟩) 40 40) (listN 40 (fun _ => 0)) := own_made 40 (by omega) BA.size
            have Lsg : ∃ sg, sg = A.heap.size := ⟨_, rfl⟩
            obtain ⟨sg, esg⟩ := Lsg
            have Ssg : sg + 1 = (A.alloc (.cells (madeCells #[.int .i64 0] 40) 3)).heap.size := by simp [esg]
            have KB : Below A.heap.size A (A.alloc (.cells (madeCells #[.int .i64 0] 40) 3)) := Bel.alloc _ _
            rw [← esg] at hs9
            try rw [← esg]
            generalize A.alloc (.cells (madeCells #[.int .i64 0] 40) 3) = B at hs9 Ssg KB ⊢
            have BB : Below w1.heap.size w1 B := Bel.after BA KB
            replace hr9 := hr9.keep KB
            refine ckAnyH_oneK (i := 3) (o := { dst := some 24, op := Go.Op.call { callee := Go.Callee.value (Go.Operand.func 37), args := #[Go.Operand.const (Go.Value.int Go.IntKind.i64 0), Go.Operand.tmp 23, Go.Operand.const (Go.Value.int Go.IntKind.i64 0)], argTypes := #[3, 39, 3] }, type := 63, pos := "l14_machine.go:104", after := #[{ on := 2, ground := Go.Ground.data }], guard := none }) rfl rfl (by kernel_rfl) (fun K9 hK9 => ?_)
            refine wp_call_of (f := 37) (args := #[.int .i64 0, .slice ra rn rcap, .int .i64 0]) (by go_simp) (l6New_any 0 (by omega) (.slice ra rn rcap) reads 0 (by omega) HRL.out B (HRD.out.keep (Bel.after B1.out BB))) ?_
            rintro e C ⟨P, rfl, vb, vc, cb, cc, rv9, rb, tb, tc, pb, pc, hS9⟩
            refine ⟨_, rfl, hK9 _ _ ⟨trivial, ?_⟩⟩
            (try simp only [Act.put, List.setIfInBounds_toArray, List.set_cons_zero, List.set_cons_succ])
            clear hK9
            have KC : Below B.heap.size B C := hS9.below
            have BC : Below w1.heap.size w1 C := Bel.after BB KC
            have hR9 := hS9.range
            replace hS9 : SAt w1 C P 0 (msR (macStart reads)) vb vc cb cc rv9 rb tb tc pb pc := hS9.low BB
            replace hr9 := hr9.keep KC
            replace hs9 := hs9.keep KC
            have Z1 := KA.size
            have Z2 := KB.size
            have Z3 := KC.size
            have HTP : TParts w1 C reads rg sg P := ⟨hr9, hs9, by omega, vb, vc, cb, cc, rv9, rb, tb, tc, pb, pc, hS9, by omega, by omega⟩
            clear hr9 hs9 hS9 hR9 Z1 Z2 Z3 KA KB KC
            refine wpAnyH_take (i := 4) (oi := { dst := some 25, op := Go.Op.build 66 #[(0, Go.Operand.tmp 21), (1, Go.Operand.tmp 22), (2, Go.Operand.tmp 24)], type := 66, pos := "l14_machine.go:104", after := #[{ on := 0, ground := Go.Ground.data }, { on := 1, ground := Go.Ground.data }, { on := 3, ground := Go.Ground.data }], guard := none }) (v := ?_) rfl (by kernel_rfl) (by kernel_rfl) (by kernel_rfl) (fun _ _ _ h => h) (Or.inl ⟨by rfl, ?_⟩) (by assumption) ?_
            rotate_left
            · intro w hSw
              (try dsimp only at hSw)
              go_simp
              (try with_reducible rfl)
            try simp only [Act.put, List.setIfInBounds_toArray, List.set_cons_zero, List.set_cons_succ]
            refine ckAnyH_oneK (i := 5) (o := { dst := some 26, op := Go.Op.box 66 (Go.Operand.tmp 25), type := 62, pos := "l14_machine.go:104", after := #[{ on := 4, ground := Go.Ground.data }], guard := none }) rfl rfl (by kernel_rfl) (fun K9 hK9 => ?_)
            go_simp
            refine hK9 _ _ ⟨trivial, ?_⟩
            (try simp only [Act.put, List.setIfInBounds_toArray, List.set_cons_zero, List.set_cons_succ])
            clear hK9
            refine ckAnyH_oneK (i := 6) (o := { dst := some 9, op := Go.Op.assign (Go.Operand.tmp 26), type := 62, pos := "l14_machine.go:104", after := #[{ on := 5, ground := Go.Ground.data }, { on := 3, ground := Go.Ground.chain }, { on := 0, ground := Go.Ground.phase }, { on := 1, ground := Go.Ground.phase }, { on := 2, ground := Go.Ground.phase }, { on := 3, ground := Go.Ground.phase }, { on := 4, ground := Go.Ground.phase }, { on := 5, ground := Go.Ground.phase }], guard := none }) rfl rfl (by kernel_rfl) (fun K9 hK9 => ?_)
            go_simp
            refine hK9 _ _ ⟨trivial, wpAnyH_done (by kernel_rfl) ?_ _⟩
            clear hK9
            simp only [noThrow, onlyEndM]
            exact ⟨_, _, _, _, _, rfl, by rw [erg, esg] at HTP; exact HTP.begins⟩
          · refine wp_call_of (f := 37) (args := #[.int .i64 0, .slice ra rn rcap, .int .i64 0]) (by go_simp) (l6New_any 0 (by omega) (.slice ra rn rcap) reads 0 (by omega) HRL.out A (HRD.out.keep (Bel.after B1.out BA))) ?_
            rintro e B ⟨P, rfl, vb, vc, cb, cc, rv9, rb, tb, tc, pb, pc, hS9⟩
            refine ⟨_, rfl, hK9 _ _ ⟨trivial, ?_⟩⟩
            (try simp only [Act.put, List.setIfInBounds_toArray, List.set_cons_zero, List.set_cons_succ])
            clear hK9
            have KB : Below A.heap.size A B := hS9.below
            have BB : Below w1.heap.size w1 B := Bel.after BA KB
            have hR9 := hS9.range
            replace hS9 : SAt w1 B P 0 (msR (macStart reads)) vb vc cb cc rv9 rb tb tc pb pc := hS9.low BA
            replace hr9 := hr9.keep KB
            refine ckAnyH_oneK (i := 1) (o := { dst := some 22, op := Go.Op.makeSlice 39 (Go.Operand.const (Go.Value.int Go.IntKind.i64 40)) (Go.Operand.const (Go.Value.int Go.IntKind.i64 40)), type := 39, pos := "l14_machine.go:104", after := #[], guard := none }) rfl rfl (by kernel_rfl) (fun K9 hK9 => ?_)
            refine wp_value (run_makeL rfl rfl rfl (make_ints 40 (by omega) B)) (hK9 _ _ ⟨trivial, ?_⟩)
            (try simp only [Act.put, List.setIfInBounds_toArray, List.set_cons_zero, List.set_cons_succ])
            clear hK9
            have hs9 : OwnInts (B.alloc (.cells (madeCells #[.int .i64 0] 40) 3)) w1.heap.size (.slice (some ⟨B.heap.size, 0, none⟩) 40 40) (listN 40 (fun _ => 0)) := own_made 40 (by omega) BB.size
            have Lsg : ∃ sg, sg = B.heap.size := ⟨_, rfl⟩
            obtain ⟨sg, esg⟩ := Lsg
            have Ssg : sg + 1 = (B.alloc (.cells (madeCells #[.int .i64 0] 40) 3)).heap.size := by simp [esg]
            have KC : Below B.heap.size B (B.alloc (.cells (madeCells #[.int .i64 0] 40) 3)) := Bel.alloc _ _
            rw [← esg] at hs9
            try rw [← esg]
            generalize B.alloc (.cells (madeCells #[.int .i64 0] 40) 3) = C at hs9 Ssg KC ⊢
            have BC : Below w1.heap.size w1 C := Bel.after BB KC
            replace hr9 := hr9.keep KC
            replace hS9 := hS9.later KC
            have Z1 := KA.size
            have Z2 := KB.size
            have Z3 := KC.size
            have HTP : TParts w1 C reads rg sg P := ⟨hr9, hs9, by omega, vb, vc, cb, cc, rv9, rb, tb, tc, pb, pc, hS9, by omega, by omega⟩
            clear hr9 hs9 hS9 hR9 Z1 Z2 Z3 KA KB KC
            refine wpAnyH_take (i := 4) (oi := { dst := some 25, op := Go.Op.build 66 #[(0, Go.Operand.tmp 21), (1, Go.Operand.tmp 22), (2, Go.Operand.tmp 24)], type := 66, pos := "l14_machine.go:104", after := #[{ on := 0, ground := Go.Ground.data }, { on := 1, ground := Go.Ground.data }, { on := 3, ground := Go.Ground.data }], guard := none }) (v := ?_) rfl (by kernel_rfl) (by kernel_rfl) (by kernel_rfl) (fun _ _ _ h => h) (Or.inl ⟨by rfl, ?_⟩) (by assumption) ?_
            rotate_left
            · intro w hSw
              (try dsimp only at hSw)
              go_simp
              (try with_reducible rfl)
            try simp only [Act.put, List.setIfInBounds_toArray, List.set_cons_zero, List.set_cons_succ]
            refine ckAnyH_oneK (i := 5) (o := { dst := some 26, op := Go.Op.box 66 (Go.Operand.tmp 25), type := 62, pos := "l14_machine.go:104", after := #[{ on := 4, ground := Go.Ground.data }], guard := none }) rfl rfl (by kernel_rfl) (fun K9 hK9 => ?_)
            go_simp
            refine hK9 _ _ ⟨trivial, ?_⟩
            (try simp only [Act.put, List.setIfInBounds_toArray, List.set_cons_zero, List.set_cons_succ])
            clear hK9
            refine ckAnyH_oneK (i := 6) (o := { dst := some 9, op := Go.Op.assign (Go.Operand.tmp 26), type := 62, pos := "l14_machine.go:104", after := #[{ on := 5, ground := Go.Ground.data }, { on := 3, ground := Go.Ground.chain }, { on := 0, ground := Go.Ground.phase }, { on := 1, ground := Go.Ground.phase }, { on := 2, ground := Go.Ground.phase }, { on := 3, ground := Go.Ground.phase }, { on := 4, ground := Go.Ground.phase }, { on := 5, ground := Go.Ground.phase }], guard := none }) rfl rfl (by kernel_rfl) (fun K9 hK9 => ?_)
            go_simp
            refine hK9 _ _ ⟨trivial, wpAnyH_done (by kernel_rfl) ?_ _⟩
            clear hK9
            simp only [noThrow, onlyEndM]
            exact ⟨_, _, _, _, _, rfl, by rw [erg, esg] at HTP; exact HTP.begins⟩
        · refine wp_value (run_makeL rfl rfl rfl (make_ints 40 (by omega) D)) (hK9 _ _ ⟨trivial, ?_⟩)
          (try simp only [Act.put, List.setIfInBounds_toArray, List.set_cons_zero, List.set_cons_succ])
          clear hK9
          have hs9 : OwnInts (D.alloc (.cells (madeCells #[.int .i64 0] 40) 3)) w1.heap.size (.slice (some ⟨D.heap.size, 0, none⟩) 40 40) (listN 40 (fun _ => 0)) := own_made 40 (by omega) BD.size
          have Lsg : ∃ sg, sg = D.heap.size := ⟨_, rfl⟩
          obtain ⟨sg, esg⟩ := Lsg
          have Ssg : sg + 1 = (D.alloc (.cells (madeCells #[.int .i64 0] 40) 3)).heap.size := by simp [esg]
          have KA : Below D.heap.size D (D.alloc (.cells (madeCells #[.int .i64 0] 40) 3)) := Bel.alloc _ _
          rw [← esg] at hs9
          try rw [← esg]
          generalize D.alloc (.cells (madeCells #[.int .i64 0] 40) 3) = A at hs9 Ssg KA ⊢
          have BA : Below w1.heap.size w1 A := Bel.after BD KA
          refine ckAnyH_twoK (i := 0) (i2 := 3) (o := { dst := some 21, op := Go.Op.makeSlice 39 (Go.Operand.const (Go.Value.int Go.IntKind.i64 8)) (Go.Operand.const (Go.Value.int Go.IntKind.i64 8)), type := 39, pos := "l14_machine.go:104", after := #[], guard := none }) (o2 := { dst := some 24, op := Go.Op.call { callee := Go.Callee.value (Go.Operand.func 37), args := #[Go.Operand.const (Go.Value.int Go.IntKind.i64 0), Go.Operand.tmp 23, Go.Operand.const (Go.Value.int Go.IntKind.i64 0)], argTypes := #[3, 39, 3] }, type := 63, pos := "l14_machine.go:104", after := #[{ on := 2, ground := Go.Ground.data }], guard := none }) rfl rfl rfl rfl (by kernel_rfl) (fun K9 hK9 => ?_) (fun K9 hK9 => ?_)
          · refine wp_value (run_makeL rfl rfl rfl (make_ints 8 (by omega) A)) (hK9 _ _ ⟨trivial, ?_⟩)
            (try simp only [Act.put, List.setIfInBounds_toArray, List.set_cons_zero, List.set_cons_succ])
            clear hK9
            have hr9 : OwnInts (A.alloc (.cells (madeCells #[.int .i64 0] 8) 3)) w1.heap.size (.slice (some ⟨A.heap.size, 0, none⟩) 8 8) (listN 8 (fun _ => 0)) := own_made 8 (by omega) BA.size
            have Lrg : ∃ rg, rg = A.heap.size := ⟨_, rfl⟩
            obtain ⟨rg, erg⟩ := Lrg
            have Srg : rg + 1 = (A.alloc (.cells (madeCells #[.int .i64 0] 8) 3)).heap.size := by simp [erg]
            have KB : Below A.heap.size A (A.alloc (.cells (madeCells #[.int .i64 0] 8) 3)) := Bel.alloc _ _
            rw [← erg] at hr9
            try rw [← erg]
            generalize A.alloc (.cells (madeCells #[.int .i64 0] 8) 3) = B at hr9 Srg KB ⊢
            have BB : Below w1.heap.size w1 B := Bel.after BA KB
            replace hs9 := hs9.keep KB
            refine ckAnyH_oneK (i := 3) (o := { dst := some 24, op := Go.Op.call { callee := Go.Callee.value (Go.Operand.func 37), args := #[Go.Operand.const (Go.Value.int Go.IntKind.i64 0), Go.Operand.tmp 23, Go.Operand.const (Go.Value.int Go.IntKind.i64 0)], argTypes := #[3, 39, 3] }, type := 63, pos := "l14_machine.go:104", after := #[{ on := 2, ground := Go.Ground.data }], guard := none }) rfl rfl (by kernel_rfl) (fun K9 hK9 => ?_)
            refine wp_call_of (f := 37) (args := #[.int .i64 0, .slice ra rn rcap, .int .i64 0]) (by go_simp) (l6New_any 0 (by omega) (.slice ra rn rcap) reads 0 (by omega) HRL.out B (HRD.out.keep (Bel.after B1.out BB))) ?_
            rintro e C ⟨P, rfl, vb, vc, cb, cc, rv9, rb, tb, tc, pb, pc, hS9⟩
            refine ⟨_, rfl, hK9 _ _ ⟨trivial, ?_⟩⟩
            (try simp only [Act.put, List.setIfInBounds_toArray, List.set_cons_zero, List.set_cons_succ])
            clear hK9
            have KC : Below B.heap.size B C := hS9.below
            have BC : Below w1.heap.size w1 C := Bel.after BB KC
            have hR9 := hS9.range
            replace hS9 : SAt w1 C P 0 (msR (macStart reads)) vb vc cb cc rv9 rb tb tc pb pc := hS9.low BB
            replace hs9 := hs9.keep KC
            replace hr9 := hr9.keep KC
            have Z1 := KA.size
            have Z2 := KB.size
            have Z3 := KC.size
            have HTP : TParts w1 C reads rg sg P := ⟨hr9, hs9, by omega, vb, vc, cb, cc, rv9, rb, tb, tc, pb, pc, hS9, by omega, by omega⟩
            clear hr9 hs9 hS9 hR9 Z1 Z2 Z3 KA KB KC
            refine wpAnyH_take (i := 4) (oi := { dst := some 25, op := Go.Op.build 66 #[(0, Go.Operand.tmp 21), (1, Go.Operand.tmp 22), (2, Go.Operand.tmp 24)], type := 66, pos := "l14_machine.go:104", after := #[{ on := 0, ground := Go.Ground.data }, { on := 1, ground := Go.Ground.data }, { on := 3, ground := Go.Ground.data }], guard := none }) (v := ?_) rfl (by kernel_rfl) (by kernel_rfl) (by kernel_rfl) (fun _ _ _ h => h) (Or.inl ⟨by rfl, ?_⟩) (by assumption) ?_
            rotate_left
            · intro w hSw
              (try dsimp only at hSw)
              go_simp
              (try with_reducible rfl)
            try simp only [Act.put, List.setIfInBounds_toArray, List.set_cons_zero, List.set_cons_succ]
            refine ckAnyH_oneK (i := 5) (o := { dst := some 26, op := Go.Op.box 66 (Go.Operand.tmp 25), type := 62, pos := "l14_machine.go:104", after := #[{ on := 4, ground := Go.Ground.data }], guard := none }) rfl rfl (by kernel_rfl) (fun K9 hK9 => ?_)
            go_simp
            refine hK9 _ _ ⟨trivial, ?_⟩
            (try simp only [Act.put, List.setIfInBounds_toArray, List.set_cons_zero, List.set_cons_succ])
            clear hK9
            refine ckAnyH_oneK (i := 6) (o := { dst := some 9, op := Go.Op.assign (Go.Operand.tmp 26), type := 62, pos := "l14_machine.go:104", after := #[{ on := 5, ground := Go.Ground.data }, { on := 3, ground := Go.Ground.chain }, { on := 0, ground := Go.Ground.phase }, { on := 1, ground := Go.Ground.phase }, { on := 2, ground := Go.Ground.phase }, { on := 3, ground := Go.Ground.phase }, { on := 4, ground := Go.Ground.phase }, { on := 5, ground := Go.Ground.phase }], guard := none }) rfl rfl (by kernel_rfl) (fun K9 hK9 => ?_)
            go_simp
            refine hK9 _ _ ⟨trivial, wpAnyH_done (by kernel_rfl) ?_ _⟩
            clear hK9
            simp only [noThrow, onlyEndM]
            exact ⟨_, _, _, _, _, rfl, by rw [erg, esg] at HTP; exact HTP.begins⟩
          · refine wp_call_of (f := 37) (args := #[.int .i64 0, .slice ra rn rcap, .int .i64 0]) (by go_simp) (l6New_any 0 (by omega) (.slice ra rn rcap) reads 0 (by omega) HRL.out A (HRD.out.keep (Bel.after B1.out BA))) ?_
            rintro e B ⟨P, rfl, vb, vc, cb, cc, rv9, rb, tb, tc, pb, pc, hS9⟩
            refine ⟨_, rfl, hK9 _ _ ⟨trivial, ?_⟩⟩
            (try simp only [Act.put, List.setIfInBounds_toArray, List.set_cons_zero, List.set_cons_succ])
            clear hK9
            have KB : Below A.heap.size A B := hS9.below
            have BB : Below w1.heap.size w1 B := Bel.after BA KB
            have hR9 := hS9.range
            replace hS9 : SAt w1 B P 0 (msR (macStart reads)) vb vc cb cc rv9 rb tb tc pb pc := hS9.low BA
            replace hs9 := hs9.keep KB
            refine ckAnyH_oneK (i := 0) (o := { dst := some 21, op := Go.Op.makeSlice 39 (Go.Operand.const (Go.Value.int Go.IntKind.i64 8)) (Go.Operand.const (Go.Value.int Go.IntKind.i64 8)), type := 39, pos := "l14_machine.go:104", after := #[], guard := none }) rfl rfl (by kernel_rfl) (fun K9 hK9 => ?_)
            refine wp_value (run_makeL rfl rfl rfl (make_ints 8 (by omega) B)) (hK9 _ _ ⟨trivial, ?_⟩)
            (try simp only [Act.put, List.setIfInBounds_toArray, List.set_cons_zero, List.set_cons_succ])
            clear hK9
            have hr9 : OwnInts (B.alloc (.cells (madeCells #[.int .i64 0] 8) 3)) w1.heap.size (.slice (some ⟨B.heap.size, 0, none⟩) 8 8) (listN 8 (fun _ => 0)) := own_made 8 (by omega) BB.size
            have Lrg : ∃ rg, rg = B.heap.size := ⟨_, rfl⟩
            obtain ⟨rg, erg⟩ := Lrg
            have Srg : rg + 1 = (B.alloc (.cells (madeCells #[.int .i64 0] 8) 3)).heap.size := by simp [erg]
            have KC : Below B.heap.size B (B.alloc (.cells (madeCells #[.int .i64 0] 8) 3)) := Bel.alloc _ _
            rw [← erg] at hr9
            try rw [← erg]
            generalize B.alloc (.cells (madeCells #[.int .i64 0] 8) 3) = C at hr9 Srg KC ⊢
            have BC : Below w1.heap.size w1 C := Bel.after BB KC
            replace hs9 := hs9.keep KC
            replace hS9 := hS9.later KC
            have Z1 := KA.size
            have Z2 := KB.size
            have Z3 := KC.size
            have HTP : TParts w1 C reads rg sg P := ⟨hr9, hs9, by omega, vb, vc, cb, cc, rv9, rb, tb, tc, pb, pc, hS9, by omega, by omega⟩
            clear hr9 hs9 hS9 hR9 Z1 Z2 Z3 KA KB KC
            refine wpAnyH_take (i := 4) (oi := { dst := some 25, op := Go.Op.build 66 #[(0, Go.Operand.tmp 21), (1, Go.Operand.tmp 22), (2, Go.Operand.tmp 24)], type := 66, pos := "l14_machine.go:104", after := #[{ on := 0, ground := Go.Ground.data }, { on := 1, ground := Go.Ground.data }, { on := 3, ground := Go.Ground.data }], guard := none }) (v := ?_) rfl (by kernel_rfl) (by kernel_rfl) (by kernel_rfl) (fun _ _ _ h => h) (Or.inl ⟨by rfl, ?_⟩) (by assumption) ?_
            rotate_left
            · intro w hSw
              (try dsimp only at hSw)
              go_simp
              (try with_reducible rfl)
            try simp only [Act.put, List.setIfInBounds_toArray, List.set_cons_zero, List.set_cons_succ]
            refine ckAnyH_oneK (i := 5) (o := { dst := some 26, op := Go.Op.box 66 (Go.Operand.tmp 25), type := 62, pos := "l14_machine.go:104", after := #[{ on := 4, ground := Go.Ground.data }], guard := none }) rfl rfl (by kernel_rfl) (fun K9 hK9 => ?_)
            go_simp
            refine hK9 _ _ ⟨trivial, ?_⟩
            (try simp only [Act.put, List.setIfInBounds_toArray, List.set_cons_zero, List.set_cons_succ])
            clear hK9
            refine ckAnyH_oneK (i := 6) (o := { dst := some 9, op := Go.Op.assign (Go.Operand.tmp 26), type := 62, pos := "l14_machine.go:104", after := #[{ on := 5, ground := Go.Ground.data }, { on := 3, ground := Go.Ground.chain }, { on := 0, ground := Go.Ground.phase }, { on := 1, ground := Go.Ground.phase }, { on := 2, ground := Go.Ground.phase }, { on := 3, ground := Go.Ground.phase }, { on := 4, ground := Go.Ground.phase }, { on := 5, ground := Go.Ground.phase }], guard := none }) rfl rfl (by kernel_rfl) (fun K9 hK9 => ?_)
            go_simp
            refine hK9 _ _ ⟨trivial, wpAnyH_done (by kernel_rfl) ?_ _⟩
            clear hK9
            simp only [noThrow, onlyEndM]
            exact ⟨_, _, _, _, _, rfl, by rw [erg, esg] at HTP; exact HTP.begins⟩
        · refine wp_call_of (f := 37) (args := #[.int .i64 0, .slice ra rn rcap, .int .i64 0]) (by go_simp) (l6New_any 0 (by omega) (.slice ra rn rcap) reads 0 (by omega) HRL.out D (HRD.out.keep (Bel.after B1.out BD))) ?_
          rintro e A ⟨P, rfl, vb, vc, cb, cc, rv9, rb, tb, tc, pb, pc, hS9⟩
          refine ⟨_, rfl, hK9 _ _ ⟨trivial, ?_⟩⟩
          (try simp only [Act.put, List.setIfInBounds_toArray, List.set_cons_zero, List.set_cons_succ])
          clear hK9
          have KA : Below D.heap.size D A := hS9.below
          have BA : Below w1.heap.size w1 A := Bel.after BD KA
          have hR9 := hS9.range
          replace hS9 : SAt w1 A P 0 (msR (macStart reads)) vb vc cb cc rv9 rb tb tc pb pc := hS9.low BD
          refine ckAnyH_twoK (i := 0) (i2 := 1) (o := { dst := some 21, op := Go.Op.makeSlice 39 (Go.Operand.const (Go.Value.int Go.IntKind.i64 8)) (Go.Operand.const (Go.Value.int Go.IntKind.i64 8)), type := 39, pos := "l14_machine.go:104", after := #[], guard := none }) (o2 := { dst := some 22, op := Go.Op.makeSlice 39 (Go.Operand.const (Go.Value.int Go.IntKind.i64 40)) (Go.Operand.const (Go.Value.int Go.IntKind.i64 40)), type := 39, pos := "l14_machine.go:104", after := #[], guard := none }) rfl rfl rfl rfl (by kernel_rfl) (fun K9 hK9 => ?_) (fun K9 hK9 => ?_)
          · refine wp_value (run_makeL rfl rfl rfl (make_ints 8 (by omega) A)) (hK9 _ _ ⟨trivial, ?_⟩)
            (try simp only [Act.put, List.setIfInBounds_toArray, List.set_cons_zero, List.set_cons_succ])
            clear hK9
            have hr9 : OwnInts (A.alloc (.cells (madeCells #[.int .i64 0] 8) 3)) w1.heap.size (.slice (some ⟨A.heap.size, 0, none⟩) 8 8) (listN 8 (fun _ => 0)) := own_made 8 (by omega) BA.size
            have Lrg : ∃ rg, rg = A.heap.size := ⟨_, rfl⟩
            obtain ⟨rg, erg⟩ := Lrg
            have Srg : rg + 1 = (A.alloc (.cells (madeCells #[.int .i64 0] 8) 3)).heap.size := by simp [erg]
            have KB : Below A.heap.size A (A.alloc (.cells (madeCells #[.int .i64 0] 8) 3)) := Bel.alloc _ _
            rw [← erg] at hr9
            try rw [← erg]
            generalize A.alloc (.cells (madeCells #[.int .i64 0] 8) 3) = B at hr9 Srg KB ⊢
            have BB : Below w1.heap.size w1 B := Bel.after BA KB
            replace hS9 := hS9.later KB
            refine ckAnyH_oneK (i := 1) (o := { dst := some 22, op := Go.Op.makeSlice 39 (Go.Operand.const (Go.Value.int Go.IntKind.i64 40)) (Go.Operand.const (Go.Value.int Go.IntKind.i64 40)), type := 39, pos := "l14_machine.go:104", after := #[], guard := none }) rfl rfl (by kernel_rfl) (fun K9 hK9 => ?_)
            refine wp_value (run_makeL rfl rfl rfl (make_ints 40 (by omega) B)) (hK9 _ _ ⟨trivial, ?_⟩)
            (try simp only [Act.put, List.setIfInBounds_toArray, List.set_cons_zero, List.set_cons_succ])
            clear hK9
            have hs9 : OwnInts (B.alloc (.cells (madeCells #[.int .i64 0] 40) 3)) w1.heap.size (.slice (some ⟨B.heap.size, 0, none⟩) 40 40) (listN 40 (fun _ => 0)) := own_made 40 (by omega) BB.size
            have Lsg : ∃ sg, sg = B.heap.size := ⟨_, rfl⟩
            obtain ⟨sg, esg⟩ := Lsg
            have Ssg : sg + 1 = (B.alloc (.cells (madeCells #[.int .i64 0] 40) 3)).heap.size := by simp [esg]
            have KC : Below B.heap.size B (B.alloc (.cells (madeCells #[.int .i64 0] 40) 3)) := Bel.alloc _ _
            rw [← esg] at hs9
            try rw [← esg]
            generalize B.alloc (.cells (madeCells #[.int .i64 0] 40) 3) = C at hs9 Ssg KC ⊢
            have BC : Below w1.heap.size w1 C := Bel.after BB KC
            replace hS9 := hS9.later KC
            replace hr9 := hr9.keep KC
            have Z1 := KA.size
            have Z2 := KB.size
            have Z3 := KC.size
            have HTP : TParts w1 C reads rg sg P := ⟨hr9, hs9, by omega, vb, vc, cb, cc, rv9, rb, tb, tc, pb, pc, hS9, by omega, by omega⟩
            clear hr9 hs9 hS9 hR9 Z1 Z2 Z3 KA KB KC
            refine wpAnyH_take (i := 4) (oi := { dst := some 25, op := Go.Op.build 66 #[(0, Go.Operand.tmp 21), (1, Go.Operand.tmp 22), (2, Go.Operand.tmp 24)], type := 66, pos := "l14_machine.go:104", after := #[{ on := 0, ground := Go.Ground.data }, { on := 1, ground := Go.Ground.data }, { on := 3, ground := Go.Ground.data }], guard := none }) (v := ?_) rfl (by kernel_rfl) (by kernel_rfl) (by kernel_rfl) (fun _ _ _ h => h) (Or.inl ⟨by rfl, ?_⟩) (by assumption) ?_
            rotate_left
            · intro w hSw
              (try dsimp only at hSw)
              go_simp
              (try with_reducible rfl)
            try simp only [Act.put, List.setIfInBounds_toArray, List.set_cons_zero, List.set_cons_succ]
            refine ckAnyH_oneK (i := 5) (o := { dst := some 26, op := Go.Op.box 66 (Go.Operand.tmp 25), type := 62, pos := "l14_machine.go:104", after := #[{ on := 4, ground := Go.Ground.data }], guard := none }) rfl rfl (by kernel_rfl) (fun K9 hK9 => ?_)
            go_simp
            refine hK9 _ _ ⟨trivial, ?_⟩
            (try simp only [Act.put, List.setIfInBounds_toArray, List.set_cons_zero, List.set_cons_succ])
            clear hK9
            refine ckAnyH_oneK (i := 6) (o := { dst := some 9, op := Go.Op.assign (Go.Operand.tmp 26), type := 62, pos := "l14_machine.go:104", after := #[{ on := 5, ground := Go.Ground.data }, { on := 3, ground := Go.Ground.chain }, { on := 0, ground := Go.Ground.phase }, { on := 1, ground := Go.Ground.phase }, { on := 2, ground := Go.Ground.phase }, { on := 3, ground := Go.Ground.phase }, { on := 4, ground := Go.Ground.phase }, { on := 5, ground := Go.Ground.phase }], guard := none }) rfl rfl (by kernel_rfl) (fun K9 hK9 => ?_)
            go_simp
            refine hK9 _ _ ⟨trivial, wpAnyH_done (by kernel_rfl) ?_ _⟩
            clear hK9
            simp only [noThrow, onlyEndM]
            exact ⟨_, _, _, _, _, rfl, by rw [erg, esg] at HTP; exact HTP.begins⟩
          · refine wp_value (run_makeL rfl rfl rfl (make_ints 40 (by omega) A)) (hK9 _ _ ⟨trivial, ?_⟩)
            (try simp only [Act.put, List.setIfInBounds_toArray, List.set_cons_zero, List.set_cons_succ])
            clear hK9
            have hs9 : OwnInts (A.alloc (.cells (madeCells #[.int .i64 0] 40) 3)) w1.heap.size (.slice (some ⟨A.heap.size, 0, none⟩) 40 40) (listN 40 (fun _ => 0)) := own_made 40 (by omega) BA.size
            have Lsg : ∃ sg, sg = A.heap.size := ⟨_, rfl⟩
            obtain ⟨sg, esg⟩ := Lsg
            have Ssg : sg + 1 = (A.alloc (.cells (madeCells #[.int .i64 0] 40) 3)).heap.size := by simp [esg]
            have KB : Below A.heap.size A (A.alloc (.cells (madeCells #[.int .i64 0] 40) 3)) := Bel.alloc _ _
            rw [← esg] at hs9
            try rw [← esg]
            generalize A.alloc (.cells (madeCells #[.int .i64 0] 40) 3) = B at hs9 Ssg KB ⊢
            have BB : Below w1.heap.size w1 B := Bel.after BA KB
            replace hS9 := hS9.later KB
            refine ckAnyH_oneK (i := 0) (o := { dst := some 21, op := Go.Op.makeSlice 39 (Go.Operand.const (Go.Value.int Go.IntKind.i64 8)) (Go.Operand.const (Go.Value.int Go.IntKind.i64 8)), type := 39, pos := "l14_machine.go:104", after := #[], guard := none }) rfl rfl (by kernel_rfl) (fun K9 hK9 => ?_)
            refine wp_value (run_makeL rfl rfl rfl (make_ints 8 (by omega) B)) (hK9 _ _ ⟨trivial, ?_⟩)
            (try simp only [Act.put, List.setIfInBounds_toArray, List.set_cons_zero, List.set_cons_succ])
            clear hK9
            have hr9 : OwnInts (B.alloc (.cells (madeCells #[.int .i64 0] 8) 3)) w1.heap.size (.slice (some ⟨B.heap.size, 0, none⟩) 8 8) (listN 8 (fun _ => 0)) := own_made 8 (by omega) BB.size
            have Lrg : ∃ rg, rg = B.heap.size := ⟨_, rfl⟩
            obtain ⟨rg, erg⟩ := Lrg
            have Srg : rg + 1 = (B.alloc (.cells (madeCells #[.int .i64 0] 8) 3)).heap.size := by simp [erg]
            have KC : Below B.heap.size B (B.alloc (.cells (madeCells #[.int .i64 0] 8) 3)) := Bel.alloc _ _
            rw [← erg] at hr9
            try rw [← erg]
            generalize B.alloc (.cells (madeCells #[.int .i64 0] 8) 3) = C at hr9 Srg KC ⊢
            have BC : Below w1.heap.size w1 C := Bel.after BB KC
            replace hS9 := hS9.later KC
            replace hs9 := hs9.keep KC
            have Z1 := KA.size
            have Z2 := KB.size
            have Z3 := KC.size
            have HTP : TParts w1 C reads rg sg P := ⟨hr9, hs9, by omega, vb, vc, cb, cc, rv9, rb, tb, tc, pb, pc, hS9, by omega, by omega⟩
            clear hr9 hs9 hS9 hR9 Z1 Z2 Z3 KA KB KC
            refine wpAnyH_take (i := 4) (oi := { dst := some 25, op := Go.Op.build 66 #[(0, Go.Operand.tmp 21), (1, Go.Operand.tmp 22), (2, Go.Operand.tmp 24)], type := 66, pos := "l14_machine.go:104", after := #[{ on := 0, ground := Go.Ground.data }, { on := 1, ground := Go.Ground.data }, { on := 3, ground := Go.Ground.data }], guard := none }) (v := ?_) rfl (by kernel_rfl) (by kernel_rfl) (by kernel_rfl) (fun _ _ _ h => h) (Or.inl ⟨by rfl, ?_⟩) (by assumption) ?_
            rotate_left
            · intro w hSw
              (try dsimp only at hSw)
              go_simp
              (try with_reducible rfl)
            try simp only [Act.put, List.setIfInBounds_toArray, List.set_cons_zero, List.set_cons_succ]
            refine ckAnyH_oneK (i := 5) (o := { dst := some 26, op := Go.Op.box 66 (Go.Operand.tmp 25), type := 62, pos := "l14_machine.go:104", after := #[{ on := 4, ground := Go.Ground.data }], guard := none }) rfl rfl (by kernel_rfl) (fun K9 hK9 => ?_)
            go_simp
            refine hK9 _ _ ⟨trivial, ?_⟩
            (try simp only [Act.put, List.setIfInBounds_toArray, List.set_cons_zero, List.set_cons_succ])
            clear hK9
            refine ckAnyH_oneK (i := 6) (o := { dst := some 9, op := Go.Op.assign (Go.Operand.tmp 26), type := 62, pos := "l14_machine.go:104", after := #[{ on := 5, ground := Go.Ground.data }, { on := 3, ground := Go.Ground.chain }, { on := 0, ground := Go.Ground.phase }, { on := 1, ground := Go.Ground.phase }, { on := 2, ground := Go.Ground.phase }, { on := 3, ground := Go.Ground.phase }, { on := 4, ground := Go.Ground.phase }, { on := 5, ground := Go.Ground.phase }], guard := none }) rfl rfl (by kernel_rfl) (fun K9 hK9 => ?_)
            go_simp
            refine hK9 _ _ ⟨trivial, wpAnyH_done (by kernel_rfl) ?_ _⟩
            clear hK9
            simp only [noThrow, onlyEndM]
            exact ⟨_, _, _, _, _, rfl, by rw [erg, esg] at HTP; exact HTP.begins⟩
end Go.Proofs.YtebcocehdjoafaaDoor
