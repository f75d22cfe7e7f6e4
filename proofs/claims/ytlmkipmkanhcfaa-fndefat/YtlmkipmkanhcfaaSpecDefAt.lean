/- Where a value is made: the model's DefAt tells what the document says, for every program. -/
import Derived.Test.YtlmkipmkanhcfaaMakes
import Derived.Test.YtlmkipmkanhcfaaShape8
namespace Go.Proofs.Ytlmkipmkanhcfaa
open Go.ChangeShapes Go.WideShapes Go.ChangeAt Go.RowKit
set_option linter.unusedVariables false

/-- Two numbers are given; the world only grows. -/
def GivesPair (w : World) (p : Int × Int) (e : Ending) (w' : World) : Prop := e = .returned (.tuple #[.int .i64 p.1, .int .i64 p.2]) ∧ Below w.heap.size w w'
theorem makes_ok {vals : Int} {i : InsD} (h : placeOkV vals i = true) (hm : makesV i.op = true) : 0 ≤ i.d := by
  unfold placeOkV insOkV at h
  simp only [makesV, decide_eq_true_eq] at hm
  by_cases h1 : 1 ≤ i.op ∧ i.op ≤ 10
  · rw [if_pos h1] at h
    simp [valIn] at h
    omega
  · rw [if_neg h1] at h
    have hc : i.op = 20 ∨ i.op = 21 ∨ i.op = 24 ∨ i.op = 25 := by omega
    rcases hc with hc | hc | hc | hc <;> simp [hc, valIn] at h <;> omega
theorem ins_hit {op d x : Int} (h0 : 0 ≤ x) (h : insDefV op d = x) : makesV op = true ∧ d = x := by
  unfold insDefV at h
  by_cases hm : makesV op = true
  · rw [if_pos hm] at h
    exact ⟨hm, h⟩
  · rw [if_neg hm] at h
    omega
theorem ins_miss {op d x : Int} (h : ¬ insDefV op d = x) : makesV op = false ∨ d ≠ x := by
  unfold insDefV at h
  cases hm : makesV op
  · exact .inl rfl
  · rw [if_pos hm] at h
    exact .inr h
theorem firstV_ins {v : Int} {b k : Nat} {L : List Made} {l : List InsD} {i : InsD} (hi : l[k]? = some i) (h : firstV v (L ++ insMakes b l k) = none) (hm : makesV i.op = false ∨ i.d ≠ v) : firstV v (L ++ insMakes b l (k + 1)) = none := by
  cases e : makesV i.op with
  | false => rw [insMakes_no hi e]; exact h
  | true =>
    rw [insMakes_yes hi e, ← List.append_assoc]
    refine firstV_miss h ?_
    rcases hm with hm | hm
    · rw [e] at hm
      cases hm
    · exact hm
theorem firstV_phi {v : Int} {b k : Nat} {L : List Made} {l : List PhiD} {p : PhiD} (hi : l[k]? = some p) (h : firstV v (L ++ phiMakes b (l.take k)) = none) (hm : p.d ≠ v) : firstV v (L ++ phiMakes b (l.take (k + 1))) = none := by
  rw [phiMakes_next hi, ← List.append_assoc]
  exact firstV_miss h hm

set_option maxRecDepth 100000 in
set_option maxHeartbeats 8000000 in
theorem l5DefAt_any (v : Value) (F : FnD) (x : Int) (w : World) (hF : FnAt w v F) (hS : FnShape F) :
    Calls Try.prog 57 #[v, .int .i64 x] w fun e w' => GivesPair w (defAtOf F x) e w' := by
  have HF : Hid (FnAt w v F) := hF
  have HS : Hid (FnShape F) := hS
  obtain ⟨n, HN⟩ : ∃ n, Hid (F.blocks.length = n) := ⟨_, rfl⟩
  have hbm : n ≤ 9223372036854775807 := by have h1 := hS.2.1; have h2 := HN.out; omega
  obtain ⟨ba, bcap, vals, rfl⟩ : ∃ ba bcap vals, v = .agg #[.slice ba n bcap, .int .i64 vals] := by
    obtain ⟨bv, rfl, a, cap, rfl, _, _⟩ := hF
    exact ⟨a, cap, F.values, by rw [HN.out]⟩
  clear hF hS
  go_enter Try.func57, Try.ntmps57
  go_wp2
  obtain ⟨w2, hw2⟩ : ∃ w2, w.alloc (.cells #[.slice ba n bcap, .int .i64 vals] 26) = w2 := ⟨_, rfl⟩
  obtain ⟨X, hX⟩ : ∃ X, w.heap.size = X := ⟨_, rfl⟩
  have hb2 : Below w.heap.size w w2 := by rw [← hw2]; exact Bel.alloc _ _
  have f2 : w2.cell? ⟨X, 0, none⟩ = some (.slice ba n bcap) := by rw [← hw2, ← hX]; simp [go_sem]
  have B2 : Hid (Below w.heap.size w w2) := hb2
  have F2 : Hid (FnAt w2 (.agg #[.slice ba n bcap, .int .i64 vals]) F) := HF.out.later hb2
  rw [hw2, hX]
  clear hw2 hX hb2 HF
  go_loopw [6] (fun i wr => ∃ k : Nat, k ≤ n ∧ i = .int .i64 k ∧ firstV x (makesUp F k) = none ∧ Below w2.heap.size w2 wr) (fun i _ => n - (intOf i).toNat)
  case atStart => exact ⟨0, Nat.zero_le _, rfl, rfl, Below.refl _ _⟩
  case round =>
    obtain ⟨wq, hwq⟩ : ∃ x, x = wr := ⟨_, rfl⟩
    subst hwq
    obtain ⟨k, hk, rfl, hfi, hb⟩ := hrel
    have HFI : Hid (firstV x (makesUp F k) = none) := hfi
    have HB : Hid (Below w2.heap.size w2 wq) := hb
    have f3 := Bel.keeps hb f2
    have F3 : Hid (FnAt wq (.agg #[.slice ba n bcap, .int .i64 vals]) F) := F2.out.later hb
    clear hfi hb
    by_cases hlt : (k : Int) < (n : Int)
    · have hkl : k < F.blocks.length := by have := HN.out; omega
      obtain ⟨y, HX⟩ : ∃ y, Hid (F.blocks[k]? = some y) := ⟨F.blocks[k], List.getElem?_eq_getElem hkl⟩
      obtain ⟨b, off, hba, pv, lv, c0, c1, -, -, -, -, hpv, hlv⟩ : ∃ b off, ba = some ⟨b, off, none⟩ ∧ BlockAt 0 wq b (off + k * 6) y := by
        obtain ⟨bv, hv, a, cap, e, h1, h2⟩ := F3.out
        obtain ⟨b, off, ha, _, hc⟩ := h2 (by omega)
        obtain rfl : bv = .slice ba n bcap := by simp at hv; exact hv.1.symm
        simp at e
        exact ⟨b, off, e.1.trans ha, hc k y HX.out⟩
      subst hba
      have HOK : Hid (BlockOk (F.blocks.length : Int) F.values y) := HS.out.2.2.2.2 k y HX.out
      obtain ⟨x0, x1, xt⟩ := y
      have HPV : Hid (ListAt 0 2 (PhiAt 0) wq pv x0) := hpv
      have HLV : Hid (ListAt 0 5 InsAt wq lv x1) := hlv
      obtain ⟨pa, pcap, rfl, hpm, -⟩ := hpv
      obtain ⟨la, lcap, rfl, hlm, -⟩ := hlv
      obtain ⟨pn, HPN⟩ : ∃ n, Hid (x0.length = n) := ⟨_, rfl⟩
      obtain ⟨ln, HLN⟩ : ∃ n, Hid (x1.length = n) := ⟨_, rfl⟩
      rw [HPN.out] at hpm c0
      rw [HLN.out] at hlm c1
      have F4 : Hid (wq.cell? ⟨X, 0, none⟩ = some (.slice (some ⟨b, off, none⟩) n bcap)) := f3
      have C0 : Hid (wq.cell? ⟨b, off + k * 6, none⟩ = some (.slice pa pn pcap)) := c0
      have C1 : Hid (wq.cell? ⟨b, off + k * 6 + 1, none⟩ = some (.slice la ln lcap)) := c1
      clear hkl f2 F2
      go_wp2
      go_loopw [7] (fun i wr => ∃ j : Nat, j ≤ pn ∧ i = .int .i64 j ∧ firstV x (makesUp F k ++ phiMakes k (x0.take j)) = none ∧ Below wq.heap.size wq wr) (fun i _ => pn - (intOf i).toNat)
      case atStart => exact ⟨0, Nat.zero_le _, rfl, by simpa [phiMakes] using HFI.out, Below.refl _ _⟩
      case round =>
        obtain ⟨wp, hwp⟩ : ∃ x, x = wr := ⟨_, rfl⟩
        subst hwp
        obtain ⟨j, hj, rfl, hfj, hbj⟩ := hrel
        have HFJ : Hid (firstV x (makesUp F k ++ phiMakes k (x0.take j)) = none) := hfj
        have HBJ : Hid (Below wq.heap.size wq wp) := hbj
        replace f3 := Bel.keeps hbj f3
        replace c0 := Bel.keeps hbj c0
        replace c1 := Bel.keeps hbj c1
        have P2 : Hid (ListAt 0 2 (PhiAt 0) wp (.slice pa x0.length pcap) x0) := phis_keep HPV.out (Keeps.of_below hbj 0)
        clear hfj hbj
        by_cases hltj : (j : Int) < (pn : Int)
        · have hjl : j < x0.length := by have := HPN.out; omega
          obtain ⟨p, HX2⟩ : ∃ p, Hid (x0[j]? = some p) := ⟨x0[j], List.getElem?_eq_getElem hjl⟩
          obtain ⟨b', off', hpa, p0, -⟩ : ∃ b off, pa = some ⟨b, off, none⟩ ∧ PhiAt 0 wp b (off + j * 2) p := by
            obtain ⟨a, cap, e, h1, h2⟩ := P2.out
            obtain ⟨b, off, ha, _, hc⟩ := h2 (by omega)
            simp at e
            exact ⟨b, off, e.1.trans ha, hc j p HX2.out⟩
          subst hpa
          obtain ⟨pd, arms⟩ := p
          dsimp only at p0
          clear hjl
          by_cases hpd : pd = x
          · have hpb : (pd == x) = true := by simp [hpd]
            have HR : Hid (defAtOf F x = ((k : Int), -1)) := defAtOf_hit (x := (pd, (k : Int), -1)) HS.out HFJ.out hpd (by
              have h1 := makes_phi (k := j + 1) HX.out
              dsimp only at h1
              rw [phiMakes_next HX2.out, ← List.append_assoc] at h1
              exact h1)
            go_wp2
            go_ret2
            exact ⟨by rw [HR.out]; rfl, Bel.after B2.out (Bel.after HB.out HBJ.out)⟩
          · have hpb : (pd == x) = false := by simp [hpd]
            have HPD : Hid (¬ pd = x) := hpd
            clear hpd
            go_wp2
            go_roundw
            case rel => exact ⟨j + 1, by omega, by go_num, firstV_phi HX2.out HFJ.out HPD.out, HBJ.out⟩
            case measure => simp [intOf]; omega
        · have hjn : pn = j := by omega
          subst hjn
          have HF0 : Hid (firstV x (makesUp F k ++ phiMakes k x0 ++ insMakes k x1 0) = none) := by
            have h1 := HFJ.out
            rw [← HPN.out, List.take_length] at h1
            exact (congrArg (firstV x) (List.append_nil _)).trans h1
          clear HFJ P2
          go_wp2
          go_loopw [8] (fun i wr => ∃ j : Nat, j ≤ ln ∧ i = .int .i64 j ∧ firstV x (makesUp F k ++ phiMakes k x0 ++ insMakes k x1 j) = none ∧ Below wq.heap.size wq wr) (fun i _ => ln - (intOf i).toNat)
          case atStart => exact ⟨0, Nat.zero_le _, rfl, HF0.out, HBJ.out⟩
          case round =>
            clear f3 c0 c1 HBJ HF0
            obtain ⟨wp2, hwp⟩ : ∃ x, x = wr := ⟨_, rfl⟩
            subst hwp
            obtain ⟨j, hj, rfl, hfj, hbj⟩ := hrel
            have HFJ : Hid (firstV x (makesUp F k ++ phiMakes k x0 ++ insMakes k x1 j) = none) := hfj
            have HBJ : Hid (Below wq.heap.size wq wp2) := hbj
            have f3 := Bel.keeps hbj F4.out
            have c0 := Bel.keeps hbj C0.out
            have c1 := Bel.keeps hbj C1.out
            have L2 : Hid (ListAt 0 5 InsAt wp2 (.slice la x1.length lcap) x1) := places_keep HLV.out (Keeps.of_below hbj 0)
            clear hfj hbj
            by_cases hltj : (j : Int) < (ln : Int)
            · have hjl : j < x1.length := by have := HLN.out; omega
              obtain ⟨p, HX2⟩ : ∃ p, Hid (x1[j]? = some p) := ⟨x1[j], List.getElem?_eq_getElem hjl⟩
              obtain ⟨b', off', hpa, p0, p1, p2, p3, p4⟩ : ∃ b off, la = some ⟨b, off, none⟩ ∧ InsAt wp2 b (off + j * 5) p := by
                obtain ⟨a, cap, e, h1, h2⟩ := L2.out
                obtain ⟨b, off, ha, _, hc⟩ := h2 (by omega)
                simp at e
                exact ⟨b, off, e.1.trans ha, hc j p HX2.out⟩
              subst hpa
              have HPO : Hid (placeOkV F.values p = true) := HOK.out.2.2.2.1 j p HX2.out
              obtain ⟨iop, id, ia, ib, ic⟩ := p
              dsimp only at p0 p1 p2 p3 p4
              have JL : j + 1 ≤ x1.length := hjl
              clear hjl
              by_cases hx0 : 0 ≤ x
              · obtain ⟨md, HMD⟩ : ∃ x, Hid (insDefV iop id = x) := ⟨_, rfl⟩
                go_wp2_with fail
                refine (spec_insDef iop id ia ib ic _).mono ?_
                rw [HMD.out]
                rintro e w3 ⟨rfl, b3⟩
                have HB3 : Hid (Below wq.heap.size wq w3) := Bel.after HBJ.out b3
                clear b3
                by_cases hmx : md = x
                · have hmb : (md == x) = true := by simp [hmx]
                  have hh := ins_hit hx0 (HMD.out.trans hmx)
                  have HR : Hid (defAtOf F x = ((k : Int), (j : Int))) := defAtOf_hit (x := (id, (k : Int), (j : Int))) HS.out HFJ.out hh.2 (by
                    have h1 := makes_ins (k := j + 1) HX.out JL
                    dsimp only at h1
                    rw [insMakes_yes HX2.out hh.1, ← List.append_assoc] at h1
                    exact h1)
                  clear hh
                  go_wp2
                  go_ret2
                  exact ⟨by rw [HR.out]; rfl, Bel.after B2.out (Bel.after HB.out HB3.out)⟩
                · have hmb : (md == x) = false := by simp [hmx]
                  have HM : Hid (¬ insDefV iop id = x) := fun e => hmx (HMD.out.symm.trans e)
                  clear hmx
                  go_wp2
                  go_roundw
                  case rel => exact ⟨j + 1, by omega, by go_num, firstV_ins HX2.out HFJ.out (ins_miss HM.out), HB3.out⟩
                  case measure => simp [intOf]; omega
              · have HM : Hid (makesV iop = false ∨ id ≠ x) := by
                  cases hm : makesV iop with
                  | false => exact .inl rfl
                  | true =>
                    have h1 := makes_ok HPO.out hm
                    dsimp only at h1
                    exact .inr (by omega)
                go_wp2
                go_roundw
                case rel => exact ⟨j + 1, by omega, by go_num, firstV_ins HX2.out HFJ.out HM.out, HBJ.out⟩
                case measure => simp [intOf]; omega
            · have hjn : ln = j := by omega
              subst hjn
              have HF1 : Hid (firstV x (makesUp F (k + 1)) = none) := by
                have h1 := makesUp_next HX.out
                have h2 := HFJ.out
                rw [← HLN.out, List.append_assoc] at h2
                rw [h1]
                exact h2
              go_wp2
              go_roundw
              case rel => exact ⟨k + 1, by omega, by go_num, HF1.out, Bel.after HB.out HBJ.out⟩
              case measure => simp [intOf]; omega
    · have hkn : n = k := by omega
      subst hkn
      have HR : Hid (defAtOf F x = (-1, -2)) := defAtOf_end HS.out (by unfold makesOf; rw [HN.out]; exact HFI.out)
      go_wp2
      go_ret2
      exact ⟨by rw [HR.out]; rfl, Bel.after B2.out HB.out⟩

theorem spec_defAt (v : Value) (F : FnD) (x : Int) (w : World) (hF : FnAt w v F) :
    Calls Try.prog 28 #[v, .int .i64 x] w fun e w' => GivesPair w (defAtOf F x) e w' := by
  have HF : Hid (FnAt w v F) := hF
  obtain ⟨n, HN⟩ : ∃ n, Hid (F.blocks.length = n) := ⟨_, rfl⟩
  obtain ⟨ba, bcap, vals, rfl⟩ : ∃ ba bcap vals, v = .agg #[.slice ba n bcap, .int .i64 vals] := by
    obtain ⟨bv, rfl, a, cap, rfl, _, _⟩ := hF
    exact ⟨a, cap, F.values, by rw [HN.out]⟩
  clear hF
  go_enter Try.func28, Try.ntmps28
  go_wp2_with fail
  have HF2 : Hid (FnAt (w.alloc (.cells #[.slice ba n bcap, .int .i64 vals] 26)) (.agg #[.slice ba n bcap, .int .i64 vals]) F) := HF.out.later (Bel.alloc _ _)
  refine (spec_shapeOk _ F _ HF2.out).mono ?_
  rintro e w1 ⟨t, rfl, ht, b1⟩
  have HT : Hid (t = true ↔ FnShape F) := ht
  have HB : Hid (Below w.heap.size w w1) := Bel.after (Bel.alloc _ _) b1
  have c0 := box_cell b1 0
  have c1 := box_cell b1 1
  simp at c0 c1
  have F1 : Hid (FnAt w1 (.agg #[.slice ba n bcap, .int .i64 vals]) F) := HF2.out.later b1
  clear ht b1
  cases t with
  | false =>
    have HR : Hid (defAtOf F x = (-1, -2)) := defAtOf_no (fun h => by have := HT.out.2 h; cases this)
    go_wp2
    go_ret2
    exact ⟨by rw [HR.out]; rfl, HB.out⟩
  | true =>
    obtain ⟨q1, HQ1⟩ : ∃ q, Hid ((defAtOf F x).1 = q) := ⟨_, rfl⟩
    obtain ⟨q2, HQ2⟩ : ∃ q, Hid ((defAtOf F x).2 = q) := ⟨_, rfl⟩
    go_wp2_with fail
    refine (l5DefAt_any _ F x _ F1.out (HT.out.1 (by first | rfl | trivial))).mono ?_
    rintro e w3 ⟨rfl, b3⟩
    rw [HQ1.out, HQ2.out]
    have HB3 : Hid (Below w.heap.size w w3) := Bel.after HB.out b3
    clear b3
    go_wp2
    go_ret2
    exact ⟨by rw [HQ1.out, HQ2.out]; rfl, HB3.out⟩
end Go.Proofs.Ytlmkipmkanhcfaa
