/- The shape of a program, part 10: the model's ShapeOk tells FnShape. -/
import Derived.Test.YthdioeeanodjiaaDoorKSa
namespace Go.Proofs.YthdioeeanodjiaaDoor
open Go.ChangeShapes Go.WideShapes Go.ChangeAt Go.RowKit
set_option linter.unusedVariables false

set_option maxHeartbeats 16000000 in
theorem spec_shapeOk (v : Value) (F : FnD) (w : World) (hF : FnAt w v F) :
    Calls Tryd.prog 26 #[v] w fun e w' => GivesIff w (FnShape F) e w' := by
  obtain ⟨bv, rfl, hb⟩ := hF
  obtain ⟨ba, bcap, rfl, hbm, hbc⟩ := hb
  obtain ⟨n, HN⟩ : ∃ n, Hid (F.blocks.length = n) := ⟨_, rfl⟩
  obtain ⟨vals, HV⟩ : ∃ n, Hid (F.values = n) := ⟨_, rfl⟩
  rw [HN.out] at hbm hbc ⊢
  rw [HV.out]
  have HC : Hid (0 < n → ∃ b off, ba = some ⟨b, off, none⟩ ∧ 0 ≤ b ∧ ∀ i x, F.blocks[i]? = some x → BlockAt 0 w b (off + i * 6) x) := hbc
  clear hbc
  go_enter Tryd.func26, Tryd.ntmps26
  go_wp2_with fail
  refine (l1In_any (n : Int) 1 16 _).mono ?_
  rintro e w1 ⟨rfl, rfl⟩
  cases hn : (decide ((1 : Int) ≤ (n : Int)) && decide ((n : Int) ≤ 16))
  · go_wp2
    go_ret
    exact ⟨false, rfl, iff_no (by intro hp; have h2 := hp.1; have h3 := hp.2.1; have h4 := HN.out; simp at hn; omega), Bel.alloc _ _⟩
  · go_wp2_with fail
    refine (l1In_any vals 0 80 _).mono ?_
    rintro e w2 ⟨rfl, rfl⟩
    cases hvv : (decide ((0 : Int) ≤ vals) && decide (vals ≤ 80))
    · go_wp2
      go_ret
      exact ⟨false, rfl, iff_no (by intro hp; have h2 := hp.2.2.1; have h3 := hp.2.2.2.1; have h4 := HV.out; simp at hvv; omega), Bel.alloc _ _⟩
    · have hn1 : 1 ≤ n ∧ n ≤ 16 := by simp at hn; omega
      have hv1 : 0 ≤ vals ∧ vals ≤ 80 := by simp at hvv; omega
      obtain ⟨hn1, hn2⟩ := hn1
      go_wp2
      go_loopw [4] (fun i wr => ∃ k : Nat, k ≤ n ∧ i = .int .i64 k ∧ (∀ j p, j < k → F.blocks[j]? = some p → BlockOk (n : Int) vals p) ∧ Below (w.alloc (.cells #[.slice ba n bcap, .int .i64 vals] 26)).heap.size (w.alloc (.cells #[.slice ba n bcap, .int .i64 vals] 26)) wr) (fun i _ => n - (intOf i).toNat)
      case atStart => exact ⟨0, Nat.zero_le _, rfl, fun j x hj => absurd hj (by omega), Below.refl _ _⟩
      case round =>
        obtain ⟨wo, rfl⟩ : ∃ wo : World, wo = wr := ⟨_, rfl⟩
        obtain ⟨k, hk, rfl, hok, hb3⟩ := hrel
        have HK : Hid (∀ j p, j < k → F.blocks[j]? = some p → BlockOk (n : Int) vals p) := hok
        have H0 : Hid (Below (w.alloc (.cells #[.slice ba n bcap, .int .i64 vals] 26)).heap.size (w.alloc (.cells #[.slice ba n bcap, .int .i64 vals] 26)) wo) := hb3
        have H1 : Hid (Below w.heap.size w wo) := Bel.after (Bel.alloc w _) hb3
        have f0 := Bel.keeps hb3 (p := ⟨w.heap.size, 0, none⟩) (v := .slice ba n bcap) (by simp [go_sem])
        have f1 := Bel.keeps hb3 (p := ⟨w.heap.size, 1, none⟩) (v := .int .i64 vals) (by simp [go_sem])
        have hsz0 : w.heap.size < wo.heap.size := World.block_lt_of_cell? wo _ f0
        clear hok hb3
        by_cases hlt : (k : Int) < (n : Int)
        · obtain ⟨b, off, rfl, _, hc1⟩ := HC.out (by omega)
          have hkl : k < F.blocks.length := by have := HN.out; omega
          obtain ⟨x, HX⟩ : ∃ x, Hid (F.blocks[k]? = some x) := ⟨F.blocks[k], List.getElem?_eq_getElem hkl⟩
          obtain ⟨pv, lv, c0, c1, c2, c3, c4, c5, hpv, hlv⟩ := (hc1 k x HX.out).keep (Keeps.of_below H1.out 0) (Nat.zero_le _)
          clear hc1 hkl
          obtain ⟨x0, x1, ⟨x2, x3, x4, x5⟩⟩ := x
          obtain ⟨pa, pcap, rfl, hpm, hpc⟩ := hpv
          obtain ⟨la, lcap, rfl, hlm, hlc⟩ := hlv
          obtain ⟨pn, HPN⟩ : ∃ pn, Hid (x0.length = pn) := ⟨_, rfl⟩
          obtain ⟨ln, HLN⟩ : ∃ ln, Hid (x1.length = ln) := ⟨_, rfl⟩
          rw [HPN.out] at hpm hpc c0
          rw [HLN.out] at hlm hlc c1
          have HPC : Hid (0 < pn → ∃ b off, pa = some ⟨b, off, none⟩ ∧ 0 ≤ b ∧ ∀ i x, x0[i]? = some x → PhiAt 0 wo b (off + i * 2) x) := hpc
          have HLC : Hid (0 < ln → ∃ b off, la = some ⟨b, off, none⟩ ∧ 0 ≤ b ∧ ∀ i x, x1[i]? = some x → InsAt wo b (off + i * 5) x) := hlc
          clear hpc hlc
          by_cases hp24 : (24 : Int) < (pn : Int)
          · go_wp2
            go_ret
            exact ⟨false, rfl, iff_no (by intro hp; have h5 := (hp.2.2.2.2 k _ HX.out).1; have h6 : x0.length ≤ 24 := h5; have := HPN.out; omega), Bel.after H1.out (Bel.alloc _ _)⟩
          · by_cases hl24 : (24 : Int) < (ln : Int)
            · go_wp2
              go_ret
              exact ⟨false, rfl, iff_no (by intro hp; have h5 := (hp.2.2.2.2 k _ HX.out).2.1; have h6 : x1.length ≤ 24 := h5; have := HLN.out; omega), Bel.after H1.out (Bel.alloc _ _)⟩
            · go_wp2_with fail
              refine (l2Term_any (n : Int) vals x2 x3 x4 x5 (by omega) (by omega) _).mono ?_
              rintro e w3 ⟨rfl, b3⟩
              have H3 : Hid (Below (wo.alloc (.cells #[.slice pa pn pcap, .slice la ln lcap, .int .i64 x2, .int .i64 x3, .int .i64 x4, .int .i64 x5] 46)).heap.size (wo.alloc (.cells #[.slice pa pn pcap, .slice la ln lcap, .int .i64 x2, .int .i64 x3, .int .i64 x4, .int .i64 x5] 46)) w3) := b3
              have q0 := Bel.keeps b3 (p := ⟨wo.heap.size, 0, none⟩) (v := .slice pa pn pcap) (by simp [go_sem])
              clear b3 c0 c1 c2 c3 c4 c5
              cases hte : termOkV (n : Int) vals x2 x3 x4 x5
              · go_wp2
                go_ret
                exact ⟨false, rfl, iff_no (by intro hp; have h5 := (hp.2.2.2.2 k _ HX.out).2.2.2.2; rw [HN.out, HV.out] at h5; have h6 : termOkV (n : Int) vals x2 x3 x4 x5 = true := h5; rw [hte] at h6; exact (nomatch h6)), Bel.after H1.out (Bel.after (Bel.alloc _ _) H3.out)⟩
              · go_wp2
                go_loopw [6] (fun i wr => ∃ m : Nat, m ≤ pn ∧ i = .int .i64 m ∧ (∀ j p, j < m → x0[j]? = some p → PhiOk (n : Int) vals p) ∧ Below (wo.alloc (.cells #[.slice pa pn pcap, .slice la ln lcap, .int .i64 x2, .int .i64 x3, .int .i64 x4, .int .i64 x5] 46)).heap.size (wo.alloc (.cells #[.slice pa pn pcap, .slice la ln lcap, .int .i64 x2, .int .i64 x3, .int .i64 x4, .int .i64 x5] 46)) wr) (fun i _ => pn - (intOf i).toNat)
                case atStart => exact ⟨0, Nat.zero_le _, rfl, fun j x hj => absurd hj (by omega), H3.out⟩
                case round =>
                  clear q0
                  obtain ⟨m, hm, rfl, hok, hb4⟩ := hrel
                  have HM : Hid (∀ j p, j < m → x0[j]? = some p → PhiOk (n : Int) vals p) := hok
                  have H4 : Hid (Below (wo.alloc (.cells #[.slice pa pn pcap, .slice la ln lcap, .int .i64 x2, .int .i64 x3, .int .i64 x4, .int .i64 x5] 46)).heap.size (wo.alloc (.cells #[.slice pa pn pcap, .slice la ln lcap, .int .i64 x2, .int .i64 x3, .int .i64 x4, .int .i64 x5] 46)) wr) := hb4
                  have H4o : Hid (Below wo.heap.size wo wr) := Bel.after (Bel.alloc _ _) hb4
                  have q0 := Bel.keeps hb4 (p := ⟨wo.heap.size, 0, none⟩) (v := .slice pa pn pcap) (by simp [go_sem])
                  have q1 := Bel.keeps hb4 (p := ⟨wo.heap.size, 1, none⟩) (v := .slice la ln lcap) (by simp [go_sem])
                  have r1 := Bel.keeps H4o.out f1
                  clear hok hb4
                  by_cases hlt2 : (m : Int) < (pn : Int)
                  · obtain ⟨b', off', rfl, _, hc1⟩ := HPC.out (by omega)
                    have hkl : m < x0.length := by have := HPN.out; omega
                    obtain ⟨y, HY⟩ : ∃ y, Hid (x0[m]? = some y) := ⟨x0[m], List.getElem?_eq_getElem hkl⟩
                    obtain ⟨d0, sv, d1, hsv⟩ := (hc1 m y HY.out).keep (Keeps.of_below H4o.out 0) (Nat.zero_le _)
                    clear hc1 hkl q1
                    obtain ⟨y0, y1⟩ := y
                    have HSV : Hid (ListAt 0 2 ArmAt wr sv y1) := hsv
                    obtain ⟨sa, scap, rfl, _⟩ := hsv
                    go_wp2
                    go_region_with (go_at_call 45; refine (l2Phi_any y0 _ y1 (n : Int) vals _ (arms_keep HSV.out (Keeps.of_below (by first | exact (Below.refl _ _).drew | exact Below.refl _ _) 0)) (by omega) (by omega)).mono ?_; rintro e w5 ⟨bb, rfl, hbb, b5⟩; have HBB : Hid (bb = true ↔ PhiOk (n : Int) vals ⟨y0, y1⟩) := hbb; have HB5 : Hid (Below wr.heap.size wr w5) := Bel.after (by first | exact (Below.refl _ _).drew | exact Below.refl _ _) b5; clear hbb b5)
                    all_goals
                      rename_i w5 bb HBB HB5
                      cases bb
                      · go_wp2
                        go_ret
                        exact ⟨false, rfl, iff_no (by intro hp; have h5 := (hp.2.2.2.2 k _ HX.out).2.2.1 m ⟨y0, y1⟩ HY.out; rw [HN.out, HV.out] at h5; have h6 := HBB.out.2 h5; exact (nomatch h6)), Bel.after H1.out (Bel.after H4o.out HB5.out)⟩
                      · go_wp2
                        go_roundw
                        case rel =>
                          refine ⟨m + 1, by omega, by go_num, fun j p hj hp => ?_, Bel.after H4.out HB5.out⟩
                          by_cases e : j = m
                          · subst e
                            have e2 := HY.out.symm.trans hp
                            simp only [Option.some.injEq] at e2
                            subst e2
                            exact HBB.out.1 rfl
                          · exact HM.out j p (by omega) hp
                        case measure => simp [intOf]; omega
                  · have hmn : m = pn := by omega
                    have HPS : Hid (∀ (j : Nat) p, x0[j]? = some p → PhiOk (n : Int) vals p) := fun j p hp => HM.out j p (by have h1 := getElem_lt hp; have h2 := HPN.out; omega) hp
                    clear hmn HM
                    go_wp2
                    go_loopw [7] (fun i wr => ∃ m : Nat, m ≤ ln ∧ i = .int .i64 m ∧ (∀ j p, j < m → x1[j]? = some p → placeOkV vals p = true) ∧ Below (wo.alloc (.cells #[.slice pa pn pcap, .slice la ln lcap, .int .i64 x2, .int .i64 x3, .int .i64 x4, .int .i64 x5] 46)).heap.size (wo.alloc (.cells #[.slice pa pn pcap, .slice la ln lcap, .int .i64 x2, .int .i64 x3, .int .i64 x4, .int .i64 x5] 46)) wr) (fun i _ => ln - (intOf i).toNat)
                    case atStart => exact ⟨0, Nat.zero_le _, rfl, fun j x hj => absurd hj (by omega), H4.out⟩
                    case round =>
                      clear q0 q1 r1
                      obtain ⟨m2, hm2, rfl, hok, hb5⟩ := hrel
                      have HM2 : Hid (∀ j p, j < m2 → x1[j]? = some p → placeOkV vals p = true) := hok
                      have H5 : Hid (Below (wo.alloc (.cells #[.slice pa pn pcap, .slice la ln lcap, .int .i64 x2, .int .i64 x3, .int .i64 x4, .int .i64 x5] 46)).heap.size (wo.alloc (.cells #[.slice pa pn pcap, .slice la ln lcap, .int .i64 x2, .int .i64 x3, .int .i64 x4, .int .i64 x5] 46)) wr) := hb5
                      have H5o : Hid (Below wo.heap.size wo wr) := Bel.after (Bel.alloc _ _) hb5
                      have q1 := Bel.keeps hb5 (p := ⟨wo.heap.size, 1, none⟩) (v := .slice la ln lcap) (by simp [go_sem])
                      have r1 := Bel.keeps H5o.out f1
                      clear hok hb5
                      by_cases hlt3 : (m2 : Int) < (ln : Int)
                      · obtain ⟨b', off', rfl, _, hc1⟩ := HLC.out (by omega)
                        have hkl : m2 < x1.length := by have := HLN.out; omega
                        obtain ⟨y, HY⟩ : ∃ y, Hid (x1[m2]? = some y) := ⟨x1[m2], List.getElem?_eq_getElem hkl⟩
                        obtain ⟨d0, d1, d2, d3, d4⟩ := (hc1 m2 y HY.out).keep (Keeps.of_below H5o.out 0) (Nat.zero_le _)
                        clear hc1 hkl
                        obtain ⟨y0, y1, y2, y3, y4⟩ := y
                        obtain ⟨bb, HBB⟩ : ∃ bb, Hid (insOkV vals y0 y1 y2 y3 y4 = bb) := ⟨_, rfl⟩
                        go_wp2
                        go_region_with (go_at_call 46; refine (l2Ins_any vals y0 y1 y2 y3 y4 _).mono ?_; rintro e w5 ⟨rfl, b5⟩; rw [HBB.out]; have HB5 : Hid (Below wr.heap.size wr w5) := Bel.after (by first | exact (Below.refl _ _).drew | exact Below.refl _ _) b5; clear b5)
                        all_goals
                          rename_i w5 HB5
                          cases bb
                          · go_wp2
                            go_ret
                            exact ⟨false, rfl, iff_no (by intro hp; have h5 := (hp.2.2.2.2 k _ HX.out).2.2.2.1 m2 ⟨y0, y1, y2, y3, y4⟩ HY.out; rw [HV.out] at h5; have h6 : insOkV vals y0 y1 y2 y3 y4 = true := h5; rw [HBB.out] at h6; exact (nomatch h6)), Bel.after H1.out (Bel.after H5o.out HB5.out)⟩
                          · go_wp2
                            go_roundw
                            case rel =>
                              refine ⟨m2 + 1, by omega, by go_num, fun j p hj hp => ?_, Bel.after H5.out HB5.out⟩
                              by_cases e : j = m2
                              · subst e
                                have e2 := HY.out.symm.trans hp
                                simp only [Option.some.injEq] at e2
                                subst e2
                                exact HBB.out
                              · exact HM2.out j p (by omega) hp
                            case measure => simp [intOf]; omega
                      · have hmn : m2 = ln := by omega
                        have HIS : Hid (∀ (j : Nat) p, x1[j]? = some p → placeOkV vals p = true) := fun j p hp => HM2.out j p (by have h1 := getElem_lt hp; have h2 := HLN.out; omega) hp
                        clear hmn HM2
                        go_wp2
                        go_roundw
                        case rel =>
                          refine ⟨k + 1, by omega, by go_num, fun j p hj hp => ?_, Bel.after H0.out H5o.out⟩
                          by_cases e : j = k
                          · subst e
                            have e2 := HX.out.symm.trans hp
                            simp only [Option.some.injEq] at e2
                            subst e2
                            exact ⟨by have := HPN.out; show x0.length ≤ 24; omega, by have := HLN.out; show x1.length ≤ 24; omega, HPS.out, HIS.out, hte⟩
                          · exact HK.out j p (by omega) hp
                        case measure => simp [intOf]; omega
        · have hkn : k = n := by omega
          have HALL : Hid (FnShape F) := by
            refine ⟨by have := HN.out; omega, by have := HN.out; omega, by have := HV.out; omega, by have := HV.out; omega, fun j p hp => ?_⟩
            rw [HN.out, HV.out]
            exact HK.out j p (by have h1 := getElem_lt hp; have h2 := HN.out; omega) hp
          clear hkn
          go_wp2
          go_ret
          exact ⟨true, rfl, ⟨fun _ => HALL.out, fun _ => rfl⟩, H1.out⟩
end Go.Proofs.YthdioeeanodjiaaDoor
