/- The shape of a program, part 8: the blocks, as the program looks at them. -/
import Derived.Test.YtgjojajodkagbaaShapeDef
import Derived.Test.YtgjojajodkagbaaShape4
import Derived.Test.YtgjojajodkagbaaShape5
import Derived.Test.YtgjojajodkagbaaPhi2
namespace Go.Proofs.Ytgjojajodkagbaa
open Go.ChangeShapes Go.WideShapes Go.ChangeAt Go.RowKit
set_option linter.unusedVariables false

set_option maxHeartbeats 8000000 in
theorem blockOk_any (ba : Option Addr) (bn bcap : Nat) (vals : Int) (pv lv : Value) (ps : List PhiD) (is : List InsD) (tk ta tt te : Int) (w : World) (hp : ListAt 0 2 (PhiAt 0) w pv ps) (hl : ListAt 0 5 InsAt w lv is) (hbn : bn ≤ 16) :
    Calls Try.prog 46 #[.agg #[.slice ba bn bcap, .int .i64 vals], .agg #[pv, lv, .int .i64 tk, .int .i64 ta, .int .i64 tt, .int .i64 te]] w fun e w' => GivesIff w (BlockOk (bn : Int) vals ⟨ps, is, ⟨tk, ta, tt, te⟩⟩) e w' := by
  obtain ⟨pa, pcap, rfl, hpm, hpc⟩ := hp
  obtain ⟨la, lcap, rfl, hlm, hlc⟩ := hl
  obtain ⟨pn, HPN⟩ : ∃ n, Hid (ps.length = n) := ⟨_, rfl⟩
  obtain ⟨ln, HLN⟩ : ∃ n, Hid (is.length = n) := ⟨_, rfl⟩
  rw [HPN.out] at hpm hpc ⊢
  rw [HLN.out] at hlm hlc ⊢
  have HPC : Hid (0 < pn → ∃ b off, pa = some ⟨b, off, none⟩ ∧ 0 ≤ b ∧ ∀ i x, ps[i]? = some x → PhiAt 0 w b (off + i * 2) x) := hpc
  have HLC : Hid (0 < ln → ∃ b off, la = some ⟨b, off, none⟩ ∧ 0 ≤ b ∧ ∀ i x, is[i]? = some x → InsAt w b (off + i * 5) x) := hlc
  clear hpc hlc
  by_cases hp24 : (24 : Int) < (pn : Int)
  · go_enter Try.func46, Try.ntmps46
    go_wp2
    go_ret
    exact ⟨false, rfl, iff_no (by intro hp; have h1 := hp.1; have h2 := HPN.out; have h3 : ps.length ≤ 24 := h1; omega), by repeat (first | exact Below.refl _ _ | apply Below.drew | refine Below.alloc ?_ (by simp <;> omega) _ | refine Below.setCell ?_ (by simp <;> omega) _)⟩
  · by_cases hl24 : (24 : Int) < (ln : Int)
    · go_enter Try.func46, Try.ntmps46
      go_wp2
      go_ret
      exact ⟨false, rfl, iff_no (by intro hp; have h1 := hp.2.1; have h2 := HLN.out; have h3 : is.length ≤ 24 := h1; omega), by repeat (first | exact Below.refl _ _ | apply Below.drew | refine Below.alloc ?_ (by simp <;> omega) _ | refine Below.setCell ?_ (by simp <;> omega) _)⟩
    · go_enter Try.func46, Try.ntmps46
      go_wp2
      go_loopw [22] (fun i wr => ∃ k : Nat, k ≤ pn ∧ i = .int .i64 k ∧ (∀ j p, j < k → ps[j]? = some p → PhiOk (bn : Int) vals p) ∧ Below ((w.alloc (.cells #[.slice ba bn bcap, .int .i64 vals] 43)).alloc (.cells #[.slice pa pn pcap, .slice la ln lcap, .int .i64 tk, .int .i64 ta, .int .i64 tt, .int .i64 te] 65)).heap.size ((w.alloc (.cells #[.slice ba bn bcap, .int .i64 vals] 43)).alloc (.cells #[.slice pa pn pcap, .slice la ln lcap, .int .i64 tk, .int .i64 ta, .int .i64 tt, .int .i64 te] 65)) wr) (fun i _ => pn - (intOf i).toNat)
      case atStart => exact ⟨0, Nat.zero_le _, rfl, fun j x hj => absurd hj (by omega), Below.refl _ _⟩
      case round =>
        obtain ⟨k, hk, rfl, hok, hb3⟩ := hrel
        have HK : Hid (∀ j p, j < k → ps[j]? = some p → PhiOk (bn : Int) vals p) := hok
        have H0 : Hid (Below ((w.alloc (.cells #[.slice ba bn bcap, .int .i64 vals] 43)).alloc (.cells #[.slice pa pn pcap, .slice la ln lcap, .int .i64 tk, .int .i64 ta, .int .i64 tt, .int .i64 te] 65)).heap.size ((w.alloc (.cells #[.slice ba bn bcap, .int .i64 vals] 43)).alloc (.cells #[.slice pa pn pcap, .slice la ln lcap, .int .i64 tk, .int .i64 ta, .int .i64 tt, .int .i64 te] 65)) wr) := hb3
        have H1 : Hid (Below w.heap.size w wr) := Bel.after (by repeat (first | exact Below.refl _ _ | apply Below.drew | refine Below.alloc ?_ (by simp <;> omega) _ | refine Below.setCell ?_ (by simp <;> omega) _)) hb3
        have f0 := Bel.keeps hb3 (p := ⟨w.heap.size, 0, none⟩) (v := .slice ba bn bcap) (by simp [go_sem])
        have f1 := Bel.keeps hb3 (p := ⟨w.heap.size, 1, none⟩) (v := .int .i64 vals) (by simp [go_sem])
        have g1 := Bel.keeps hb3 (p := ⟨w.heap.size + 1, 1, none⟩) (v := .slice la ln lcap) (by simp [go_sem])
        have hsz0 : w.heap.size < wr.heap.size := World.block_lt_of_cell? wr _ f0
        clear hok hb3
        by_cases hlt : (k : Int) < (pn : Int)
        · obtain ⟨b, off, rfl, _, hc1⟩ := HPC.out (by omega)
          have hkl : k < ps.length := by have := HPN.out; omega
          obtain ⟨x, HX⟩ : ∃ x, Hid (ps[k]? = some x) := ⟨ps[k], List.getElem?_eq_getElem hkl⟩
          obtain ⟨c0, sv, c1, hsv⟩ := (hc1 k x HX.out).keep (Keeps.of_below H1.out 0) (Nat.zero_le _)
          clear hc1 hkl
          obtain ⟨x0, x1⟩ := x
          have HSV : Hid (ListAt 0 2 ArmAt wr sv x1) := hsv
          obtain ⟨sa, scap, rfl, _⟩ := hsv
          clear g1
          go_wp2_with fail
          refine (phiOk_any ba bn bcap vals x0 _ x1 _ (arms_keep HSV.out (Keeps.of_below (Bel.alloc wr _) 0)) hbn).mono ?_
          rintro e w2 ⟨bb, rfl, hbb, b2⟩
          have HBB : Hid (bb = true ↔ PhiOk (bn : Int) vals ⟨x0, x1⟩) := hbb
          have HB2 : Hid (Below wr.heap.size wr w2) := Bel.after (Bel.alloc wr _) b2
          clear hbb b2
          cases bb
          · go_wp2
            go_ret
            exact ⟨false, rfl, iff_no (by intro hp; have h2 := HBB.out.2 (hp.2.2.1 k ⟨x0, x1⟩ HX.out); exact (nomatch h2)), Bel.after H1.out HB2.out⟩
          · go_wp2
            go_roundw
            case rel =>
              refine ⟨k + 1, by omega, by go_num, fun j p hj hp => ?_, Bel.after H0.out HB2.out⟩
              by_cases e : j = k
              · subst e
                have e2 := HX.out.symm.trans hp
                simp only [Option.some.injEq] at e2
                subst e2
                exact HBB.out.1 (by simp)
              · exact HK.out j p (by omega) hp
            case measure => simp [intOf]; omega
        · have hkn : k = pn := by omega
          have HPS : Hid (∀ (j : Nat) p, ps[j]? = some p → PhiOk (bn : Int) vals p) := fun j p hp => HK.out j p (by have h1 := getElem_lt hp; have h2 := HPN.out; omega) hp
          clear hkn HK
          go_wp2
          go_loopw [34] (fun i wr => ∃ k : Nat, k ≤ ln ∧ i = .int .i64 k ∧ (∀ j p, j < k → is[j]? = some p → placeOkV vals p = true) ∧ Below ((w.alloc (.cells #[.slice ba bn bcap, .int .i64 vals] 43)).alloc (.cells #[.slice pa pn pcap, .slice la ln lcap, .int .i64 tk, .int .i64 ta, .int .i64 tt, .int .i64 te] 65)).heap.size ((w.alloc (.cells #[.slice ba bn bcap, .int .i64 vals] 43)).alloc (.cells #[.slice pa pn pcap, .slice la ln lcap, .int .i64 tk, .int .i64 ta, .int .i64 tt, .int .i64 te] 65)) wr) (fun i _ => ln - (intOf i).toNat)
          case atStart => exact ⟨0, Nat.zero_le _, rfl, fun j x hj => absurd hj (by omega), H0.out⟩
          case round =>
            clear f0 f1 g1 hsz0
            obtain ⟨m, hm, rfl, hok, hb4⟩ := hrel
            have HI : Hid (∀ j p, j < m → is[j]? = some p → placeOkV vals p = true) := hok
            have H0' : Hid (Below ((w.alloc (.cells #[.slice ba bn bcap, .int .i64 vals] 43)).alloc (.cells #[.slice pa pn pcap, .slice la ln lcap, .int .i64 tk, .int .i64 ta, .int .i64 tt, .int .i64 te] 65)).heap.size ((w.alloc (.cells #[.slice ba bn bcap, .int .i64 vals] 43)).alloc (.cells #[.slice pa pn pcap, .slice la ln lcap, .int .i64 tk, .int .i64 ta, .int .i64 tt, .int .i64 te] 65)) wr) := hb4
            have H1' : Hid (Below w.heap.size w wr) := Bel.after (by repeat (first | exact Below.refl _ _ | apply Below.drew | refine Below.alloc ?_ (by simp <;> omega) _ | refine Below.setCell ?_ (by simp <;> omega) _)) hb4
            have f0 := Bel.keeps hb4 (p := ⟨w.heap.size, 0, none⟩) (v := .slice ba bn bcap) (by simp [go_sem])
            have f1 := Bel.keeps hb4 (p := ⟨w.heap.size, 1, none⟩) (v := .int .i64 vals) (by simp [go_sem])
            have g2 := Bel.keeps hb4 (p := ⟨w.heap.size + 1, 2, none⟩) (v := .int .i64 tk) (by simp [go_sem])
            have g3 := Bel.keeps hb4 (p := ⟨w.heap.size + 1, 3, none⟩) (v := .int .i64 ta) (by simp [go_sem])
            have g4 := Bel.keeps hb4 (p := ⟨w.heap.size + 1, 4, none⟩) (v := .int .i64 tt) (by simp [go_sem])
            have g5 := Bel.keeps hb4 (p := ⟨w.heap.size + 1, 5, none⟩) (v := .int .i64 te) (by simp [go_sem])
            have hsz1 : w.heap.size < wr.heap.size := World.block_lt_of_cell? wr _ f0
            clear hok hb4
            by_cases hlt2 : (m : Int) < (ln : Int)
            · obtain ⟨b, off, rfl, _, hc1⟩ := HLC.out (by omega)
              have hkl : m < is.length := by have := HLN.out; omega
              obtain ⟨x, HX⟩ : ∃ x, Hid (is[m]? = some x) := ⟨is[m], List.getElem?_eq_getElem hkl⟩
              obtain ⟨c0, c1, c2, c3, c4⟩ := (hc1 m x HX.out).keep (Keeps.of_below H1'.out 0) (Nat.zero_le _)
              clear hc1 hkl g2 g3 g4 g5
              obtain ⟨x0, x1, x2, x3, x4⟩ := x
              go_wp2_with fail
              refine (insOk_any ba bn bcap vals x0 x1 x2 x3 x4 _).mono ?_
              rintro e w2 ⟨rfl, b2⟩
              have HB2 : Hid (Below wr.heap.size wr w2) := Bel.after (Bel.alloc wr _) b2
              clear b2
              cases hbb : insOkV vals x0 x1 x2 x3 x4
              · go_wp2
                go_ret
                exact ⟨false, rfl, iff_no (by intro hp; have h2 : insOkV vals x0 x1 x2 x3 x4 = true := hp.2.2.2.1 m ⟨x0, x1, x2, x3, x4⟩ HX.out; rw [hbb] at h2; exact (nomatch h2)), Bel.after H1'.out HB2.out⟩
              · go_wp2
                go_roundw
                case rel =>
                  refine ⟨m + 1, by omega, by go_num, fun j p hj hp => ?_, Bel.after H0'.out HB2.out⟩
                  by_cases e : j = m
                  · subst e
                    have e2 := HX.out.symm.trans hp
                    simp only [Option.some.injEq] at e2
                    subst e2
                    exact hbb
                  · exact HI.out j p (by omega) hp
                case measure => simp [intOf]; omega
            · have hmn : m = ln := by omega
              have HIS : Hid (∀ (j : Nat) p, is[j]? = some p → placeOkV vals p = true) := fun j p hp => HI.out j p (by have h1 := getElem_lt hp; have h2 := HLN.out; omega) hp
              clear hmn HI
              go_wp2_with fail
              refine (termOk_any ba bn bcap vals tk ta tt te _).mono ?_
              rintro e w2 ⟨rfl, b2⟩
              have HB2 : Hid (Below wr.heap.size wr w2) := b2
              clear b2
              go_wp2
              go_ret
              refine ⟨termOkV (bn : Int) vals tk ta tt te, rfl, ⟨fun h => ⟨?_, ?_, HPS.out, HIS.out, h⟩, fun h => h.2.2.2.2⟩, Bel.after H1'.out HB2.out⟩
              · have := HPN.out; show ps.length ≤ 24; omega
              · have := HLN.out; show is.length ≤ 24; omega
end Go.Proofs.Ytgjojajodkagbaa
