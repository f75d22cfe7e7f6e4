/- The shape of a program, part 9: the program's ShapeOk tells FnShape. -/
import Derived.Test.YtgjojajodkagbaaShape6
namespace Go.Proofs.Ytgjojajodkagbaa
open Go.ChangeShapes Go.WideShapes Go.ChangeAt Go.RowKit
set_option linter.unusedVariables false

set_option maxHeartbeats 8000000 in
theorem impl_shapeOk (v : Value) (F : FnD) (w : World) (hF : FnAt w v F) :
    Calls Try.prog 36 #[v] w fun e w' => GivesIff w (FnShape F) e w' := by
  obtain ⟨bv, rfl, hb⟩ := hF
  obtain ⟨ba, bcap, rfl, hbm, hbc⟩ := hb
  obtain ⟨n, HN⟩ : ∃ n, Hid (F.blocks.length = n) := ⟨_, rfl⟩
  obtain ⟨vals, HV⟩ : ∃ n, Hid (F.values = n) := ⟨_, rfl⟩
  rw [HN.out] at hbm hbc ⊢
  rw [HV.out]
  have HC : Hid (0 < n → ∃ b off, ba = some ⟨b, off, none⟩ ∧ 0 ≤ b ∧ ∀ i x, F.blocks[i]? = some x → BlockAt 0 w b (off + i * 6) x) := hbc
  clear hbc
  by_cases h1 : (n : Int) < 1
  · go_enter Try.func36, Try.ntmps36
    go_wp2
    go_ret
    exact ⟨false, rfl, iff_no (by intro hp; have h2 := hp.1; have h3 := HN.out; omega), Bel.alloc _ _⟩
  · by_cases h2 : (16 : Int) < (n : Int)
    · go_enter Try.func36, Try.ntmps36
      go_wp2
      go_ret
      exact ⟨false, rfl, iff_no (by intro hp; have h2 := hp.2.1; have h3 := HN.out; omega), Bel.alloc _ _⟩
    · by_cases h3 : vals < 0
      · go_enter Try.func36, Try.ntmps36
        go_wp2
        go_ret
        exact ⟨false, rfl, iff_no (by intro hp; have h2 := hp.2.2.1; have h3 := HV.out; omega), Bel.alloc _ _⟩
      · by_cases h4 : (80 : Int) < vals
        · go_enter Try.func36, Try.ntmps36
          go_wp2
          go_ret
          exact ⟨false, rfl, iff_no (by intro hp; have h2 := hp.2.2.2.1; have h3 := HV.out; omega), Bel.alloc _ _⟩
        · go_enter Try.func36, Try.ntmps36
          go_wp2
          go_loopw [28] (fun i wr => ∃ k : Nat, k ≤ n ∧ i = .int .i64 k ∧ (∀ j p, j < k → F.blocks[j]? = some p → BlockOk (n : Int) vals p) ∧ Below (w.alloc (.cells #[.slice ba n bcap, .int .i64 vals] 43)).heap.size (w.alloc (.cells #[.slice ba n bcap, .int .i64 vals] 43)) wr) (fun i _ => n - (intOf i).toNat)
          case atStart => exact ⟨0, Nat.zero_le _, rfl, fun j x hj => absurd hj (by omega), Below.refl _ _⟩
          case round =>
            obtain ⟨k, hk, rfl, hok, hb3⟩ := hrel
            have HK : Hid (∀ j p, j < k → F.blocks[j]? = some p → BlockOk (n : Int) vals p) := hok
            have H0 : Hid (Below (w.alloc (.cells #[.slice ba n bcap, .int .i64 vals] 43)).heap.size (w.alloc (.cells #[.slice ba n bcap, .int .i64 vals] 43)) wr) := hb3
            have H1 : Hid (Below w.heap.size w wr) := Bel.after (Bel.alloc w _) hb3
            have f0 := Bel.keeps hb3 (p := ⟨w.heap.size, 0, none⟩) (v := .slice ba n bcap) (by simp [go_sem])
            have f1 := Bel.keeps hb3 (p := ⟨w.heap.size, 1, none⟩) (v := .int .i64 vals) (by simp [go_sem])
            have hsz0 : w.heap.size < wr.heap.size := World.block_lt_of_cell? wr _ f0
            clear hok hb3
            by_cases hlt : (k : Int) < (n : Int)
            · obtain ⟨b, off, rfl, _, hc1⟩ := HC.out (by omega)
              have hkl : k < F.blocks.length := by have := HN.out; omega
              obtain ⟨x, HX⟩ : ∃ x, Hid (F.blocks[k]? = some x) := ⟨F.blocks[k], List.getElem?_eq_getElem hkl⟩
              obtain ⟨pv, lv, c0, c1, c2, c3, c4, c5, hpv, hlv⟩ := (hc1 k x HX.out).keep (Keeps.of_below H1.out 0) (Nat.zero_le _)
              clear hc1 hkl
              obtain ⟨x0, x1, ⟨x2, x3, x4, x5⟩⟩ := x
              have HPV : Hid (ListAt 0 2 (PhiAt 0) wr pv x0) := hpv
              have HLV : Hid (ListAt 0 5 InsAt wr lv x1) := hlv
              obtain ⟨pa, pcap, rfl, _⟩ := hpv
              obtain ⟨la, lcap, rfl, _⟩ := hlv
              go_wp2_with fail
              refine (blockOk_any (some ⟨b, off, none⟩) n bcap vals _ _ x0 x1 x2 x3 x4 x5 _ (phis_keep HPV.out (Keeps.of_below (Bel.alloc wr _) 0)) (places_keep HLV.out (Keeps.of_below (Bel.alloc wr _) 0)) (by omega)).mono ?_
              rintro e w2 ⟨bb, rfl, hbb, b2⟩
              have HBB : Hid (bb = true ↔ BlockOk (n : Int) vals ⟨x0, x1, ⟨x2, x3, x4, x5⟩⟩) := hbb
              have HB2 : Hid (Below wr.heap.size wr w2) := Bel.after (Bel.alloc wr _) b2
              clear hbb b2
              cases bb
              · go_wp2
                go_ret
                exact ⟨false, rfl, iff_no (by intro hp; have h5 := hp.2.2.2.2 k _ HX.out; rw [HN.out, HV.out] at h5; have h6 := HBB.out.2 h5; exact (nomatch h6)), Bel.after H1.out HB2.out⟩
              · go_wp2
                go_roundw
                case rel =>
                  refine ⟨k + 1, by omega, by go_num, fun j p hj hp => ?_, Bel.after H0.out HB2.out⟩
                  by_cases e : j = k
                  · subst e
                    have e2 := HX.out.symm.trans hp
                    simp only [Option.some.injEq] at e2
                    subst e2
                    exact HBB.out.1 (by simp)
                  · exact HK.out j p (by omega) hp
                case measure => simp [intOf]; omega
            · have hkn : k = n := by omega
              have HALL : Hid (FnShape F) := by
                refine ⟨by have := HN.out; omega, by have := HN.out; omega, by have := HV.out; omega, by have := HV.out; omega, fun j p hp => ?_⟩
                rw [HN.out, HV.out]
                exact HK.out j p (by have h1 := getElem_lt hp; have h2 := HN.out; omega) hp
              clear hkn
              go_wp2
              go_ret
              exact ⟨true, rfl, ⟨fun _ => HALL.out, fun _ => rfl⟩, H1.out⟩
end Go.Proofs.Ytgjojajodkagbaa
