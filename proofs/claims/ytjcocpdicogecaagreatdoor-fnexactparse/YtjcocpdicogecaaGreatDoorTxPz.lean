/- Code read from a text, by the program. -/
import Derived.Test.YtjcocpdicogecaaGreatDoorTxRt
import Derived.Test.YtjcocpdicogecaaGreatDoorTxIs
import Derived.Test.YtjcocpdicogecaaGreatDoorMaOk
namespace Go.Proofs.YtjcocpdicogecaaGreatDoor
open Go.ChangeShapes Go.WideShapes Go.ChangeAt Go.RowKit
set_option linter.unusedVariables false

theorem parse_bad {t : List UInt8} {l0 : List InsD} (hj : joinX l0 = t) (hs : StepsIn l0) (hm : machineOkB l0 = false) : parseB t = false ∧ parseOf t = [] := by
  refine parse_no fun l h1 h2 => ?_
  rw [← hj] at h1
  rw [tx_all h1 hs, hm] at h2
  cases h2
theorem parse_good {t : List UInt8} {l0 : List InsD} (hj : joinX l0 = t) (hs : StepsIn l0) (hm : machineOkB l0 = true) : parseB t = true ∧ parseOf t = l0 := by
  have := parse_yes hs hm
  rwa [hj] at this
theorem pz_no {t : List UInt8} {w w2 : World} (h : parseB t = false ∧ parseOf t = []) (hb : Below w.heap.size w w2) : GivesParse w t (.returned (.tuple #[.slice (some ⟨w2.heap.size, 0, none⟩) 0 0, .bool false])) (w2.alloc (.cells #[] 36)) := by
  refine ⟨_, by rw [h.1], ?_, hb.trans ((Bel.alloc w2 _).mono hb.size)⟩
  rw [h.2]
  exact ownSteps_new (World.alloc_heap_new w2 _) hb.size
theorem pz_yes {t : List UInt8} {w w2 : World} {l0 : List InsD} {ov : Value} (h : parseB t = true ∧ parseOf t = l0) (ho : OwnSteps w2 w.heap.size ov l0) (hb : Below w.heap.size w w2) : GivesParse w t (.returned (.tuple #[ov, .bool true])) w2 :=
  ⟨ov, by rw [h.1], by rw [h.2]; exact ho, hb⟩

set_option maxRecDepth 100000 in
set_option maxHeartbeats 4000000 in
theorem impl_parse (EP : Addr) (t : List UInt8) (w : World) (hl : t.length ≤ 1048576) (hL : Libs w EP) :
    Calls Tryz.prog 6 #[.string (bs t)] w fun e w' => GivesParse w t e w' := by
  have HL : Hid (Libs w EP) := hL
  have HLM : Hid (t.length ≤ 1048576) := hl
  clear hl hL
  go_enter Tryz.func6, Tryz.ntmps6
  go_wp2_with fail
  refine (readSteps_any EP t _ HLM.out HL.out).mono ?_
  rintro e w1 ⟨v, ev, rfl, hres, b1⟩
  have HB : Hid (Below w.heap.size w w1) := b1
  have hEV := (HL.out.keep b1).eno
  clear b1
  rcases hres with ⟨rfl, l0, hj, hs, ho⟩ | ⟨rfl, rfl, hn1, hn2⟩
  · have HJ : Hid (joinX l0 = t) := hj
    have HS : Hid (StepsIn l0) := hs
    have HO : Hid (OwnSteps w1 w.heap.size v l0) := ho
    clear hj hs ho
    obtain ⟨ok, HOK⟩ : ∃ b, Hid (machineOkB l0 = b) := ⟨_, rfl⟩
    go_wp2_with fail
    refine (is_nil _ _).mono ?_
    rintro e w2 ⟨rfl, hw2⟩
    subst hw2
    go_wp2_with fail
    refine (impl_machineOk v l0 _ HO.out.at HS.out.ops (HL.out.keep HB.out).tabs.ft).mono ?_
    rintro e w3 ⟨rfl, b3⟩
    rw [HOK.out]
    have HB3 : Hid (Below w.heap.size w w3) := HB.out.trans (b3.mono HB.out.size)
    have HO3 : Hid (OwnSteps w3 w.heap.size v l0) := HO.out.keep b3
    clear b3 hEV
    cases ok with
    | false =>
      have HNO : Hid (parseB t = false ∧ parseOf t = []) := parse_bad HJ.out HS.out HOK.out
      go_wp2_with fail
      go_ret2
      exact pz_no HNO.out HB3.out
    | true =>
      have HY : Hid (parseB t = true ∧ parseOf t = l0) := parse_good HJ.out HS.out HOK.out
      go_wp2_with fail
      go_ret2
      exact pz_yes HY.out HO3.out HB3.out
  · have HNO : Hid (parseB t = false ∧ parseOf t = []) := ⟨hn1, hn2⟩
    clear hn1 hn2
    unfold EV
    go_wp2_with fail
    refine (is_same EP _).mono ?_
    rintro e w2 ⟨rfl, hw2⟩
    subst hw2
    clear hEV
    go_wp2_with fail
    go_ret2
    exact pz_no HNO.out HB.out
end Go.Proofs.YtjcocpdicogecaaGreatDoor
