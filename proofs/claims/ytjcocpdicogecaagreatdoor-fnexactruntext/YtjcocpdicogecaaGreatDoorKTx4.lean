/- Code run from its text, on both sides. What the exact law over RunText wants besides. -/
import Derived.Test.YtjcocpdicogecaaGreatDoorTxPs7K
import Derived.Test.YtjcocpdicogecaaGreatDoorKTx3
import Derived.Test.YtjcocpdicogecaaGreatDoorMsRunK
import Derived.Test.YtjcocpdicogecaaGreatDoorKMa
import Derived.Test.YtjcocpdicogecaaGreatDoorKOwn
import Derived.Test.YtjcocpdicogecaaGreatDoorToIntsK
namespace Go.Proofs.YtjcocpdicogecaaGreatDoor
open Go.ChangeShapes Go.WideShapes Go.ChangeAt Go.RowKit
set_option linter.unusedVariables false

theorem parse_steps (t : List UInt8) : StepsIn (parseOf t) := by
  by_cases h : ∃ l, ReadAs t l ∧ machineOkB l = true
  · obtain ⟨l, ⟨rfl, hs⟩, hm⟩ := h
    rw [(parse_yes hs hm).2]
    exact hs
  · rw [(parse_no (fun l h1 h2 => h ⟨l, h1, h2⟩)).2]
    intro x hx
    cases hx
theorem parse_none {t : List UInt8} (h : parseB t = false) : parseOf t = [] := by
  by_cases h9 : ∃ l, ReadAs t l ∧ machineOkB l = true
  · obtain ⟨l, ⟨rfl, hs⟩, hm⟩ := h9
    rw [(parse_yes hs hm).1] at h
    cases h
  · exact (parse_no (fun l h1 h2 => h9 ⟨l, h1, h2⟩)).2
theorem mac_none (rd : List Int) (fuel : Int) : macOf wordV [] rd fuel = ([], 3, 0) := by
  unfold macOf
  rw [if_neg (fun h => by have := h.1; simp [machineOkB] at this)]
theorem rn_none {t : List UInt8} {rd : List Int} {fuel : Int} (h : parseB t = false) : macOf wordV (parseOf t) rd fuel = ([], 3, 0) := by rw [parse_none h, mac_none]
theorem told_none {w w1 : World} {p : List Int × Int × Int} (h : p = ([], 3, 0)) (hb : Below w.heap.size w w1) : GivesTld w p (.returned (.tuple #[.slice (some ⟨w1.heap.size, 0, none⟩) 0 0, .int .i64 3, .int .i64 0])) (w1.alloc (.cells #[] 3)) := by
  subst h
  refine ⟨_, rfl, ?_, hb.trans ((Bel.alloc w1 _).mono hb.size)⟩
  exact (ownInts_new w1).low hb.size
theorem told_low {w w1 w2 : World} {p : List Int × Int × Int} {e : Ending} (h : GivesTld w1 p e w2) (hb : Below w.heap.size w w1) : GivesTld w p e w2 := by
  obtain ⟨v, rfl, ho, hb2⟩ := h
  exact ⟨v, rfl, ho.low hb.size, hb.trans (hb2.mono hb.size)⟩

set_option maxRecDepth 100000 in
set_option maxHeartbeats 4000000 in
theorem spec_runText (t : List UInt8) (rv : Value) (rd : List Int) (fuel : Int) (w : World) (hl : t.length ≤ 1048576) (hrl : rd.length ≤ 2000000) (hr : ReadsAt w rv rd) :
    Calls Tryz.prog 10 #[.string (bs t), rv, .int .i64 fuel] w fun e w' => GivesTld w (macOf wordV (parseOf t) rd fuel) e w' := by
  have HLM : Hid (t.length ≤ 1048576) := hl
  have HRL : Hid (rd.length ≤ 2000000) := hrl
  have HR : Hid (ReadsAt w rv rd) := hr
  clear hl hrl hr
  obtain ⟨p, HP⟩ : ∃ p, Hid (macOf wordV (parseOf t) rd fuel = p) := ⟨_, rfl⟩
  rw [HP.out]
  obtain ⟨ok, HOK⟩ : ∃ b, Hid (parseB t = b) := ⟨_, rfl⟩
  go_enter Tryz.func10, Tryz.ntmps10
  go_wp2_with fail
  refine (spec_parse t _ HLM.out).mono ?_
  unfold GivesParse
  rw [HOK.out]
  rintro e w1 ⟨v, rfl, o1, b1⟩
  have HO : Hid (OwnSteps w1 w.heap.size v (parseOf t)) := o1
  have HB : Hid (Below w.heap.size w w1) := b1
  have HR1 : Hid (ReadsAt w1 rv rd) := HR.out.keep b1
  clear o1 b1
  cases ok with
  | false =>
    have HN : Hid (p = ([], 3, 0)) := by show p = _; rw [← HP.out]; exact rn_none HOK.out
    go_wp2_with fail
    go_ret3
    exact told_none HN.out HB.out
  | true =>
    go_wp2_with fail
    refine (spec_runMachine v rv (parseOf t) rd fuel HRL.out _ HO.out.at (parse_steps t).ops HR1.out).mono ?_
    rw [HP.out]
    rintro e w2 ⟨v2, rfl, o2, b2⟩
    have HG : Hid (GivesTld w p (.returned (.tuple #[v2, .int .i64 p.2.1, .int .i64 p.2.2])) w2) := told_low ⟨v2, rfl, o2, b2⟩ HB.out
    clear o2 b2
    go_wp2_with fail
    go_ret3
    exact HG.out

set_option maxRecDepth 100000 in
set_option maxHeartbeats 4000000 in
theorem impl_runText (EP : Addr) (t : List UInt8) (rv : Value) (rd : List Int) (fuel : Int) (w : World) (hl : t.length ≤ 1048576) (hr : ReadsAt w rv rd) (hL : Libs w EP) :
    Calls Tryz.prog 12 #[.string (bs t), rv, .int .i64 fuel] w fun e w' => GivesTld w (macOf wordV (parseOf t) rd fuel) e w' := by
  have HLM : Hid (t.length ≤ 1048576) := hl
  have HR : Hid (ReadsAt w rv rd) := hr
  have HL : Hid (Libs w EP) := hL
  clear hl hr hL
  obtain ⟨p, HP⟩ : ∃ p, Hid (macOf wordV (parseOf t) rd fuel = p) := ⟨_, rfl⟩
  rw [HP.out]
  go_enter Tryz.func12, Tryz.ntmps12
  go_wp2_with fail
  refine (impl_parse EP t _ HLM.out HL.out).mono ?_
  rintro e w1 ⟨v, rfl, o1, b1⟩
  have HO : Hid (OwnSteps w1 w.heap.size v (parseOf t)) := o1
  have HB : Hid (Below w.heap.size w w1) := b1
  have HR1 : Hid (ReadsAt w1 rv rd) := HR.out.keep b1
  clear o1 b1
  go_wp2_with fail
  refine (impl_runMachine v rv (parseOf t) rd fuel _ HO.out.at (parse_steps t).ops HR1.out (HL.out.keep HB.out).tabs.ft).mono ?_
  rw [HP.out]
  rintro e w2 ⟨v2, rfl, o2, b2⟩
  have HG : Hid (GivesTld w p (.returned (.tuple #[v2, .int .i64 p.2.1, .int .i64 p.2.2])) w2) := told_low ⟨v2, rfl, o2, b2⟩ HB.out
  clear o2 b2
  go_wp2_with fail
  go_ret3
  exact HG.out
end Go.Proofs.YtjcocpdicogecaaGreatDoor

namespace Go.Proofs.YtjcocpdicogecaaGreatDoor
open Go.ChangeShapes Go.WideShapes Go.ChangeAt Go.RowKit
set_option linter.unusedVariables false

theorem macN_len (l : List InsD) (k : Nat) : ∀ m : MacS, (macN wordV l k m).1.length ≤ m.told.length + k := by
  induction k with
  | zero => intro m; exact Nat.le_refl _
  | succ k ih =>
    intro m
    unfold macN
    cases hx : l[m.pc]? with
    | none => exact Nat.le_add_right _ _
    | some x =>
      dsimp only
      by_cases h11 : x.op = 11
      · rw [if_pos h11]; exact Nat.le_add_right _ _
      · have ht := told_step (i := x) (m := m) h11
        rw [if_neg h11]
        by_cases h0 : (macDo wordV x m).1 = 0
        · rw [if_pos h0]
          have := ih (macDo wordV x m).2
          omega
        · rw [if_neg h0]
          show (macDo wordV x m).2.told.length ≤ _
          omega
theorem macOf_len (l : List InsD) (reads : List Int) (fuel : Int) : (macOf wordV l reads fuel).1.length ≤ 50000 := by
  unfold macOf
  split
  · have := macN_len l (min fuel 40000).toNat (macStart reads)
    simp only [macStart, List.length_nil] at this
    unfold macStart
    omega
  · simp
theorem ownForm {w : World} {lo : Nat} {v : Value} {l : List Int} (h : OwnInts w lo v l) : ∃ p c, v = .slice p l.length c := by
  rcases h.2 with ⟨rfl, h0⟩ | ⟨g, cap, cur, rfl, _⟩
  · exact ⟨none, 0, by rw [h0]⟩
  · exact ⟨_, cap, rfl⟩
end Go.Proofs.YtjcocpdicogecaaGreatDoor
