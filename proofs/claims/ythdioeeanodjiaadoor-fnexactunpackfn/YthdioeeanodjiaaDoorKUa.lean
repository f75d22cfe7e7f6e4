/- Names of places and ends: what has one, and what has none. What the row's condition on the program's table of names gives: the table's cells hold the ten names; it reads again as it did. Bytes of the call's own are marked: nothing else is turned. A program read from bytes: what stands where, and the program's reader in memory. The program's reader: a number, a count, an end, a place. The program's reader: a place. A row of zeros of structs, made; what is read of a list so far. The program's reader: arms, and a list of places. The program's reader: a list of places. -/
import Derived.Test.YthdioeeanodjiaaDoorUpNumK
import Derived.Test.YthdioeeanodjiaaDoorKSa
import Derived.LaidMore
import Derived.LaidLaws
import Derived.Stop.Joined
import Derived.ChangeVars
import Derived.WalkSmall
import Derived.Carry
import Derived.Test.YthdioeeanodjiaaDoorKEb
import Derived.Deep.MidRow
import Derived.Deep.Upon
import Derived.Laws.MakeOwn
namespace Go.Proofs.YthdioeeanodjiaaDoor
open Go.ChangeShapes Go.WideShapes Go.ChangeAt Go.RowKit
set_option linter.unusedVariables false

theorem str_inj {a b : ByteArray} (h : a.toList = b.toList) : a = b := by
  rw [ByteArray.toList_eq, ByteArray.toList_eq] at h
  exact Go.WideShapes.bytes_inj h
theorem str_yes {a b : ByteArray} (h : a = b) : (a.toList == b.toList) = true := by simp [h]
theorem str_no {a b : ByteArray} (h : ¬ a = b) : (a.toList == b.toList) = false := by
  rw [beq_eq_false_iff_ne]
  exact fun e => h (str_inj e)
def nameV (i : Nat) : ByteArray := match i with
  | 0 => ⟨#[]⟩
  | 1 => ⟨#[97, 100, 100]⟩
  | 2 => ⟨#[115, 117, 98]⟩
  | 3 => ⟨#[109, 117, 108]⟩
  | 4 => ⟨#[97, 110, 100]⟩
  | 5 => ⟨#[111, 114]⟩
  | 6 => ⟨#[120, 111, 114]⟩
  | 7 => ⟨#[108, 101, 115, 115]⟩
  | 8 => ⟨#[115, 97, 109, 101]⟩
  | 9 => ⟨#[108, 101, 102, 116]⟩
  | 10 => ⟨#[114, 105, 103, 104, 116]⟩
  | _ => ⟨#[]⟩
theorem nameV_some {k : Nat} (h : 1 ≤ k) (h2 : k < 11) : nameV k ≠ ⟨#[]⟩ := by
  match k, h, h2 with
  | 1, _, _ => exact fun e => absurd (congrArg ByteArray.size e) (by decide)
  | 2, _, _ => exact fun e => absurd (congrArg ByteArray.size e) (by decide)
  | 3, _, _ => exact fun e => absurd (congrArg ByteArray.size e) (by decide)
  | 4, _, _ => exact fun e => absurd (congrArg ByteArray.size e) (by decide)
  | 5, _, _ => exact fun e => absurd (congrArg ByteArray.size e) (by decide)
  | 6, _, _ => exact fun e => absurd (congrArg ByteArray.size e) (by decide)
  | 7, _, _ => exact fun e => absurd (congrArg ByteArray.size e) (by decide)
  | 8, _, _ => exact fun e => absurd (congrArg ByteArray.size e) (by decide)
  | 9, _, _ => exact fun e => absurd (congrArg ByteArray.size e) (by decide)
  | 10, _, _ => exact fun e => absurd (congrArg ByteArray.size e) (by decide)
def Tab (w : World) : Prop := ∀ i : Nat, i < 11 → w.cell? ⟨0, i, none⟩ = some (.string (nameV i))
def Named (op : Int) : Prop := (1 ≤ op ∧ op ≤ 10) ∨ (20 ≤ op ∧ op ≤ 25)
def GivesNm (w : World) (P : Prop) (e : Ending) (w' : World) : Prop := ∃ s : ByteArray, e = .returned (.string s) ∧ (P → s ≠ ⟨#[]⟩) ∧ w' = w

set_option maxHeartbeats 1000000 in
theorem wordOk_any (op : Int) (w : World) : Calls Tryd.prog 97 #[.int .i64 op] w fun e w' => e = .returned (.bool (decide (1 ≤ op) && decide (op < 11))) ∧ w' = w := by
  by_cases h : 1 ≤ op
  · rw [decide_eq_true h, Bool.true_and]
    by_cases h1 : op < 11
    · rw [decide_eq_true h1]
      go_enter Tryd.func97, Tryd.ntmps97
      go_wp2
      go_ret
      exact ⟨rfl, rfl⟩
    · rw [decide_eq_false h1]
      go_enter Tryd.func97, Tryd.ntmps97
      go_wp2
      go_ret
      exact ⟨rfl, rfl⟩
  · rw [decide_eq_false h, Bool.false_and]
    go_enter Tryd.func97, Tryd.ntmps97
    go_wp2
    go_ret
    exact ⟨rfl, rfl⟩
set_option maxHeartbeats 1000000 in
theorem wordName_any (op : Int) (w : World) (hT : Tab w) : Calls Tryd.prog 98 #[.int .i64 op] w fun e w' => GivesNm w (1 ≤ op ∧ op ≤ 10) e w' := by
  by_cases h : 1 ≤ op ∧ op < 11
  · obtain ⟨k, rfl⟩ := Int.eq_ofNat_of_zero_le (show 0 ≤ op by omega)
    have hk : k < 11 := by omega
    have hc := hT k hk
    have hn := nameV_some (show 1 ≤ k by omega) hk
    have hq : (decide (1 ≤ (k : Int)) && decide ((k : Int) < 11)) = true := by rw [decide_eq_true h.1, decide_eq_true h.2]; rfl
    generalize nameV k = s at hc hn
    have HN : Hid (s ≠ ⟨#[]⟩) := hn
    clear hT hn
    go_enter Tryd.func98, Tryd.ntmps98
    go_wp2_with fail
    refine (wordOk_any _ _).mono ?_
    rintro e w1 ⟨rfl, rfl⟩
    rw [hq]
    clear hq
    go_wp2
    go_ret
    exact ⟨s, rfl, fun _ => HN.out, rfl⟩
  · have hq : (decide (1 ≤ op) && decide (op < 11)) = false := by
      rw [← Bool.decide_and]
      exact decide_eq_false h
    have HN : Hid (¬ (1 ≤ op ∧ op < 11)) := h
    clear hT h
    go_enter Tryd.func98, Tryd.ntmps98
    go_wp2_with fail
    refine (wordOk_any _ _).mono ?_
    rintro e w1 ⟨rfl, rfl⟩
    rw [hq]
    clear hq
    go_wp2
    go_ret
    exact ⟨_, rfl, fun h => absurd (show 1 ≤ op ∧ op < 11 by omega) HN.out, rfl⟩
theorem lit_some {s : ByteArray} (h : 0 < s.size) : s ≠ ⟨#[]⟩ := fun e => by
  rw [e] at h
  exact absurd h (by decide)
set_option maxHeartbeats 2000000 in
theorem placeName_any (op : Int) (w : World) (hT : Tab w) : Calls Tryd.prog 93 #[.int .i64 op] w fun e w' => GivesNm w (Named op) e w' := by
  by_cases h20 : op = 20
  · subst h20
    clear hT
    go_enter Tryd.func93, Tryd.ntmps93
    go_wp2
    go_ret
    exact ⟨_, rfl, fun _ => lit_some (by decide), rfl⟩
  by_cases h21 : op = 21
  · subst h21
    clear hT
    go_enter Tryd.func93, Tryd.ntmps93
    go_wp2
    go_ret
    exact ⟨_, rfl, fun _ => lit_some (by decide), rfl⟩
  by_cases h22 : op = 22
  · subst h22
    clear hT
    go_enter Tryd.func93, Tryd.ntmps93
    go_wp2
    go_ret
    exact ⟨_, rfl, fun _ => lit_some (by decide), rfl⟩
  by_cases h23 : op = 23
  · subst h23
    clear hT
    go_enter Tryd.func93, Tryd.ntmps93
    go_wp2
    go_ret
    exact ⟨_, rfl, fun _ => lit_some (by decide), rfl⟩
  by_cases h24 : op = 24
  · subst h24
    clear hT
    go_enter Tryd.func93, Tryd.ntmps93
    go_wp2
    go_ret
    exact ⟨_, rfl, fun _ => lit_some (by decide), rfl⟩
  by_cases h25 : op = 25
  · subst h25
    clear hT
    go_enter Tryd.func93, Tryd.ntmps93
    go_wp2
    go_ret
    exact ⟨_, rfl, fun _ => lit_some (by decide), rfl⟩
  have HT : Hid (Tab w) := hT
  have e20 : (op == 20) = false := by simpa using h20
  have e21 : (op == 21) = false := by simpa using h21
  have e22 : (op == 22) = false := by simpa using h22
  have e23 : (op == 23) = false := by simpa using h23
  have e24 : (op == 24) = false := by simpa using h24
  have e25 : (op == 25) = false := by simpa using h25
  have HN : Hid (Named op → 1 ≤ op ∧ op ≤ 10) := by
    show _ → _
    unfold Named
    omega
  clear hT h20 h21 h22 h23 h24 h25
  go_enter Tryd.func93, Tryd.ntmps93
  go_wp2_with fail
  refine (wordName_any op _ HT.out).mono ?_
  rintro e w1 ⟨s, rfl, hs, rfl⟩
  go_wp2
  go_ret
  exact ⟨s, rfl, fun h => hs (HN.out h), rfl⟩
def EndNamed (k : Int) : Prop := 1 ≤ k ∧ k ≤ 3
set_option maxHeartbeats 2000000 in
theorem endName_any (op : Int) (w : World) : Calls Tryd.prog 75 #[.int .i64 op] w fun e w' => GivesNm w (EndNamed op) e w' := by
  by_cases h1 : op = 1
  · subst h1
    go_enter Tryd.func75, Tryd.ntmps75
    go_wp2
    go_ret
    exact ⟨_, rfl, fun _ => lit_some (by decide), rfl⟩
  by_cases h2 : op = 2
  · subst h2
    go_enter Tryd.func75, Tryd.ntmps75
    go_wp2
    go_ret
    exact ⟨_, rfl, fun _ => lit_some (by decide), rfl⟩
  by_cases h3 : op = 3
  · subst h3
    go_enter Tryd.func75, Tryd.ntmps75
    go_wp2
    go_ret
    exact ⟨_, rfl, fun _ => lit_some (by decide), rfl⟩
  have e1 : (op == 1) = false := by simpa using h1
  have e2 : (op == 2) = false := by simpa using h2
  have e3 : (op == 3) = false := by simpa using h3
  have HN : Hid (¬ EndNamed op) := by
    show ¬ _
    unfold EndNamed
    omega
  clear h1 h2 h3
  go_enter Tryd.func75, Tryd.ntmps75
  go_wp2
  go_ret
  exact ⟨_, rfl, fun h => absurd h HN.out, rfl⟩
end Go.Proofs.YthdioeeanodjiaaDoor

namespace Go.Proofs.YthdioeeanodjiaaDoor
open Go.ChangeShapes Go.WideShapes Go.ChangeAt Go.RowKit
set_option linter.unusedVariables false

theorem own : ownKnob Tryd.prog.godebug = none := by kernel_rfl
theorem laidOut : laidOutB Tryd.prog = true := by kernel_rfl
/-- The table's name, out of the row. -/
def tabName : String := Rows.fnExactUnpackFnSpec.vars.headD ""
theorem gTab : Tryd.prog.globalNamed tabName = some 0 := by kernel_rfl
theorem tTab : (Tryd.prog.globals[0]?).map (·.type) = some 143 := by kernel_rfl
theorem cStr : Tryd.prog.cellsOf 9 = 1 := by kernel_rfl

/-- The heap that the start leaves meets the condition. -/
theorem door_met (os : Os) (args : Array Value) : laidMetH Tryd.prog Rows.fnExactUnpackFnRow.laid ((World.doorLaid Tryd.prog 400 os).forCall (fun _ _ => 0) ⟨#[], args, []⟩).memory :=
  laidMetH_of_parts3 (fuel := 8) (laidMet_of_run' 8 (by kernel_rfl) (by kernel_rfl)) (by kernel_rfl) (by kernel_rfl)

def tabParts : List (DataW Unit) := [.lit (.string []), .lit (.string [97, 100, 100]), .lit (.string [115, 117, 98]), .lit (.string [109, 117, 108]), .lit (.string [97, 110, 100]), .lit (.string [111, 114]), .lit (.string [120, 111, 114]), .lit (.string [108, 101, 115, 115]), .lit (.string [115, 97, 109, 101]), .lit (.string [108, 101, 102, 116]), .lit (.string [114, 105, 103, 104, 116])]
theorem tab_part (i : Nat) (hi : i < 11) : tabParts[i]? = some (.lit (.string (nameV i).data.toList)) := by
  match i, hi with
  | 0, _ => rfl
  | 1, _ => rfl
  | 2, _ => rfl
  | 3, _ => rfl
  | 4, _ => rfl
  | 5, _ => rfl
  | 6, _ => rfl
  | 7, _ => rfl
  | 8, _ => rfl
  | 9, _ => rfl
  | 10, _ => rfl

theorem of_laid {W : World} (h : laidMetH Tryd.prog Rows.fnExactUnpackFnRow.laid W) : Tab W := by
  rw [MakeChecks.laidMetH_plain _ _ _ (by kernel_rfl)] at h
  obtain ⟨ps, ⟨g0, t0, cs0, f0, p0, q0, hg0, ht0, hv0, hd0, _, _⟩, _, _⟩ := h
  obtain rfl := Option.some.inj (gTab.symm.trans hg0)
  obtain rfl := Option.some.inj (tTab.symm.trans ht0)
  obtain ⟨xs, m1, rfl, hx1, hlen, hn, hel⟩ := DataW.trod_array Tryd.underlying143 hd0
  have hd : tabParts = xs.map (·.1) := by
    have := congrArg Prod.fst hx1
    exact DataW.agg.inj this
  intro i hi
  have hi' := hel i hi
  rw [List.getElem?_eq_getElem (by omega), cStr] at hi'
  obtain ⟨s, e1, e2, _⟩ := DataW.trod_string Tryd.underlying9 hi'
  have hp := tab_part i hi
  rw [hd, List.getElem?_map, List.getElem?_eq_getElem (by omega), e2] at hp
  have hs : s = nameV i := by
    apply Go.WideShapes.bytes_inj
    simpa using hp
  have hc := World.var?_cell hg0 hv0 i
  rw [hc, ← hs]
  have e3 : cs0.toList[i]? = some (.string s) := by
    have := congrArg (fun l => l[0]?) e1
    simpa using this
  simpa using e3

/-- The variable reads again as it did. -/
theorem vars_again {H : Type} {enc : TypeId × Value → H} {W W' : World} {cs : Array Value} {fuel : Nat} {d : DataW H} {p : List MemPlace}
    (hvar : W.var? Tryd.prog tabName = some cs) (hd : DataW.trod enc Tryd.prog W 0 (fun _ => true) true fuel 143 cs.toList = some (d, p)) (hlt : ∀ x ∈ p, x.block < W.heap.size) (h0 : 0 < W.heap.size) (hB : Below W.heap.size W W') :
    DataW.TrodVars enc Tryd.prog W' (fun b => decide (b < W.heap.size)) [tabName] [d] (MemPlace.row ⟨0, 0, none⟩ cs.size ++ p) := by
  obtain ⟨fuel', hd'⟩ := Below.trod laidOut (by kernel_rfl) (of_decide_eq_true (by kernel_rfl)) (v := .agg cs) (⟨fuel, by simpa [Value.cells] using hd⟩ : DataW.Trod enc Tryd.prog W 0 (fun _ => true) true 143 (.agg cs) d p) hB hlt
  exact trodVars_mk1 (enc := enc) (spare := fun b => decide (b < W.heap.size)) gTab tTab (var?_below hB gTab h0 hvar) (by simpa [Value.cells] using hd')
end Go.Proofs.YthdioeeanodjiaaDoor

namespace Go.Proofs.YthdioeeanodjiaaDoor
open Go.ChangeShapes Go.WideShapes Go.ChangeAt Go.RowKit
set_option linter.unusedVariables false

set_option maxHeartbeats 1000000 in
theorem markByteS_ownX (lo : Nat) (v : Value) (l : List UInt8) (q : Nat) (w : World) (hr : OwnB w lo v l) (hlo : lo ≤ w.heap.size) (hq2 : (q : Int) + l.length ≤ 9223372036854775807) :
    Calls Tryd.prog 16 #[v, .int .i64 (q : Int)] w fun e w' => e = .returned (.int .i64 ((q : Int) + l.length)) ∧ Below lo w w' ∧ BytesAt w' v (bmk q l.length) ∧ (∀ g, v.ownBlock ≠ some g → w'.heap[g]? = w.heap[g]?) ∧ w'.heap.size = w.heap.size := by
  have hs := hr.small
  have hmx : (l.length : Int) ≤ 9223372036854775807 := by
    have : maxLen ≤ 9223372036854775807 := by decide
    omega
  obtain ⟨a, cap, rfl, hc⟩ := hr.row
  obtain ⟨n, HN⟩ : ∃ n, Hid (l.length = n) := ⟨_, rfl⟩
  rw [HN.out] at hmx hq2 hc hs ⊢
  have HS : Hid (n ≤ maxLen) := hs
  have HC : Hid (0 < n → n ≤ cap ∧ ∃ g, a = some ⟨g, 0, none⟩ ∧ lo ≤ g ∧ g < w.heap.size ∧ (∀ i, i < n → w.cell? ⟨g, i, none⟩ = some (.int .u8 ((l.getD i 0).toNat : Nat))) ∧ ∀ i, w.frozen? ⟨g, i, none⟩ = false) := hc
  clear hc hr hs
  go_enter Tryd.func16, Tryd.ntmps16
  go_wp2
  go_loopw [1, 5] (fun kv i wr => ∃ k : Nat, k ≤ n ∧ i = .int .i64 k ∧ kv = .int .i64 ((q : Int) + k) ∧ Below lo w wr ∧ ((∀ g, a ≠ some ⟨g, 0, none⟩ → wr.heap[g]? = w.heap[g]?) ∧ wr.heap.size = w.heap.size) ∧ ∀ g, a = some ⟨g, 0, none⟩ → ((∀ j, j < k → wr.cell? ⟨g, j, none⟩ = some (.int .u8 (((q : Int) + j) % 256))) ∧ (∀ j, k ≤ j → j < n → ∃ x, wr.cell? ⟨g, j, none⟩ = some (.int .u8 x)) ∧ (∀ j, j < n → wr.frozen? ⟨g, j, none⟩ = false))) (fun _ i _ => n - (intOf i).toNat)
  case atStart =>
    refine ⟨0, Nat.zero_le _, rfl, by go_num, Below.refl _ _, ⟨fun _ _ => rfl, rfl⟩, fun g hg => ⟨fun j hj => absurd hj (by omega), fun j _ hj => ?_, fun j hj => ?_⟩⟩
    · obtain ⟨_, g', e, _, _, h1, _⟩ := HC.out (by omega)
      rw [hg] at e
      cases e
      exact ⟨_, h1 j hj⟩
    · obtain ⟨_, g', e, _, _, _, h2⟩ := HC.out (by omega)
      rw [hg] at e
      cases e
      exact h2 j
  case round =>
    obtain ⟨k, hk, rfl, rfl, hfr, hoth, hdone⟩ := hrel
    have H0 : Hid ((∀ g, a ≠ some ⟨g, 0, none⟩ → wr.heap[g]? = w.heap[g]?) ∧ wr.heap.size = w.heap.size) := hoth
    have H1 : Hid (Below lo w wr) := hfr
    have H2 : Hid (∀ g, a = some ⟨g, 0, none⟩ → ((∀ j, j < k → wr.cell? ⟨g, j, none⟩ = some (.int .u8 (((q : Int) + j) % 256))) ∧ (∀ j, k ≤ j → j < n → ∃ x, wr.cell? ⟨g, j, none⟩ = some (.int .u8 x)) ∧ (∀ j, j < n → wr.frozen? ⟨g, j, none⟩ = false))) := hdone
    clear hfr hdone hoth
    by_cases hlt2 : (k : Int) < (n : Int)
    · obtain ⟨_, g, rfl, hg, _⟩ := HC.out (by omega)
      obtain ⟨K1, K2, K3⟩ := H2.out g rfl
      obtain ⟨x, q1⟩ := K2 k (Nat.le_refl _) (by omega)
      have q2 := K3 k (by omega)
      have K1' : Hid (∀ j, j < k → wr.cell? ⟨g, j, none⟩ = some (.int .u8 (((q : Int) + j) % 256))) := K1
      have K2' : Hid (∀ j, k ≤ j → j < n → ∃ x, wr.cell? ⟨g, j, none⟩ = some (.int .u8 x)) := K2
      have K3' : Hid (∀ j, j < n → wr.frozen? ⟨g, j, none⟩ = false) := K3
      clear K1 K2 K3
      go_wp2
      go_roundw
      case rel =>
        refine ⟨k + 1, by omega, by go_num, by go_num, H1.out.setCell (p := ⟨g, k, none⟩) hg _, ⟨fun g' hg' => (Below.heap_setCell _ _ _ g' (fun e => hg' (by rw [show g' = g from e]))).trans (H0.out.1 g' hg'), by simpa using H0.out.2⟩, fun g' e => ?_⟩
        cases e
        refine ⟨fun j hj => ?_, fun j hj hj2 => ?_, fun j hj => ?_⟩
        · by_cases hjk : j = k
          · subst hjk
            exact World.cell?_setCell_same _ _ _ q1
          · rw [World.cell?_setCell_other _ _ _ _ (by simp <;> omega)]
            exact K1'.out j (by omega)
        · rw [World.cell?_setCell_other _ _ _ _ (by simp <;> omega)]
          exact K2'.out j (by omega) hj2
        · simpa using K3'.out j hj
      case measure => simp [intOf]; omega
    · have hkn : k = n := by omega
      subst hkn
      go_wp2
      go_ret
      refine ⟨rfl, H1.out, ⟨a, cap, by rw [bmk_len], by rw [bmk_len]; exact HS.out, fun hp => ?_⟩, fun g hg => H0.out.1 g (fun e => hg (by rw [e]; rfl)), H0.out.2⟩
      rw [bmk_len] at hp
      obtain ⟨hcap, g, rfl, _⟩ := HC.out hp
      refine ⟨by rw [bmk_len]; exact hcap, g, 0, rfl, fun i hi => ?_⟩
      rw [bmk_len] at hi
      rw [bmk_at _ _ _ hi, mark_byte]
      simpa using (H2.out g rfl).1 i hi
end Go.Proofs.YthdioeeanodjiaaDoor

namespace Go.Proofs.YthdioeeanodjiaaDoor
open Go.ChangeShapes Go.WideShapes Go.ChangeAt Go.RowKit
set_option linter.unusedVariables false

/-- These numbers stand from p on, to the end. -/
def On (l : List UInt8) (p : Nat) (xs : List Int) : Prop := p ≤ l.length ∧ l.drop p = packB xs ∧ allF xs = true
theorem On.next {l : List UInt8} {p : Nat} {x : Int} {xs : List Int} (h : On l p (x :: xs)) : ∃ q : Nat, unpackX l p = (x, (q : Int), true) ∧ On l q xs ∧ p < q := by
  obtain ⟨h1, h2, h3⟩ := h
  have hf : Formed x ∧ allF xs = true := by simpa [allF] using h3
  have e : packB (x :: xs) = packX x ++ packB xs := by simp [packB]
  rw [e] at h2
  have hl : l = l.take p ++ packX x ++ packB xs := by rw [List.append_assoc, ← h2, List.take_append_drop]
  have ht : (l.take p).length = p := by rw [List.length_take]; omega
  have hu := unpack_pack hf.1 (l.take p) (packB xs)
  rw [← hl, ht] at hu
  have hpos := packX_pos.2 hf.1
  have hlen := congrArg List.length h2
  rw [List.length_drop, List.length_append] at hlen
  refine ⟨p + (packX x).length, hu, ⟨by omega, ?_, hf.2⟩, by omega⟩
  rw [← List.drop_drop, h2, List.drop_left]
theorem On.ends {l : List UInt8} {p : Nat} (h : On l p []) : p = l.length := by
  obtain ⟨h1, h2, _⟩ := h
  have := congrArg List.length h2
  simp [packB] at this
  omega
theorem On.start {l : List UInt8} {xs : List Int} (h : packB xs = l) (ha : allF xs = true) : On l 0 xs := ⟨Nat.zero_le _, by simp [h], ha⟩

/-- What was read is what stood there, and what stood behind it stands there now. -/
def Got {α : Type} (l : List UInt8) (p : Nat) (ok : Bool) (p' : Nat) (ok' : Bool) (N : α → List Int) (lim : α → Prop) (y : α) : Prop :=
  ∀ y0 ys, lim y0 → ok = true → On l p (N y0 ++ ys) → y = y0 ∧ ok' = true ∧ On l p' ys

theorem unpackX_reach {l : List UInt8} {p : Nat} {x q : Int} (h : unpackX l p = (x, q, true)) : ∃ b : Nat, q = b ∧ p < b ∧ b ≤ l.length ∧ Formed x := by
  obtain ⟨a, b, h1, h2, h3, h4, h5, _⟩ := pack_unpack h
  exact ⟨b, h2, by omega, h4, h5⟩

/-- A row of raw parts, k cells each, in block g. -/
def RowV (k : Nat) (w : World) (g : Nat) (xs : List (List Value)) : Prop := ∀ (i : Nat) ys, xs[i]? = some ys → ys.length = k ∧ w.rangeAt g (i * k) ys
theorem RowV.same {k : Nat} {w w' : World} {g : Nat} {xs : List (List Value)} (h : RowV k w g xs) (hs : w'.heap[g]? = w.heap[g]?) : RowV k w' g xs := fun i ys hi =>
  ⟨(h i ys hi).1, fun j v hv => (show w'.cell? ⟨g, i * k + j, none⟩ = w.cell? ⟨g, i * k + j, none⟩ by simp only [World.cell?, hs]).trans ((h i ys hi).2 j v hv)⟩
theorem RowV.thereAt {k : Nat} {w : World} {g : Nat} {xs : List (List Value)} (h : RowV k w g xs) (hz : ∀ j, w.frozen? ⟨g, j, none⟩ = false) {i : Nat} (hi : i < xs.length) : w.there g (i * k) k := fun j hj => by
  obtain ⟨h1, h2⟩ := h i _ (List.getElem?_eq_getElem hi)
  exact ⟨h2.isSome j (by omega), hz _⟩
theorem RowV.put {k : Nat} {w : World} {g : Nat} {xs : List (List Value)} (h : RowV k w g xs) (hz : ∀ j, w.frozen? ⟨g, j, none⟩ = false) {i : Nat} (hi : i < xs.length) {ys : List Value} (hy : ys.length = k) : RowV k (w.setCells g (i * k) ys) g (xs.set i ys) := fun m zs hm => by
  by_cases e : m = i
  · subst e
    rw [List.getElem?_set_self hi] at hm
    cases hm
    exact ⟨hy, World.rangeAt_setCells_same w g (m * k) ys (by rw [hy]; exact h.thereAt hz hi)⟩
  · rw [List.getElem?_set_ne (by omega)] at hm
    obtain ⟨h1, h2⟩ := h m zs hm
    refine ⟨h1, World.rangeAt_setCells_apart h2 g (i * k) ys (.inr ?_)⟩
    rw [h1, hy]
    rcases Nat.lt_or_gt_of_ne e with h | h
    · left
      rw [← Nat.succ_mul]
      exact Nat.mul_le_mul_right k h
    · right
      rw [← Nat.succ_mul]
      exact Nat.mul_le_mul_right k h
theorem frozen_setCells (g : Nat) : ∀ (ys : List Value) (o : Nat) (w : World) (p : Addr), (w.setCells g o ys).frozen? p = w.frozen? p
  | [], _, _, _ => rfl
  | y :: ys, o, w, p => by
    show ((w.setCell ⟨g, o, none⟩ y).setCells g (o + 1) ys).frozen? p = _
    rw [frozen_setCells g ys]
    simp
theorem size_setCells (g : Nat) : ∀ (ys : List Value) (o : Nat) (w : World), (w.setCells g o ys).heap.size = w.heap.size
  | [], _, _ => rfl
  | y :: ys, o, w => by
    show ((w.setCell ⟨g, o, none⟩ y).setCells g (o + 1) ys).heap.size = _
    rw [size_setCells g ys]
    simp
theorem frB_setCells (X g : Nat) : ∀ (ys : List Value) (o : Nat) (w w0 : World), (FrB X w0 w) → w0.heap.size ≤ g → FrB X w0 (w.setCells g o ys)
  | [], _, _, _, h, _ => h
  | y :: ys, o, w, w0, h, hg => by
    show FrB X w0 ((w.setCell ⟨g, o, none⟩ y).setCells g (o + 1) ys)
    refine frB_setCells X g ys (o + 1) _ w0 ?_ hg
    obtain ⟨h1, h2, h3, h4, h5⟩ := h
    refine ⟨h1, h2, h3, by simpa using h4, fun k hk hne => ?_⟩
    rw [Below.heap_setCell _ _ _ k (show k ≠ g by omega)]
    exact h5 k hk hne

/-- The program's reader: its bytes' box and its place's box. -/
structure RdI (w : World) (BX AX : Nat) (v : Value) (l : List UInt8) (p : Nat) : Prop where
  bx : w.heap[BX]? = some (.cells #[v] 22 (0, 0))
  ax : w.heap[AX]? = some (.cells #[.int .i64 (p : Int)] 3 (0, 0))
  bs : BytesAt w v l
  vb : 0 < l.length → ∀ a n c, v = .slice (some a) n c → a.block ≠ AX
  tab : Tab w
  ne : BX ≠ AX
  a0 : 0 < AX
  hp : p ≤ l.length
  hl : l.length ≤ 1048576
theorem BytesAt.offX {w w' : World} {v : Value} {l : List UInt8} (h : BytesAt w v l) {X : Nat} (hv : 0 < l.length → ∀ a n c, v = .slice (some a) n c → a.block ≠ X) (hf : FrB X w w') : BytesAt w' v l := by
  obtain ⟨a, cap, rfl, hm, hc⟩ := h
  refine ⟨a, cap, rfl, hm, fun hp => ?_⟩
  obtain ⟨hcap, b, off, rfl, hd⟩ := hc hp
  refine ⟨hcap, b, off, rfl, fun i hi => ?_⟩
  have hb : b ≠ X := hv hp _ _ _ rfl
  have hlt := World.block_lt_of_cell? w _ (hd i hi)
  rw [← hd i hi]
  simp only [World.cell?, hf.block b hlt hb]
theorem RdI.turn {w w' : World} {BX AX : Nat} {v : Value} {l : List UInt8} {p p' : Nat} (h : RdI w BX AX v l p) (hf : FrB AX w w') (ha : w'.heap[AX]? = some (.cells #[.int .i64 (p' : Int)] 3 (0, 0))) (hp : p' ≤ l.length) : RdI w' BX AX v l p' := by
  refine ⟨(hf.block BX (Array.getElem?_eq_some_iff.1 h.bx).1 h.ne).trans h.bx, ha, h.bs.offX h.vb hf, h.vb, fun i hi => ?_, h.ne, h.a0, hp, h.hl⟩
  have hc := h.tab i hi
  have hlt := World.block_lt_of_cell? w _ hc
  rw [← hc]
  simp only [World.cell?, hf.block 0 hlt (by have := h.a0; omega)]
theorem RdI.alloc {w : World} {BX AX : Nat} {v : Value} {l : List UInt8} {p : Nat} (h : RdI w BX AX v l p) (o : Obj) : RdI (w.alloc o) BX AX v l p :=
  h.turn (FrB.ofBelow (Bel.alloc _ _)) ((Below.heap_alloc _ _ _ (Array.getElem?_eq_some_iff.1 h.ax).1).trans h.ax) h.hp
theorem RdI.lt {w : World} {BX AX : Nat} {v : Value} {l : List UInt8} {p : Nat} (h : RdI w BX AX v l p) : AX < w.heap.size := (Array.getElem?_eq_some_iff.1 h.ax).1
end Go.Proofs.YthdioeeanodjiaaDoor

namespace Go.Proofs.YthdioeeanodjiaaDoor
open Go.ChangeShapes Go.WideShapes Go.ChangeAt Go.RowKit
set_option linter.unusedVariables false

/-- A number was read. -/
def GivesNx (w : World) (BX AX : Nat) (v : Value) (l : List UInt8) (p : Nat) (e : Ending) (w' : World) : Prop :=
  ∃ (x : Int) (p' : Nat), e = .returned (.int .i64 x) ∧ RdI w' BX AX v l p' ∧ FrB AX w w' ∧ w'.heap.size = w.heap.size ∧ ∀ y ys, On l p (y :: ys) → x = y ∧ On l p' ys

set_option maxHeartbeats 2000000 in
theorem next_any {w : World} {BX AX : Nat} {v : Value} {l : List UInt8} {p : Nat} (h : RdI w BX AX v l p) :
    Calls Tryd.prog 47 #[.pointer (some ⟨BX, 0, none⟩), .pointer (some ⟨AX, 0, none⟩)] w fun e w' => GivesNx w BX AX v l p e w' := by
  have HR : Hid (RdI w BX AX v l p) := h
  have c1 : w.cell? ⟨BX, 0, none⟩ = some v := by simp [World.cell?, h.bx]
  have c2 : w.cell? ⟨AX, 0, none⟩ = some (.int .i64 (p : Int)) := by simp [World.cell?, h.ax]
  have hfz : w.frozen? ⟨AX, 0, none⟩ = false := by simp [World.frozen?, h.ax]
  have hp := h.hp
  have hl := h.hl
  have hb := h.bs
  clear h
  obtain ⟨⟨r1, r2, r3⟩, HU⟩ : ∃ r, Hid (unpackX l p = r) := ⟨_, rfl⟩
  have HB : Hid (BytesAt w v l) := hb
  clear hb
  have HP : Hid (p ≤ l.length ∧ l.length ≤ 1048576) := ⟨hp, hl⟩
  clear hp hl
  go_enter Tryd.func47, Tryd.ntmps47
  go_wp2_with fail
  refine (impl_unpackNum _ l _ _ HB.out (by have := HP.out; omega) (by have := HP.out; omega)).mono ?_
  rw [HU.out]
  rintro e w1 ⟨rfl, hw1⟩
  subst hw1
  cases r3 with
  | true =>
    obtain ⟨b, HQ, hpb, hbl, _⟩ := unpackX_reach HU.out
    have HQ2 : Hid (r2 = (b : Int)) := HQ
    have HBL : Hid (b ≤ l.length) := hbl
    clear HQ hpb hbl
    go_wp2_with fail
    go_ret
    have hb2 := HQ2.out
    subst hb2
    have hF : FrB AX w1 (w1.setCell ⟨AX, 0, none⟩ (.int .i64 (b : Int))) := (FrB.refl AX w1).setCell _ _
    refine ⟨r1, b, rfl, HR.out.turn hF (by simp [World.setCell, Array.getElem?_modify, HR.out.ax]) HBL.out, hF, by simp, fun y ys ho => ?_⟩
    obtain ⟨q, hu, ho2, _⟩ := ho.next
    rw [HU.out] at hu
    simp at hu
    obtain ⟨rfl, h9⟩ := hu
    have h8 : q = b := by omega
    subst h8
    exact ⟨rfl, ho2⟩
  | false =>
    go_wp2_with fail
    go_ret
    refine ⟨r1, p, rfl, HR.out, FrB.refl _ _, rfl, fun y ys ho => ?_⟩
    obtain ⟨q, hu, _⟩ := ho.next
    rw [HU.out] at hu
    simp at hu

/-- A count was read. -/
def GivesCt (w : World) (BX AX : Nat) (v : Value) (l : List UInt8) (p : Nat) (most : Int) (e : Ending) (w' : World) : Prop :=
  ∃ (n p' : Nat), e = .returned (.int .i64 (n : Int)) ∧ (n : Int) ≤ most ∧ RdI w' BX AX v l p' ∧ FrB AX w w' ∧ w'.heap.size = w.heap.size ∧ ∀ (y : Nat) ys, (y : Int) ≤ most → On l p ((y : Int) :: ys) → n = y ∧ On l p' ys
abbrev clo (BX AX : Nat) : Value := .func (Fn.func 47) #[] #[.pointer (some ⟨BX, 0, none⟩), .pointer (some ⟨AX, 0, none⟩)]

set_option maxHeartbeats 2000000 in
theorem count_any {w : World} {BX AX : Nat} {v : Value} {l : List UInt8} {p : Nat} (most : Int) (hm : 0 ≤ most ∧ most ≤ 1000) (h : RdI w BX AX v l p) :
    Calls Tryd.prog 49 #[clo BX AX, .int .i64 most] w fun e w' => GivesCt w BX AX v l p most e w' := by
  have HR : Hid (RdI w BX AX v l p) := h
  clear h
  go_enter Tryd.func49, Tryd.ntmps49
  go_wp2_with fail
  refine (next_any HR.out).mono ?_
  rintro e w1 ⟨x, p1, rfl, hR, hF, hS, hO⟩
  have HR1 : Hid (RdI w1 BX AX v l p1) := hR
  have HF1 : Hid (FrB AX w w1) := hF
  have HS1 : Hid (w1.heap.size = w.heap.size) := hS
  have HO1 : Hid (∀ y ys, On l p (y :: ys) → x = y ∧ On l p1 ys) := hO
  clear hR hF hS hO
  by_cases h0 : x < 0
  · go_wp2_with fail
    go_ret
    refine ⟨0, p1, rfl, by simpa using hm.1, HR1.out, HF1.out, HS1.out, fun y ys hy ho => ?_⟩
    have := (HO1.out _ _ ho).1
    omega
  · by_cases h2 : most < x
    · go_wp2_with fail
      go_ret
      refine ⟨0, p1, rfl, by simpa using hm.1, HR1.out, HF1.out, HS1.out, fun y ys hy ho => ?_⟩
      have := (HO1.out _ _ ho).1
      omega
    · obtain ⟨n, rfl⟩ := Int.eq_ofNat_of_zero_le (show 0 ≤ x by omega)
      go_wp2_with fail
      go_ret
      refine ⟨n, p1, rfl, by omega, HR1.out, HF1.out, HS1.out, fun y ys hy ho => ?_⟩
      obtain ⟨e1, e2⟩ := HO1.out _ _ ho
      exact ⟨by omega, e2⟩

/-- An end was read. -/
def termN (t : TermD) : List Int := [t.k, t.a, t.t, t.e]
def GivesTm (w : World) (BX AX : Nat) (v : Value) (l : List UInt8) (p : Nat) (e : Ending) (w' : World) : Prop :=
  ∃ (t : TermD) (p' : Nat), e = .returned (.agg #[.int .i64 t.k, .int .i64 t.a, .int .i64 t.t, .int .i64 t.e]) ∧ RdI w' BX AX v l p' ∧ FrB AX w w' ∧ Got l p true p' true termN (fun t => EndNamed t.k) t

theorem RdI.box {w : World} {BX AX : Nat} {v : Value} {l : List UInt8} {p : Nat} (h : RdI w BX AX v l p) (cs : Array Value) (T : TypeId) : RdI (w.alloc (.cells cs T)) BX AX v l p ∧ FrB AX w (w.alloc (.cells cs T)) ∧ (w.alloc (.cells cs T)).heap[w.heap.size]? = some (.cells cs T (0, 0)) ∧ w.heap.size ≠ AX ∧ (w.alloc (.cells cs T)).heap.size = w.heap.size + 1 :=
  ⟨h.alloc _, FrB.ofBelow (Bel.alloc _ _), World.alloc_heap_new _ _, by have := h.lt; omega, by simp⟩
theorem FrB.at {AX : Nat} {w w' : World} (h : FrB AX w w') {Q : Nat} {o : Option Obj} (hq : w.heap[Q]? = o) (ho : o.isSome = true) (hne : Q ≠ AX) : w'.heap[Q]? = o := by
  rw [← hq]
  refine h.block Q ?_ hne
  rw [← hq] at ho
  cases hh : w.heap[Q]? with
  | none => rw [hh] at ho; cases ho
  | some x => exact (Array.getElem?_eq_some_iff.1 hh).1

theorem heap_setCells (g : Nat) {k : Nat} (hk : k ≠ g) : ∀ (ys : List Value) (o : Nat) (w : World), (w.setCells g o ys).heap[k]? = w.heap[k]?
  | [], _, _ => rfl
  | y :: ys, o, w => by
    show ((w.setCell ⟨g, o, none⟩ y).setCells g (o + 1) ys).heap[k]? = _
    rw [heap_setCells g hk ys]
    exact Below.heap_setCell _ _ _ k hk
/-- A box of the call's own is filled: the reader is as it was. -/
theorem RdI.fill {w0 w : World} {BX AX : Nat} {v : Value} {l : List UInt8} {p p' : Nat} (h0 : RdI w0 BX AX v l p) (h : RdI w BX AX v l p') (hf : FrB AX w0 w) {Q : Nat} (hQ : w0.heap.size ≤ Q) (o : Nat) (ys : List Value) : RdI (w.setCells Q o ys) BX AX v l p' ∧ FrB AX w0 (w.setCells Q o ys) := by
  have hF := frB_setCells AX Q ys o w w0 hf hQ
  exact ⟨h0.turn hF ((heap_setCells Q (by have := h0.lt; omega) ys o w).trans h.ax) h.hp, hF⟩
theorem str_none : (⟨#[]⟩ : ByteArray).toList = [] := by rw [ByteArray.toList_eq]
theorem str_full {s : ByteArray} (h : ¬ s = ⟨#[]⟩) : s.toList.isEmpty = false := by
  cases hs : s.toList with
  | nil => exact absurd (str_inj (hs.trans str_none.symm)) h
  | cons a b => rfl

set_option maxHeartbeats 4000000 in
theorem term_any {w : World} {BX AX : Nat} {v : Value} {l : List UInt8} {p : Nat} (h : RdI w BX AX v l p) :
    Calls Tryd.prog 52 #[clo BX AX] w fun e w' => GivesTm w BX AX v l p e w' := by
  obtain ⟨hA, hF, hq, hne, hsz⟩ := h.box #[.int .i64 0, .int .i64 0, .int .i64 0, .int .i64 0] 44
  have HR : Hid (RdI (w.alloc (.cells #[.int .i64 0, .int .i64 0, .int .i64 0, .int .i64 0] 44)) BX AX v l p) := hA
  have HF : Hid (FrB AX w (w.alloc (.cells #[.int .i64 0, .int .i64 0, .int .i64 0, .int .i64 0] 44))) := hF
  have HQ : Hid ((w.alloc (.cells #[.int .i64 0, .int .i64 0, .int .i64 0, .int .i64 0] 44)).heap[w.heap.size]? = some (.cells #[.int .i64 0, .int .i64 0, .int .i64 0, .int .i64 0] 44 (0, 0))) := hq
  have HN : Hid (w.heap.size ≠ AX) := hne
  have HR0 : Hid (RdI w BX AX v l p) := h
  clear hA hF hq hne h hsz
  go_enter Tryd.func52, Tryd.ntmps52
  go_wp2_with fail
  generalize w.alloc (.cells #[.int .i64 0, .int .i64 0, .int .i64 0, .int .i64 0] 44) = wA at HR HF HQ ⊢
  obtain ⟨Q, HQQ⟩ : ∃ Q, Hid (w.heap.size = Q) := ⟨_, rfl⟩
  rw [HQQ.out] at HQ HN ⊢
  refine (next_any HR.out).mono ?_
  rintro e w1 ⟨x, p1, rfl, hR, hF, hS, hO⟩
  have HR1 : Hid (RdI w1 BX AX v l p1) := hR
  have HF1 : Hid (FrB AX w w1) := HF.out.trans hF
  have HO1 : Hid (∀ y ys, On l p (y :: ys) → x = y ∧ On l p1 ys) := hO
  have HQ1 : Hid (w1.heap[Q]? = some (.cells #[.int .i64 0, .int .i64 0, .int .i64 0, .int .i64 0] 44 (0, 0))) := hF.at HQ.out rfl HN.out
  clear hR hF hS hO HR HF HQ
  go_wp2_with fail
  refine (endName_any x w1).mono ?_
  rintro e w2 ⟨s, rfl, hs, rfl⟩
  have HS : Hid (EndNamed x → s ≠ ⟨#[]⟩) := hs
  clear hs
  have q0 : w2.cell? ⟨Q, 0, none⟩ = some (.int .i64 0) := by simp [World.cell?, HQ1.out]
  have q1 : w2.cell? ⟨Q, 1, none⟩ = some (.int .i64 0) := by simp [World.cell?, HQ1.out]
  have q2 : w2.cell? ⟨Q, 2, none⟩ = some (.int .i64 0) := by simp [World.cell?, HQ1.out]
  have q3 : w2.cell? ⟨Q, 3, none⟩ = some (.int .i64 0) := by simp [World.cell?, HQ1.out]
  have qz : ∀ j, w2.frozen? ⟨Q, j, none⟩ = false := fun j => by simp [World.frozen?, HQ1.out]
  by_cases he : s = ⟨#[]⟩
  · have hq : s.toList.isEmpty = true := by rw [he, str_none]; rfl
    have HE : Hid (s = ⟨#[]⟩) := he
    clear he
    go_wp2_with fail
    obtain ⟨hR9, hF9⟩ := HR0.out.fill HR1.out HF1.out (by have := HQQ.out; omega) 0 [.int .i64 0, .int .i64 0, .int .i64 0, .int .i64 0] (Q := Q)
    refine bodyPost_ret (v := .agg #[.int .i64 0, .int .i64 0, .int .i64 0, .int .i64 0]) (by simp [results, Tryd.results52, go_sem, q0, q1, q2, q3]) rfl ?_
    refine ⟨⟨0, 0, 0, 0⟩, p1, rfl, hR9, hF9, fun t ys ht _ ho => ?_⟩
    obtain ⟨e1, _⟩ := HO1.out t.k ([t.a, t.t, t.e] ++ ys) ho
    exact absurd HE.out (HS.out (by rw [e1]; exact ht))
  · have hq : s.toList.isEmpty = false := str_full he
    have HE : Hid (¬ s = ⟨#[]⟩) := he
    clear he q0 q1 q2 q3 qz
    go_wp2_with fail
    refine (next_any HR1.out).mono ?_
    rintro e w3 ⟨x2, p2, rfl, hR, hF, hS, hO⟩
    have HR2 : Hid (RdI w3 BX AX v l p2) := hR
    have HF2 : Hid (FrB AX w w3) := HF1.out.trans hF
    have HO2 : Hid (∀ y ys, On l p1 (y :: ys) → x2 = y ∧ On l p2 ys) := hO
    have HQ2 : Hid (w3.heap[Q]? = some (.cells #[.int .i64 0, .int .i64 0, .int .i64 0, .int .i64 0] 44 (0, 0))) := hF.at HQ1.out rfl HN.out
    clear hR hF hS hO
    go_wp2_with fail
    refine (next_any HR2.out).mono ?_
    rintro e w4 ⟨x3, p3, rfl, hR, hF, hS, hO⟩
    have HR3 : Hid (RdI w4 BX AX v l p3) := hR
    have HF3 : Hid (FrB AX w w4) := HF2.out.trans hF
    have HO3 : Hid (∀ y ys, On l p2 (y :: ys) → x3 = y ∧ On l p3 ys) := hO
    have HQ3 : Hid (w4.heap[Q]? = some (.cells #[.int .i64 0, .int .i64 0, .int .i64 0, .int .i64 0] 44 (0, 0))) := hF.at HQ2.out rfl HN.out
    clear hR hF hS hO
    go_wp2_with fail
    refine (next_any HR3.out).mono ?_
    rintro e w5 ⟨x4, p4, rfl, hR, hF, hS, hO⟩
    have HR4 : Hid (RdI w5 BX AX v l p4) := hR
    have HF4 : Hid (FrB AX w w5) := HF3.out.trans hF
    have HO4 : Hid (∀ y ys, On l p3 (y :: ys) → x4 = y ∧ On l p4 ys) := hO
    have HQ4 : Hid (w5.heap[Q]? = some (.cells #[.int .i64 0, .int .i64 0, .int .i64 0, .int .i64 0] 44 (0, 0))) := hF.at HQ3.out rfl HN.out
    clear hR hF hS hO
    have q0 : w5.cell? ⟨Q, 0, none⟩ = some (.int .i64 0) := by simp [World.cell?, HQ4.out]
    have q1 : w5.cell? ⟨Q, 1, none⟩ = some (.int .i64 0) := by simp [World.cell?, HQ4.out]
    have q2 : w5.cell? ⟨Q, 2, none⟩ = some (.int .i64 0) := by simp [World.cell?, HQ4.out]
    have q3 : w5.cell? ⟨Q, 3, none⟩ = some (.int .i64 0) := by simp [World.cell?, HQ4.out]
    have qz : ∀ j, w5.frozen? ⟨Q, j, none⟩ = false := fun j => by simp [World.frozen?, HQ4.out]
    go_wp2_with fail
    obtain ⟨hR9, hF9⟩ := HR0.out.fill HR4.out HF4.out (by have := HQQ.out; omega) 0 [.int .i64 x, .int .i64 x2, .int .i64 x3, .int .i64 x4] (Q := Q)
    refine bodyPost_ret (v := .agg #[.int .i64 x, .int .i64 x2, .int .i64 x3, .int .i64 x4]) (by simp [results, Tryd.results52, go_sem, q0, q1, q2, q3]) rfl ?_
    refine ⟨⟨x, x2, x3, x4⟩, p4, rfl, hR9, hF9, fun t ys ht _ ho => ?_⟩
    obtain ⟨rfl, o1⟩ := HO1.out t.k ([t.a, t.t, t.e] ++ ys) ho
    obtain ⟨rfl, o2⟩ := HO2.out t.a ([t.t, t.e] ++ ys) o1
    obtain ⟨rfl, o3⟩ := HO3.out t.t ([t.e] ++ ys) o2
    obtain ⟨rfl, o4⟩ := HO4.out t.e ys o3
    exact ⟨rfl, rfl, o4⟩
end Go.Proofs.YthdioeeanodjiaaDoor

namespace Go.Proofs.YthdioeeanodjiaaDoor
open Go.ChangeShapes Go.WideShapes Go.ChangeAt Go.RowKit
set_option linter.unusedVariables false

/-- A place was read. -/
def insN1 (x : InsD) : List Int := [x.op, x.d, x.a, x.b, x.n]
def GivesIn (w : World) (BX AX : Nat) (v : Value) (l : List UInt8) (p : Nat) (e : Ending) (w' : World) : Prop :=
  ∃ (x : InsD) (p' : Nat), e = .returned (.agg #[.int .i64 x.op, .int .i64 x.d, .int .i64 x.a, .int .i64 x.b, .int .i64 x.n]) ∧ RdI w' BX AX v l p' ∧ FrB AX w w' ∧ Got l p true p' true insN1 (fun x => Named x.op) x

set_option maxHeartbeats 8000000 in
theorem ins_any {w : World} {BX AX : Nat} {v : Value} {l : List UInt8} {p : Nat} (h : RdI w BX AX v l p) :
    Calls Tryd.prog 74 #[clo BX AX] w fun e w' => GivesIn w BX AX v l p e w' := by
  obtain ⟨hA, hF, hq, hne, hsz⟩ := h.box #[.int .i64 0, .int .i64 0, .int .i64 0, .int .i64 0, .int .i64 0] 50
  have HR : Hid (RdI (w.alloc (.cells #[.int .i64 0, .int .i64 0, .int .i64 0, .int .i64 0, .int .i64 0] 50)) BX AX v l p) := hA
  have HF : Hid (FrB AX w (w.alloc (.cells #[.int .i64 0, .int .i64 0, .int .i64 0, .int .i64 0, .int .i64 0] 50))) := hF
  have HQ : Hid ((w.alloc (.cells #[.int .i64 0, .int .i64 0, .int .i64 0, .int .i64 0, .int .i64 0] 50)).heap[w.heap.size]? = some (.cells #[.int .i64 0, .int .i64 0, .int .i64 0, .int .i64 0, .int .i64 0] 50 (0, 0))) := hq
  have HN : Hid (w.heap.size ≠ AX) := hne
  have HR0 : Hid (RdI w BX AX v l p) := h
  clear hA hF hq hne h hsz
  go_enter Tryd.func74, Tryd.ntmps74
  go_wp2_with fail
  generalize w.alloc (.cells #[.int .i64 0, .int .i64 0, .int .i64 0, .int .i64 0, .int .i64 0] 50) = wA at HR HF HQ ⊢
  obtain ⟨Q, HQQ⟩ : ∃ Q, Hid (w.heap.size = Q) := ⟨_, rfl⟩
  rw [HQQ.out] at HQ HN ⊢
  refine (next_any HR.out).mono ?_
  rintro e w1 ⟨x1, p1, rfl, hR, hF, hS, hO⟩
  have HR1 : Hid (RdI w1 BX AX v l p1) := hR
  have HF1 : Hid (FrB AX w w1) := HF.out.trans hF
  have HO1 : Hid (∀ y ys, On l p (y :: ys) → x1 = y ∧ On l p1 ys) := hO
  have HQ1 : Hid (w1.heap[Q]? = some (.cells #[.int .i64 0, .int .i64 0, .int .i64 0, .int .i64 0, .int .i64 0] 50 (0, 0))) := hF.at HQ.out rfl HN.out
  clear hR hF hS hO
  go_wp2_with fail
  refine (placeName_any x1 w1 HR1.out.tab).mono ?_
  rintro e w0 ⟨s, rfl, hs, hw0⟩
  subst hw0
  have HS : Hid (Named x1 → s ≠ ⟨#[]⟩) := hs
  clear hs
  by_cases he : s = ⟨#[]⟩
  · have hq : s.toList.isEmpty = true := by rw [he, str_none]; rfl
    have HE : Hid (s = ⟨#[]⟩) := he
    clear he
    have q0 : w0.cell? ⟨Q, 0, none⟩ = some (.int .i64 0) := by simp [World.cell?, HQ1.out]
    have q1 : w0.cell? ⟨Q, 1, none⟩ = some (.int .i64 0) := by simp [World.cell?, HQ1.out]
    have q2 : w0.cell? ⟨Q, 2, none⟩ = some (.int .i64 0) := by simp [World.cell?, HQ1.out]
    have q3 : w0.cell? ⟨Q, 3, none⟩ = some (.int .i64 0) := by simp [World.cell?, HQ1.out]
    have q4 : w0.cell? ⟨Q, 4, none⟩ = some (.int .i64 0) := by simp [World.cell?, HQ1.out]
    have qz : ∀ j, w0.frozen? ⟨Q, j, none⟩ = false := fun j => by simp [World.frozen?, HQ1.out]
    go_wp2_with fail
    obtain ⟨hR9, hF9⟩ := HR0.out.fill HR1.out HF1.out (by have := HQQ.out; omega) 0 [.int .i64 0, .int .i64 0, .int .i64 0, .int .i64 0, .int .i64 0] (Q := Q)
    refine bodyPost_ret (v := .agg #[.int .i64 0, .int .i64 0, .int .i64 0, .int .i64 0, .int .i64 0]) (by simp [results, Tryd.results74, go_sem, q0, q1, q2, q3, q4]) rfl ?_
    refine ⟨⟨0, 0, 0, 0, 0⟩, p1, rfl, hR9, hF9, fun t ys ht _ ho => ?_⟩
    obtain ⟨e1, _⟩ := HO1.out t.op ([t.d, t.a, t.b, t.n] ++ ys) ho
    exact absurd HE.out (HS.out (by rw [e1]; exact ht))
  · have hq : s.toList.isEmpty = false := str_full he
    have HE : Hid (¬ s = ⟨#[]⟩) := he
    clear he
    go_wp2_with fail
    refine (next_any HR1.out).mono ?_
    rintro e w2 ⟨x2, p2, rfl, hR, hF, hS, hO⟩
    have HR2 : Hid (RdI w2 BX AX v l p2) := hR
    have HF2 : Hid (FrB AX w w2) := HF1.out.trans hF
    have HO2 : Hid (∀ y ys, On l p1 (y :: ys) → x2 = y ∧ On l p2 ys) := hO
    have HQ2 : Hid (w2.heap[Q]? = some (.cells #[.int .i64 0, .int .i64 0, .int .i64 0, .int .i64 0, .int .i64 0] 50 (0, 0))) := hF.at HQ1.out rfl HN.out
    clear hR hF hS hO
    go_wp2_with fail
    refine (next_any HR2.out).mono ?_
    rintro e w3 ⟨x3, p3, rfl, hR, hF, hS, hO⟩
    have HR3 : Hid (RdI w3 BX AX v l p3) := hR
    have HF3 : Hid (FrB AX w w3) := HF2.out.trans hF
    have HO3 : Hid (∀ y ys, On l p2 (y :: ys) → x3 = y ∧ On l p3 ys) := hO
    have HQ3 : Hid (w3.heap[Q]? = some (.cells #[.int .i64 0, .int .i64 0, .int .i64 0, .int .i64 0, .int .i64 0] 50 (0, 0))) := hF.at HQ2.out rfl HN.out
    clear hR hF hS hO
    go_wp2_with fail
    refine (next_any HR3.out).mono ?_
    rintro e w4 ⟨x4, p4, rfl, hR, hF, hS, hO⟩
    have HR4 : Hid (RdI w4 BX AX v l p4) := hR
    have HF4 : Hid (FrB AX w w4) := HF3.out.trans hF
    have HO4 : Hid (∀ y ys, On l p3 (y :: ys) → x4 = y ∧ On l p4 ys) := hO
    have HQ4 : Hid (w4.heap[Q]? = some (.cells #[.int .i64 0, .int .i64 0, .int .i64 0, .int .i64 0, .int .i64 0] 50 (0, 0))) := hF.at HQ3.out rfl HN.out
    clear hR hF hS hO
    go_wp2_with fail
    refine (next_any HR4.out).mono ?_
    rintro e w5 ⟨x5, p5, rfl, hR, hF, hS, hO⟩
    have HR5 : Hid (RdI w5 BX AX v l p5) := hR
    have HF5 : Hid (FrB AX w w5) := HF4.out.trans hF
    have HO5 : Hid (∀ y ys, On l p4 (y :: ys) → x5 = y ∧ On l p5 ys) := hO
    have HQ5 : Hid (w5.heap[Q]? = some (.cells #[.int .i64 0, .int .i64 0, .int .i64 0, .int .i64 0, .int .i64 0] 50 (0, 0))) := hF.at HQ4.out rfl HN.out
    clear hR hF hS hO
    have q0 : w5.cell? ⟨Q, 0, none⟩ = some (.int .i64 0) := by simp [World.cell?, HQ5.out]
    have q1 : w5.cell? ⟨Q, 1, none⟩ = some (.int .i64 0) := by simp [World.cell?, HQ5.out]
    have q2 : w5.cell? ⟨Q, 2, none⟩ = some (.int .i64 0) := by simp [World.cell?, HQ5.out]
    have q3 : w5.cell? ⟨Q, 3, none⟩ = some (.int .i64 0) := by simp [World.cell?, HQ5.out]
    have q4 : w5.cell? ⟨Q, 4, none⟩ = some (.int .i64 0) := by simp [World.cell?, HQ5.out]
    have qz : ∀ j, w5.frozen? ⟨Q, j, none⟩ = false := fun j => by simp [World.frozen?, HQ5.out]
    go_wp2_with fail
    obtain ⟨hR9, hF9⟩ := HR0.out.fill HR5.out HF5.out (by have := HQQ.out; omega) 0 [.int .i64 x1, .int .i64 x2, .int .i64 x3, .int .i64 x4, .int .i64 x5] (Q := Q)
    refine bodyPost_ret (v := .agg #[.int .i64 x1, .int .i64 x2, .int .i64 x3, .int .i64 x4, .int .i64 x5]) (by simp [results, Tryd.results74, go_sem, q0, q1, q2, q3, q4]) rfl ?_
    refine ⟨⟨x1, x2, x3, x4, x5⟩, p5, rfl, hR9, hF9, fun t ys ht _ ho => ?_⟩
    obtain ⟨rfl, o1⟩ := HO1.out t.op ([t.d, t.a, t.b, t.n] ++ ys) ho
    obtain ⟨rfl, o2⟩ := HO2.out t.d ([t.a, t.b, t.n] ++ ys) o1
    obtain ⟨rfl, o3⟩ := HO3.out t.a ([t.b, t.n] ++ ys) o2
    obtain ⟨rfl, o4⟩ := HO4.out t.b ([t.n] ++ ys) o3
    obtain ⟨rfl, o5⟩ := HO5.out t.n ys o4
    exact ⟨rfl, rfl, o5⟩
end Go.Proofs.YthdioeeanodjiaaDoor

namespace Go.Proofs.YthdioeeanodjiaaDoor
open Go.ChangeShapes Go.WideShapes Go.ChangeAt Go.RowKit
set_option linter.unusedVariables false

theorem make_rows (t e : TypeId) (z : Value) (k b : Nat) (ht : Tryd.prog.underlying t = some (.slice e)) (hinfo : (Tryd.prog.info? e).map (fun i => (i.zero, i.size, i.bytes)) = some (some z, k, b)) (n : Nat) (hn : n ≤ 1000) (hb : b ≤ 1000) (w : World) :
    (Instr.makeSlice t (.int .i64 (n : Int)) (.int .i64 (n : Int))).run Tryd.prog w = .ok (.slice (some ⟨w.heap.size, 0, none⟩) n n) (w.alloc (.cells (madeCells z.cells (n * k)) e)) := by
  obtain ⟨i, hi, hzz⟩ := Option.map_eq_some_iff.1 hinfo
  simp only [Prod.mk.injEq] at hzz
  obtain ⟨hz, hs, hb2⟩ := hzz
  have h9 : i.bytes * n ≤ 1000 * 1000 := Nat.mul_le_mul (by omega) hn
  have hb' : (i.bytes : Int) * (n : Int) ≤ 281474976710656 := by
    rw [← Int.natCast_mul]
    omega
  have hr := run_make (P := Tryd.prog) w t e i z ht hi hz .i64 .i64 n n (by omega) (Int.le_refl _) hb' (by omega)
  simp only [Int.toNat_natCast, hs] at hr
  exact hr
theorem RowV.made (w : World) (zs : Array Value) (k n : Nat) (e : TypeId) (hk : zs.size = k) (h0 : 0 < k) : RowV k (w.alloc (.cells (madeCells zs (n * k)) e)) w.heap.size (List.replicate n zs.toList) := fun i ys hi => by
  obtain ⟨hl, e1⟩ := List.getElem?_eq_some_iff.1 hi
  rw [List.length_replicate] at hl
  rw [List.getElem_replicate] at e1
  subst e1
  refine ⟨by simpa using hk, fun j v hv => ?_⟩
  have hj : j < k := by
    have := (List.getElem?_eq_some_iff.1 hv).1
    simp at this
    omega
  have hb : i * k + j < n * k := by
    have : (i + 1) * k ≤ n * k := Nat.mul_le_mul_right k hl
    rw [Nat.succ_mul] at this
    omega
  rw [World.cell?_alloc_new]
  have hm : (i * k + j) % k = j := by rw [Nat.mul_comm, Nat.mul_add_mod, Nat.mod_eq_of_lt hj]
  have hz : zs[j]? = some v := by simpa using hv
  obtain ⟨hj2, e2⟩ := Array.getElem?_eq_some_iff.1 hz
  simp [madeCells, hb, hk, hm, getElem!_pos zs j hj2, e2]
def armC (a : ArmD) : List Value := [.int .i64 a.fr, .int .i64 a.v]
def insC (x : InsD) : List Value := [.int .i64 x.op, .int .i64 x.d, .int .i64 x.a, .int .i64 x.b, .int .i64 x.n]
/-- What was read of a list so far: k of n. -/
def SoFar {α : Type} (N : α → List Int) (lim : α → Prop) (most : Nat) (l : List UInt8) (p p' n k : Nat) (cur : List α) : Prop :=
  ∀ (L : List α) ys, L.length ≤ most → (∀ x ∈ L, lim x) → On l p ((L.length : Int) :: (L.flatMap N ++ ys)) → n = L.length ∧ cur.take k = L.take k ∧ On l p' ((L.drop k).flatMap N ++ ys)
theorem SoFar.step {α : Type} {N : α → List Int} {lim : α → Prop} {most : Nat} {l : List UInt8} {p p1 p2 n k : Nat} {cur : List α} (h : SoFar N lim most l p p1 n k cur) (hc : cur.length = n) (hk : k < n) {y : α} (hg : Got l p1 true p2 true N lim y) : SoFar N lim most l p p2 n (k + 1) (cur.set k y) := fun L ys h1 h2 ho => by
  obtain ⟨e1, e2, o1⟩ := h L ys h1 h2 ho
  have hkL : k < L.length := by omega
  rw [List.drop_eq_getElem_cons hkL, List.flatMap_cons, List.append_assoc] at o1
  obtain ⟨e3, _, o2⟩ := hg (L[k]) _ (h2 _ (List.getElem_mem hkL)) rfl o1
  refine ⟨e1, ?_, o2⟩
  rw [List.take_add_one, List.take_add_one, List.take_set_of_le (Nat.le_refl k), e2, List.getElem?_set_self (by omega), List.getElem?_eq_getElem hkL, e3]
theorem SoFar.whole {α : Type} {N : α → List Int} {lim : α → Prop} {most : Nat} {l : List UInt8} {p p1 n : Nat} {cur : List α} (h : SoFar N lim most l p p1 n n cur) (hc : cur.length = n) : Got l p true p1 true (fun L : List α => (L.length : Int) :: L.flatMap N) (fun L => L.length ≤ most ∧ ∀ x ∈ L, lim x) cur := fun L ys hl _ ho => by
  obtain ⟨e1, e2, o1⟩ := h L ys hl.1 hl.2 ho
  have h1 : cur = L := by rw [← List.take_of_length_le (Nat.le_of_eq hc), e2, List.take_of_length_le (Nat.le_of_eq e1.symm)]
  rw [List.drop_eq_nil_of_le (Nat.le_of_eq e1.symm)] at o1
  exact ⟨h1, rfl, o1⟩
theorem SoFar.zero {α : Type} {N : α → List Int} {lim : α → Prop} {most : Nat} {l : List UInt8} {p p1 n : Nat} {cur : List α} (h : ∀ (y : Nat) ys, (y : Int) ≤ most → On l p ((y : Int) :: ys) → n = y ∧ On l p1 ys) : SoFar N lim most l p p1 n 0 cur := fun L ys h1 _ ho => by
  obtain ⟨e1, o1⟩ := h L.length _ (by omega) ho
  exact ⟨e1, rfl, o1⟩
end Go.Proofs.YthdioeeanodjiaaDoor

namespace Go.Proofs.YthdioeeanodjiaaDoor
open Go.ChangeShapes Go.WideShapes Go.ChangeAt Go.RowKit
set_option linter.unusedVariables false

/-- A list was read: its row of raw parts in a new block. -/
def GivesLs {α : Type} (k : Nat) (C : α → List Value) (N : α → List Int) (lim : α → Prop) (most : Nat) (w : World) (BX AX : Nat) (v : Value) (l : List UInt8) (p : Nat) (e : Ending) (w' : World) : Prop :=
  ∃ (L : List α) (g p' : Nat), e = .returned (.slice (some ⟨g, 0, none⟩) L.length L.length) ∧ L.length ≤ most ∧ w.heap.size ≤ g ∧ g < w'.heap.size ∧ RowV k w' g (L.map C) ∧ (∀ j, w'.frozen? ⟨g, j, none⟩ = false) ∧ RdI w' BX AX v l p' ∧ FrB AX w w' ∧ Got l p true p' true (fun L : List α => (L.length : Int) :: L.flatMap N) (fun L => L.length ≤ most ∧ ∀ x ∈ L, lim x) L
theorem froz_new (w : World) (cs : Array Value) (T : TypeId) (j : Nat) : (w.alloc (.cells cs T)).frozen? ⟨w.heap.size, j, none⟩ = false := by
  have h := World.alloc_heap_new w (.cells cs T)
  simp only [World.frozen?, h]
  simp
def armN1 (a : ArmD) : List Int := [a.fr, a.v]

set_option maxHeartbeats 8000000 in
theorem arms_any {w : World} {BX AX : Nat} {v : Value} {l : List UInt8} {p : Nat} (h : RdI w BX AX v l p) :
    Calls Tryd.prog 73 #[clo BX AX] w fun e w' => GivesLs 2 armC armN1 (fun _ => True) 16 w BX AX v l p e w' := by
  have HR0 : Hid (RdI w BX AX v l p) := h
  clear h
  go_enter Tryd.func73, Tryd.ntmps73
  go_wp2_with fail
  refine (count_any 16 (by omega) HR0.out).mono ?_
  rintro e w1 ⟨n, p1, rfl, hn, hR, hF, hS, hO⟩
  have hmk : (Instr.makeSlice 59 (.int .i64 (n : Int)) (.int .i64 (n : Int))).run Tryd.prog w1 = .ok (.slice (some ⟨w1.heap.size, 0, none⟩) n n) (w1.alloc (.cells (madeCells #[.int .i64 0, .int .i64 0] (n * 2)) 63)) := make_rows 59 63 (.agg #[.int .i64 0, .int .i64 0]) 2 16 Tryd.underlying59 (by kernel_rfl) n (by omega) (by omega) w1
  have HRm : Hid (RdI (w1.alloc (.cells (madeCells #[.int .i64 0, .int .i64 0] (n * 2)) 63)) BX AX v l p1) := hR.alloc _
  have HFm : Hid (FrB AX w (w1.alloc (.cells (madeCells #[.int .i64 0, .int .i64 0] (n * 2)) 63))) := hF.trans (FrB.ofBelow (Bel.alloc _ _))
  have HV : Hid (RowV 2 (w1.alloc (.cells (madeCells #[.int .i64 0, .int .i64 0] (n * 2)) 63)) w1.heap.size ((List.replicate n (⟨0, 0⟩ : ArmD)).map armC)) := by
    rw [List.map_replicate]
    exact RowV.made w1 _ 2 n _ rfl (by omega)
  have HZ : Hid (∀ j, (w1.alloc (.cells (madeCells #[.int .i64 0, .int .i64 0] (n * 2)) 63)).frozen? ⟨w1.heap.size, j, none⟩ = false) := froz_new _ _ _
  have HG : Hid (w.heap.size ≤ w1.heap.size ∧ w1.heap.size < (w1.alloc (.cells (madeCells #[.int .i64 0, .int .i64 0] (n * 2)) 63)).heap.size ∧ AX < w1.heap.size) := ⟨hF.size, by simp, hR.lt⟩
  have HO : Hid (∀ (y : Nat) ys, (y : Int) ≤ 16 → On l p ((y : Int) :: ys) → n = y ∧ On l p1 ys) := hO
  clear hR hF hS hO
  go_wp2_with fail
  clear hmk
  generalize w1.alloc (.cells (madeCells #[.int .i64 0, .int .i64 0] (n * 2)) 63) = w2 at HRm HFm HV HZ HG ⊢
  obtain ⟨g, hg⟩ : ∃ g, w1.heap.size = g := ⟨_, rfl⟩
  rw [hg] at HV HZ HG ⊢
  clear hg
  have HGA : Hid (g ≠ AX) := by have := HG.out.2.2; show _ ≠ _; omega
  go_loopw [10] (fun i wr => ∃ (k : Nat) (cur : List ArmD) (q : Nat), k ≤ n ∧ i = .int .i64 (k : Int) ∧ cur.length = n ∧ RdI wr BX AX v l q ∧ FrB AX w wr ∧ RowV 2 wr g (cur.map armC) ∧ (∀ j, wr.frozen? ⟨g, j, none⟩ = false) ∧ g < wr.heap.size ∧ SoFar armN1 (fun _ => True) 16 l p q n k cur) (fun i _ => n - (intOf i).toNat)
  case atStart => exact ⟨0, _, p1, Nat.zero_le _, rfl, List.length_replicate, HRm.out, HFm.out, HV.out, HZ.out, HG.out.2.1, SoFar.zero HO.out⟩
  case round =>
    obtain ⟨wq, hwq⟩ : ∃ x, x = wr := ⟨_, rfl⟩
    subst hwq
    obtain ⟨k, cur, q, hk, rfl, hc, hR, hF, hV, hZ, hG, hS⟩ := hrel
    have HC : Hid (cur.length = n) := hc
    have HRq : Hid (RdI wq BX AX v l q) := hR
    have HFq : Hid (FrB AX w wq) := hF
    have HVq : Hid (RowV 2 wq g (cur.map armC)) := hV
    have HZq : Hid (∀ j, wq.frozen? ⟨g, j, none⟩ = false) := hZ
    have HGq : Hid (g < wq.heap.size) := hG
    have HSq : Hid (SoFar armN1 (fun _ => True) 16 l p q n k cur) := hS
    clear hc hR hF hV hZ hG hS
    by_cases hlt : (k : Int) < (n : Int)
    · go_wp2_with fail
      refine (next_any HRq.out).mono ?_
      rintro e w3 ⟨x1, q1, rfl, hR, hF, hS, hO⟩
      have HR3 : Hid (RdI w3 BX AX v l q1) := hR
      have HF3 : Hid (FrB AX wq w3) := hF
      have HO3 : Hid (∀ y ys, On l q (y :: ys) → x1 = y ∧ On l q1 ys) := hO
      clear hR hF hS hO
      go_wp2_with fail
      refine (next_any HR3.out).mono ?_
      rintro e w4 ⟨x2, q2, rfl, hR, hF, hS, hO⟩
      have HR4 : Hid (RdI w4 BX AX v l q2) := hR
      have HF4 : Hid (FrB AX wq w4) := HF3.out.trans hF
      have HO4 : Hid (∀ y ys, On l q1 (y :: ys) → x2 = y ∧ On l q2 ys) := hO
      clear hR hF hS hO
      have he : w4.heap[g]? = wq.heap[g]? := HF4.out.block g HGq.out HGA.out
      have HV4 : Hid (RowV 2 w4 g (cur.map armC)) := HVq.out.same he
      have hz4 : ∀ j, w4.frozen? ⟨g, j, none⟩ = false := fun j => (show w4.frozen? ⟨g, j, none⟩ = wq.frozen? ⟨g, j, none⟩ by simp only [World.frozen?, he]).trans (HZq.out j)
      obtain ⟨y, hy⟩ : ∃ y, cur[k]? = some y := ⟨_, List.getElem?_eq_getElem (by have := HC.out; omega)⟩
      have hrow := (HV4.out k (armC y) (by rw [List.getElem?_map, hy]; rfl)).2
      have d0 : w4.cell? ⟨g, k * 2, none⟩ = some (.int .i64 y.fr) := hrow 0 _ rfl
      have d1 : w4.cell? ⟨g, k * 2 + 1, none⟩ = some (.int .i64 y.v) := hrow 1 _ rfl
      clear hrow he hy
      go_wp2_with fail
      obtain ⟨hR9, hF9⟩ := HR0.out.fill HR4.out (HFq.out.trans HF4.out) HG.out.1 (k * 2) (armC ⟨x1, x2⟩) (Q := g)
      have hV9 := HV4.out.put hz4 (i := k) (by rw [List.length_map, HC.out]; omega) (ys := armC ⟨x1, x2⟩) rfl
      rw [← List.map_set] at hV9
      exact ⟨⟨k + 1, cur.set k ⟨x1, x2⟩, q2, by omega, by simp, by rw [List.length_set, HC.out], hR9, hF9, hV9, fun j => (frozen_setCells g (armC ⟨x1, x2⟩) _ w4 _).trans (hz4 j), Nat.lt_of_lt_of_le HGq.out (Nat.le_trans HF4.out.size (Nat.le_of_eq (size_setCells g (armC ⟨x1, x2⟩) (k * 2) w4).symm)), HSq.out.step HC.out (by omega) (fun y0 ys _ _ ho => by
        obtain ⟨rfl, o1⟩ := HO3.out y0.fr ([y0.v] ++ ys) ho
        obtain ⟨rfl, o2⟩ := HO4.out y0.v ys o1
        exact ⟨rfl, rfl, o2⟩)⟩, by simp [intOf]; omega⟩
    · go_wp2_with fail
      go_ret
      obtain rfl : k = n := by omega
      exact ⟨cur, g, q, by rw [HC.out]; rfl, by rw [HC.out]; omega, HG.out.1, HGq.out, HVq.out, HZq.out, HRq.out, HFq.out, HSq.out.whole HC.out⟩
end Go.Proofs.YthdioeeanodjiaaDoor

namespace Go.Proofs.YthdioeeanodjiaaDoor
open Go.ChangeShapes Go.WideShapes Go.ChangeAt Go.RowKit
set_option linter.unusedVariables false

set_option maxHeartbeats 8000000 in
theorem list_any {w : World} {BX AX : Nat} {v : Value} {l : List UInt8} {p : Nat} (h : RdI w BX AX v l p) :
    Calls Tryd.prog 51 #[clo BX AX] w fun e w' => GivesLs 5 insC insN1 (fun x => Named x.op) 24 w BX AX v l p e w' := by
  have HR0 : Hid (RdI w BX AX v l p) := h
  clear h
  go_enter Tryd.func51, Tryd.ntmps51
  go_wp2_with fail
  refine (count_any 24 (by omega) HR0.out).mono ?_
  rintro e w1 ⟨n, p1, rfl, hn, hR, hF, hS, hO⟩
  have hmk : (Instr.makeSlice 42 (.int .i64 (n : Int)) (.int .i64 (n : Int))).run Tryd.prog w1 = .ok (.slice (some ⟨w1.heap.size, 0, none⟩) n n) (w1.alloc (.cells (madeCells #[.int .i64 0, .int .i64 0, .int .i64 0, .int .i64 0, .int .i64 0] (n * 5)) 50)) := make_rows 42 50 (.agg #[.int .i64 0, .int .i64 0, .int .i64 0, .int .i64 0, .int .i64 0]) 5 40 Tryd.underlying42 (by kernel_rfl) n (by omega) (by omega) w1
  have HRm : Hid (RdI (w1.alloc (.cells (madeCells #[.int .i64 0, .int .i64 0, .int .i64 0, .int .i64 0, .int .i64 0] (n * 5)) 50)) BX AX v l p1) := hR.alloc _
  have HFm : Hid (FrB AX w (w1.alloc (.cells (madeCells #[.int .i64 0, .int .i64 0, .int .i64 0, .int .i64 0, .int .i64 0] (n * 5)) 50))) := hF.trans (FrB.ofBelow (Bel.alloc _ _))
  have HV : Hid (RowV 5 (w1.alloc (.cells (madeCells #[.int .i64 0, .int .i64 0, .int .i64 0, .int .i64 0, .int .i64 0] (n * 5)) 50)) w1.heap.size ((List.replicate n (⟨0, 0, 0, 0, 0⟩ : InsD)).map insC)) := by
    rw [List.map_replicate]
    exact RowV.made w1 _ 5 n _ rfl (by omega)
  have HZ : Hid (∀ j, (w1.alloc (.cells (madeCells #[.int .i64 0, .int .i64 0, .int .i64 0, .int .i64 0, .int .i64 0] (n * 5)) 50)).frozen? ⟨w1.heap.size, j, none⟩ = false) := froz_new _ _ _
  have HG : Hid (w.heap.size ≤ w1.heap.size ∧ w1.heap.size < (w1.alloc (.cells (madeCells #[.int .i64 0, .int .i64 0, .int .i64 0, .int .i64 0, .int .i64 0] (n * 5)) 50)).heap.size ∧ AX < w1.heap.size) := ⟨hF.size, by simp, hR.lt⟩
  have HO : Hid (∀ (y : Nat) ys, (y : Int) ≤ 24 → On l p ((y : Int) :: ys) → n = y ∧ On l p1 ys) := hO
  clear hR hF hS hO
  go_wp2_with fail
  clear hmk
  generalize w1.alloc (.cells (madeCells #[.int .i64 0, .int .i64 0, .int .i64 0, .int .i64 0, .int .i64 0] (n * 5)) 50) = w2 at HRm HFm HV HZ HG ⊢
  obtain ⟨g, hg⟩ : ∃ g, w1.heap.size = g := ⟨_, rfl⟩
  rw [hg] at HV HZ HG ⊢
  clear hg
  have HGA : Hid (g ≠ AX) := by have := HG.out.2.2; show _ ≠ _; omega
  go_loopw [10] (fun i wr => ∃ (k : Nat) (cur : List InsD) (q : Nat), k ≤ n ∧ i = .int .i64 (k : Int) ∧ cur.length = n ∧ RdI wr BX AX v l q ∧ FrB AX w wr ∧ RowV 5 wr g (cur.map insC) ∧ (∀ j, wr.frozen? ⟨g, j, none⟩ = false) ∧ g < wr.heap.size ∧ SoFar insN1 (fun x => Named x.op) 24 l p q n k cur) (fun i _ => n - (intOf i).toNat)
  case atStart => exact ⟨0, _, p1, Nat.zero_le _, rfl, List.length_replicate, HRm.out, HFm.out, HV.out, HZ.out, HG.out.2.1, SoFar.zero HO.out⟩
  case round =>
    obtain ⟨wq, hwq⟩ : ∃ x, x = wr := ⟨_, rfl⟩
    subst hwq
    obtain ⟨k, cur, q, hk, rfl, hc, hR, hF, hV, hZ, hG, hS⟩ := hrel
    have HC : Hid (cur.length = n) := hc
    have HRq : Hid (RdI wq BX AX v l q) := hR
    have HFq : Hid (FrB AX w wq) := hF
    have HVq : Hid (RowV 5 wq g (cur.map insC)) := hV
    have HZq : Hid (∀ j, wq.frozen? ⟨g, j, none⟩ = false) := hZ
    have HGq : Hid (g < wq.heap.size) := hG
    have HSq : Hid (SoFar insN1 (fun x => Named x.op) 24 l p q n k cur) := hS
    clear hc hR hF hV hZ hG hS
    by_cases hlt : (k : Int) < (n : Int)
    · go_wp2_with fail
      refine (ins_any HRq.out).mono ?_
      rintro e w4 ⟨x, q2, rfl, hR, hF, hO⟩
      have HR4 : Hid (RdI w4 BX AX v l q2) := hR
      have HF4 : Hid (FrB AX wq w4) := hF
      have HO4 : Hid (Got l q true q2 true insN1 (fun x => Named x.op) x) := hO
      clear hR hF hO
      have he : w4.heap[g]? = wq.heap[g]? := HF4.out.block g HGq.out HGA.out
      have HV4 : Hid (RowV 5 w4 g (cur.map insC)) := HVq.out.same he
      have hz4 : ∀ j, w4.frozen? ⟨g, j, none⟩ = false := fun j => (show w4.frozen? ⟨g, j, none⟩ = wq.frozen? ⟨g, j, none⟩ by simp only [World.frozen?, he]).trans (HZq.out j)
      obtain ⟨y, hy⟩ : ∃ y, cur[k]? = some y := ⟨_, List.getElem?_eq_getElem (by have := HC.out; omega)⟩
      have hrow := (HV4.out k (insC y) (by rw [List.getElem?_map, hy]; rfl)).2
      have d0 : w4.cell? ⟨g, k * 5, none⟩ = some (.int .i64 y.op) := hrow 0 _ rfl
      have d1 : w4.cell? ⟨g, k * 5 + 1, none⟩ = some (.int .i64 y.d) := hrow 1 _ rfl
      have d2 : w4.cell? ⟨g, k * 5 + 2, none⟩ = some (.int .i64 y.a) := hrow 2 _ rfl
      have d3 : w4.cell? ⟨g, k * 5 + 3, none⟩ = some (.int .i64 y.b) := hrow 3 _ rfl
      have d4 : w4.cell? ⟨g, k * 5 + 4, none⟩ = some (.int .i64 y.n) := hrow 4 _ rfl
      clear hrow he hy
      go_wp2_with fail
      obtain ⟨hR9, hF9⟩ := HR0.out.fill HR4.out (HFq.out.trans HF4.out) HG.out.1 (k * 5) (insC x) (Q := g)
      have hV9 := HV4.out.put hz4 (i := k) (by rw [List.length_map, HC.out]; omega) (ys := insC x) rfl
      rw [← List.map_set] at hV9
      exact ⟨⟨k + 1, cur.set k x, q2, by omega, by simp, by rw [List.length_set, HC.out], hR9, hF9, hV9, fun j => (frozen_setCells g (insC x) _ w4 _).trans (hz4 j), Nat.lt_of_lt_of_le HGq.out (Nat.le_trans HF4.out.size (Nat.le_of_eq (size_setCells g (insC x) (k * 5) w4).symm)), HSq.out.step HC.out (by omega) HO4.out⟩, by simp [intOf]; omega⟩
    · go_wp2_with fail
      go_ret
      obtain rfl : k = n := by omega
      exact ⟨cur, g, q, by rw [HC.out]; rfl, by rw [HC.out]; omega, HG.out.1, HGq.out, HVq.out, HZq.out, HRq.out, HFq.out, HSq.out.whole HC.out⟩
end Go.Proofs.YthdioeeanodjiaaDoor
